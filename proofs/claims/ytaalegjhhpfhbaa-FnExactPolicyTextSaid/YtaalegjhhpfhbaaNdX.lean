/- A part of a policy's text within another. -/
import Derived.Test.YtaalegjhhpfhbaaNdT
import Derived.Test.YtaalegjhhpfhbaaTy
namespace Go.Proofs.Ytaalegjhhpfhbaa
open Go.RowKit
set_option linter.unusedVariables false

set_option maxRecDepth 100000 in
set_option maxHeartbeats 4000000 in
theorem specIn3f (t : ByteArray) (q : Int) (w : World) (hs : t.size ≤ 6000) (h1 : 1 ≤ q) (h5 : q ≤ 5) :
    Calls Try.prog 56 #[.agg #[.string t, .int .i64 q], .int .i64 3, .bool false] w fun r w' => r = .returned (.string (brkT (decide (3 < q)) t)) ∧ Below w.heap.size w w' := by
  have HS0 : Hid (Sta [] w [] [] w) := Sta.start w
  go_enter Try.func56, Try.ntmps56
  have hq5 : q = 1 ∨ q = 2 ∨ q = 3 ∨ q = 4 ∨ q = 5 := by omega
  rcases hq5 with h | h | h | h | h
  · as_aux_lemma =>
    subst h
    have HR : Hid (brkT (decide ((3 : Int) < 1)) t = t) := rfl
    go_wp2_with (first
      | ((with_reducible refine wpList_boxV (w := w) (by with_unfolding_all rfl) 94 (.tmp 0) (by with_unfolding_all rfl) [.string t, .int .i64 1] (by with_unfolding_all rfl) ?_); intro w1 hA1 hB1 hS1; clear hS1; have HS1 := Sta.new HS0 hA1 hB1 (by simp); clear hA1 hB1; have cHS1_0_1 : w1.cell? ⟨w.heap.size, 1, none⟩ = some (.int .i64 1) := Sta.c (i := 0) HS1 rfl rfl; have cHS1_0_0 : w1.cell? ⟨w.heap.size, 0, none⟩ = some (.string t) := Sta.c (i := 0) HS1 rfl rfl))
    go_ret
    exact ⟨by rw [HR.out]; rfl, Sta.fin HS1⟩
  · as_aux_lemma =>
    subst h
    have HR : Hid (brkT (decide ((3 : Int) < 2)) t = t) := rfl
    go_wp2_with (first
      | ((with_reducible refine wpList_boxV (w := w) (by with_unfolding_all rfl) 94 (.tmp 0) (by with_unfolding_all rfl) [.string t, .int .i64 2] (by with_unfolding_all rfl) ?_); intro w2 hA2 hB2 hS2; clear hS2; have HS2 := Sta.new HS0 hA2 hB2 (by simp); clear hA2 hB2; have cHS2_0_1 : w2.cell? ⟨w.heap.size, 1, none⟩ = some (.int .i64 2) := Sta.c (i := 0) HS2 rfl rfl; have cHS2_0_0 : w2.cell? ⟨w.heap.size, 0, none⟩ = some (.string t) := Sta.c (i := 0) HS2 rfl rfl))
    go_ret
    exact ⟨by rw [HR.out]; rfl, Sta.fin HS2⟩
  · as_aux_lemma =>
    subst h
    have HR : Hid (brkT (decide ((3 : Int) < 3)) t = t) := rfl
    go_wp2_with (first
      | ((with_reducible refine wpList_boxV (w := w) (by with_unfolding_all rfl) 94 (.tmp 0) (by with_unfolding_all rfl) [.string t, .int .i64 3] (by with_unfolding_all rfl) ?_); intro w3 hA3 hB3 hS3; clear hS3; have HS3 := Sta.new HS0 hA3 hB3 (by simp); clear hA3 hB3; have cHS3_0_1 : w3.cell? ⟨w.heap.size, 1, none⟩ = some (.int .i64 3) := Sta.c (i := 0) HS3 rfl rfl; have cHS3_0_0 : w3.cell? ⟨w.heap.size, 0, none⟩ = some (.string t) := Sta.c (i := 0) HS3 rfl rfl))
    go_ret
    exact ⟨by rw [HR.out]; rfl, Sta.fin HS3⟩
  · as_aux_lemma =>
    subst h
    obtain ⟨X1, hX1⟩ : ∃ y, (⟨#[40, 32]⟩ : ByteArray) ++ t = y := ⟨_, rfl⟩
    obtain ⟨X2, hX2⟩ : ∃ y, X1 ++ (⟨#[32, 41]⟩ : ByteArray) = y := ⟨_, rfl⟩
    have z1 : X1.size = 2 + t.size := by rw [← hX1, ByteArray.size_append]; rfl
    have y1 : ¬ 9223372036854775807 < 2 + t.size := by omega
    have y2 : ¬ 9223372036854775807 < X1.size + 2 := by omega
    have HR : Hid (brkT (decide ((3 : Int) < 4)) t = X2) := by show _ = _; rw [← hX2, ← hX1]; rfl
    clear z1
    go_wp2_with (first
      | ((with_reducible refine wpList_boxV (w := w) (by with_unfolding_all rfl) 94 (.tmp 0) (by with_unfolding_all rfl) [.string t, .int .i64 4] (by with_unfolding_all rfl) ?_); intro w4 hA4 hB4 hS4; clear hS4; have HS4 := Sta.new HS0 hA4 hB4 (by simp); clear hA4 hB4; have cHS4_0_1 : w4.cell? ⟨w.heap.size, 1, none⟩ = some (.int .i64 4) := Sta.c (i := 0) HS4 rfl rfl; have cHS4_0_0 : w4.cell? ⟨w.heap.size, 0, none⟩ = some (.string t) := Sta.c (i := 0) HS4 rfl rfl))
    go_ret
    exact ⟨by rw [HR.out]; rfl, Sta.fin HS4⟩
  · as_aux_lemma =>
    subst h
    obtain ⟨X1, hX1⟩ : ∃ y, (⟨#[40, 32]⟩ : ByteArray) ++ t = y := ⟨_, rfl⟩
    obtain ⟨X2, hX2⟩ : ∃ y, X1 ++ (⟨#[32, 41]⟩ : ByteArray) = y := ⟨_, rfl⟩
    have z1 : X1.size = 2 + t.size := by rw [← hX1, ByteArray.size_append]; rfl
    have y1 : ¬ 9223372036854775807 < 2 + t.size := by omega
    have y2 : ¬ 9223372036854775807 < X1.size + 2 := by omega
    have HR : Hid (brkT (decide ((3 : Int) < 5)) t = X2) := by show _ = _; rw [← hX2, ← hX1]; rfl
    clear z1
    go_wp2_with (first
      | ((with_reducible refine wpList_boxV (w := w) (by with_unfolding_all rfl) 94 (.tmp 0) (by with_unfolding_all rfl) [.string t, .int .i64 5] (by with_unfolding_all rfl) ?_); intro w5 hA5 hB5 hS5; clear hS5; have HS5 := Sta.new HS0 hA5 hB5 (by simp); clear hA5 hB5; have cHS5_0_1 : w5.cell? ⟨w.heap.size, 1, none⟩ = some (.int .i64 5) := Sta.c (i := 0) HS5 rfl rfl; have cHS5_0_0 : w5.cell? ⟨w.heap.size, 0, none⟩ = some (.string t) := Sta.c (i := 0) HS5 rfl rfl))
    go_ret
    exact ⟨by rw [HR.out]; rfl, Sta.fin HS5⟩
set_option maxRecDepth 100000 in
set_option maxHeartbeats 4000000 in
theorem specIn4f (t : ByteArray) (q : Int) (w : World) (hs : t.size ≤ 6000) (h1 : 1 ≤ q) (h5 : q ≤ 5) :
    Calls Try.prog 56 #[.agg #[.string t, .int .i64 q], .int .i64 4, .bool false] w fun r w' => r = .returned (.string (brkT (decide (4 < q)) t)) ∧ Below w.heap.size w w' := by
  have HS0 : Hid (Sta [] w [] [] w) := Sta.start w
  go_enter Try.func56, Try.ntmps56
  have hq5 : q = 1 ∨ q = 2 ∨ q = 3 ∨ q = 4 ∨ q = 5 := by omega
  rcases hq5 with h | h | h | h | h
  · as_aux_lemma =>
    subst h
    have HR : Hid (brkT (decide ((4 : Int) < 1)) t = t) := rfl
    go_wp2_with (first
      | ((with_reducible refine wpList_boxV (w := w) (by with_unfolding_all rfl) 94 (.tmp 0) (by with_unfolding_all rfl) [.string t, .int .i64 1] (by with_unfolding_all rfl) ?_); intro w1 hA1 hB1 hS1; clear hS1; have HS1 := Sta.new HS0 hA1 hB1 (by simp); clear hA1 hB1; have cHS1_0_1 : w1.cell? ⟨w.heap.size, 1, none⟩ = some (.int .i64 1) := Sta.c (i := 0) HS1 rfl rfl; have cHS1_0_0 : w1.cell? ⟨w.heap.size, 0, none⟩ = some (.string t) := Sta.c (i := 0) HS1 rfl rfl))
    go_ret
    exact ⟨by rw [HR.out]; rfl, Sta.fin HS1⟩
  · as_aux_lemma =>
    subst h
    have HR : Hid (brkT (decide ((4 : Int) < 2)) t = t) := rfl
    go_wp2_with (first
      | ((with_reducible refine wpList_boxV (w := w) (by with_unfolding_all rfl) 94 (.tmp 0) (by with_unfolding_all rfl) [.string t, .int .i64 2] (by with_unfolding_all rfl) ?_); intro w2 hA2 hB2 hS2; clear hS2; have HS2 := Sta.new HS0 hA2 hB2 (by simp); clear hA2 hB2; have cHS2_0_1 : w2.cell? ⟨w.heap.size, 1, none⟩ = some (.int .i64 2) := Sta.c (i := 0) HS2 rfl rfl; have cHS2_0_0 : w2.cell? ⟨w.heap.size, 0, none⟩ = some (.string t) := Sta.c (i := 0) HS2 rfl rfl))
    go_ret
    exact ⟨by rw [HR.out]; rfl, Sta.fin HS2⟩
  · as_aux_lemma =>
    subst h
    have HR : Hid (brkT (decide ((4 : Int) < 3)) t = t) := rfl
    go_wp2_with (first
      | ((with_reducible refine wpList_boxV (w := w) (by with_unfolding_all rfl) 94 (.tmp 0) (by with_unfolding_all rfl) [.string t, .int .i64 3] (by with_unfolding_all rfl) ?_); intro w3 hA3 hB3 hS3; clear hS3; have HS3 := Sta.new HS0 hA3 hB3 (by simp); clear hA3 hB3; have cHS3_0_1 : w3.cell? ⟨w.heap.size, 1, none⟩ = some (.int .i64 3) := Sta.c (i := 0) HS3 rfl rfl; have cHS3_0_0 : w3.cell? ⟨w.heap.size, 0, none⟩ = some (.string t) := Sta.c (i := 0) HS3 rfl rfl))
    go_ret
    exact ⟨by rw [HR.out]; rfl, Sta.fin HS3⟩
  · as_aux_lemma =>
    subst h
    have HR : Hid (brkT (decide ((4 : Int) < 4)) t = t) := rfl
    go_wp2_with (first
      | ((with_reducible refine wpList_boxV (w := w) (by with_unfolding_all rfl) 94 (.tmp 0) (by with_unfolding_all rfl) [.string t, .int .i64 4] (by with_unfolding_all rfl) ?_); intro w4 hA4 hB4 hS4; clear hS4; have HS4 := Sta.new HS0 hA4 hB4 (by simp); clear hA4 hB4; have cHS4_0_1 : w4.cell? ⟨w.heap.size, 1, none⟩ = some (.int .i64 4) := Sta.c (i := 0) HS4 rfl rfl; have cHS4_0_0 : w4.cell? ⟨w.heap.size, 0, none⟩ = some (.string t) := Sta.c (i := 0) HS4 rfl rfl))
    go_ret
    exact ⟨by rw [HR.out]; rfl, Sta.fin HS4⟩
  · as_aux_lemma =>
    subst h
    obtain ⟨X1, hX1⟩ : ∃ y, (⟨#[40, 32]⟩ : ByteArray) ++ t = y := ⟨_, rfl⟩
    obtain ⟨X2, hX2⟩ : ∃ y, X1 ++ (⟨#[32, 41]⟩ : ByteArray) = y := ⟨_, rfl⟩
    have z1 : X1.size = 2 + t.size := by rw [← hX1, ByteArray.size_append]; rfl
    have y1 : ¬ 9223372036854775807 < 2 + t.size := by omega
    have y2 : ¬ 9223372036854775807 < X1.size + 2 := by omega
    have HR : Hid (brkT (decide ((4 : Int) < 5)) t = X2) := by show _ = _; rw [← hX2, ← hX1]; rfl
    clear z1
    go_wp2_with (first
      | ((with_reducible refine wpList_boxV (w := w) (by with_unfolding_all rfl) 94 (.tmp 0) (by with_unfolding_all rfl) [.string t, .int .i64 5] (by with_unfolding_all rfl) ?_); intro w5 hA5 hB5 hS5; clear hS5; have HS5 := Sta.new HS0 hA5 hB5 (by simp); clear hA5 hB5; have cHS5_0_1 : w5.cell? ⟨w.heap.size, 1, none⟩ = some (.int .i64 5) := Sta.c (i := 0) HS5 rfl rfl; have cHS5_0_0 : w5.cell? ⟨w.heap.size, 0, none⟩ = some (.string t) := Sta.c (i := 0) HS5 rfl rfl))
    go_ret
    exact ⟨by rw [HR.out]; rfl, Sta.fin HS5⟩
set_option maxRecDepth 100000 in
set_option maxHeartbeats 4000000 in
theorem specIn5f (t : ByteArray) (q : Int) (w : World) (hs : t.size ≤ 6000) (h1 : 1 ≤ q) (h5 : q ≤ 5) :
    Calls Try.prog 56 #[.agg #[.string t, .int .i64 q], .int .i64 5, .bool false] w fun r w' => r = .returned (.string (brkT (decide (5 < q)) t)) ∧ Below w.heap.size w w' := by
  have HS0 : Hid (Sta [] w [] [] w) := Sta.start w
  go_enter Try.func56, Try.ntmps56
  have hq5 : q = 1 ∨ q = 2 ∨ q = 3 ∨ q = 4 ∨ q = 5 := by omega
  rcases hq5 with h | h | h | h | h
  · as_aux_lemma =>
    subst h
    have HR : Hid (brkT (decide ((5 : Int) < 1)) t = t) := rfl
    go_wp2_with (first
      | ((with_reducible refine wpList_boxV (w := w) (by with_unfolding_all rfl) 94 (.tmp 0) (by with_unfolding_all rfl) [.string t, .int .i64 1] (by with_unfolding_all rfl) ?_); intro w1 hA1 hB1 hS1; clear hS1; have HS1 := Sta.new HS0 hA1 hB1 (by simp); clear hA1 hB1; have cHS1_0_1 : w1.cell? ⟨w.heap.size, 1, none⟩ = some (.int .i64 1) := Sta.c (i := 0) HS1 rfl rfl; have cHS1_0_0 : w1.cell? ⟨w.heap.size, 0, none⟩ = some (.string t) := Sta.c (i := 0) HS1 rfl rfl))
    go_ret
    exact ⟨by rw [HR.out]; rfl, Sta.fin HS1⟩
  · as_aux_lemma =>
    subst h
    have HR : Hid (brkT (decide ((5 : Int) < 2)) t = t) := rfl
    go_wp2_with (first
      | ((with_reducible refine wpList_boxV (w := w) (by with_unfolding_all rfl) 94 (.tmp 0) (by with_unfolding_all rfl) [.string t, .int .i64 2] (by with_unfolding_all rfl) ?_); intro w2 hA2 hB2 hS2; clear hS2; have HS2 := Sta.new HS0 hA2 hB2 (by simp); clear hA2 hB2; have cHS2_0_1 : w2.cell? ⟨w.heap.size, 1, none⟩ = some (.int .i64 2) := Sta.c (i := 0) HS2 rfl rfl; have cHS2_0_0 : w2.cell? ⟨w.heap.size, 0, none⟩ = some (.string t) := Sta.c (i := 0) HS2 rfl rfl))
    go_ret
    exact ⟨by rw [HR.out]; rfl, Sta.fin HS2⟩
  · as_aux_lemma =>
    subst h
    have HR : Hid (brkT (decide ((5 : Int) < 3)) t = t) := rfl
    go_wp2_with (first
      | ((with_reducible refine wpList_boxV (w := w) (by with_unfolding_all rfl) 94 (.tmp 0) (by with_unfolding_all rfl) [.string t, .int .i64 3] (by with_unfolding_all rfl) ?_); intro w3 hA3 hB3 hS3; clear hS3; have HS3 := Sta.new HS0 hA3 hB3 (by simp); clear hA3 hB3; have cHS3_0_1 : w3.cell? ⟨w.heap.size, 1, none⟩ = some (.int .i64 3) := Sta.c (i := 0) HS3 rfl rfl; have cHS3_0_0 : w3.cell? ⟨w.heap.size, 0, none⟩ = some (.string t) := Sta.c (i := 0) HS3 rfl rfl))
    go_ret
    exact ⟨by rw [HR.out]; rfl, Sta.fin HS3⟩
  · as_aux_lemma =>
    subst h
    have HR : Hid (brkT (decide ((5 : Int) < 4)) t = t) := rfl
    go_wp2_with (first
      | ((with_reducible refine wpList_boxV (w := w) (by with_unfolding_all rfl) 94 (.tmp 0) (by with_unfolding_all rfl) [.string t, .int .i64 4] (by with_unfolding_all rfl) ?_); intro w4 hA4 hB4 hS4; clear hS4; have HS4 := Sta.new HS0 hA4 hB4 (by simp); clear hA4 hB4; have cHS4_0_1 : w4.cell? ⟨w.heap.size, 1, none⟩ = some (.int .i64 4) := Sta.c (i := 0) HS4 rfl rfl; have cHS4_0_0 : w4.cell? ⟨w.heap.size, 0, none⟩ = some (.string t) := Sta.c (i := 0) HS4 rfl rfl))
    go_ret
    exact ⟨by rw [HR.out]; rfl, Sta.fin HS4⟩
  · as_aux_lemma =>
    subst h
    have HR : Hid (brkT (decide ((5 : Int) < 5)) t = t) := rfl
    go_wp2_with (first
      | ((with_reducible refine wpList_boxV (w := w) (by with_unfolding_all rfl) 94 (.tmp 0) (by with_unfolding_all rfl) [.string t, .int .i64 5] (by with_unfolding_all rfl) ?_); intro w5 hA5 hB5 hS5; clear hS5; have HS5 := Sta.new HS0 hA5 hB5 (by simp); clear hA5 hB5; have cHS5_0_1 : w5.cell? ⟨w.heap.size, 1, none⟩ = some (.int .i64 5) := Sta.c (i := 0) HS5 rfl rfl; have cHS5_0_0 : w5.cell? ⟨w.heap.size, 0, none⟩ = some (.string t) := Sta.c (i := 0) HS5 rfl rfl))
    go_ret
    exact ⟨by rw [HR.out]; rfl, Sta.fin HS5⟩
set_option maxRecDepth 100000 in
set_option maxHeartbeats 4000000 in
theorem specIn4t (t : ByteArray) (q : Int) (w : World) (hs : t.size ≤ 6000) (h1 : 1 ≤ q) (h5 : q ≤ 5) :
    Calls Try.prog 56 #[.agg #[.string t, .int .i64 q], .int .i64 4, .bool true] w fun r w' => r = .returned (.string (brkT (decide (3 < q)) t)) ∧ Below w.heap.size w w' := by
  have HS0 : Hid (Sta [] w [] [] w) := Sta.start w
  go_enter Try.func56, Try.ntmps56
  have hq5 : q = 1 ∨ q = 2 ∨ q = 3 ∨ q = 4 ∨ q = 5 := by omega
  rcases hq5 with h | h | h | h | h
  · as_aux_lemma =>
    subst h
    have HR : Hid (brkT (decide ((3 : Int) < 1)) t = t) := rfl
    go_wp2_with (first
      | ((with_reducible refine wpList_boxV (w := w) (by with_unfolding_all rfl) 94 (.tmp 0) (by with_unfolding_all rfl) [.string t, .int .i64 1] (by with_unfolding_all rfl) ?_); intro w1 hA1 hB1 hS1; clear hS1; have HS1 := Sta.new HS0 hA1 hB1 (by simp); clear hA1 hB1; have cHS1_0_1 : w1.cell? ⟨w.heap.size, 1, none⟩ = some (.int .i64 1) := Sta.c (i := 0) HS1 rfl rfl; have cHS1_0_0 : w1.cell? ⟨w.heap.size, 0, none⟩ = some (.string t) := Sta.c (i := 0) HS1 rfl rfl))
    go_ret
    exact ⟨by rw [HR.out]; rfl, Sta.fin HS1⟩
  · as_aux_lemma =>
    subst h
    have HR : Hid (brkT (decide ((3 : Int) < 2)) t = t) := rfl
    go_wp2_with (first
      | ((with_reducible refine wpList_boxV (w := w) (by with_unfolding_all rfl) 94 (.tmp 0) (by with_unfolding_all rfl) [.string t, .int .i64 2] (by with_unfolding_all rfl) ?_); intro w2 hA2 hB2 hS2; clear hS2; have HS2 := Sta.new HS0 hA2 hB2 (by simp); clear hA2 hB2; have cHS2_0_1 : w2.cell? ⟨w.heap.size, 1, none⟩ = some (.int .i64 2) := Sta.c (i := 0) HS2 rfl rfl; have cHS2_0_0 : w2.cell? ⟨w.heap.size, 0, none⟩ = some (.string t) := Sta.c (i := 0) HS2 rfl rfl))
    go_ret
    exact ⟨by rw [HR.out]; rfl, Sta.fin HS2⟩
  · as_aux_lemma =>
    subst h
    have HR : Hid (brkT (decide ((3 : Int) < 3)) t = t) := rfl
    go_wp2_with (first
      | ((with_reducible refine wpList_boxV (w := w) (by with_unfolding_all rfl) 94 (.tmp 0) (by with_unfolding_all rfl) [.string t, .int .i64 3] (by with_unfolding_all rfl) ?_); intro w3 hA3 hB3 hS3; clear hS3; have HS3 := Sta.new HS0 hA3 hB3 (by simp); clear hA3 hB3; have cHS3_0_1 : w3.cell? ⟨w.heap.size, 1, none⟩ = some (.int .i64 3) := Sta.c (i := 0) HS3 rfl rfl; have cHS3_0_0 : w3.cell? ⟨w.heap.size, 0, none⟩ = some (.string t) := Sta.c (i := 0) HS3 rfl rfl))
    go_ret
    exact ⟨by rw [HR.out]; rfl, Sta.fin HS3⟩
  · as_aux_lemma =>
    subst h
    obtain ⟨X1, hX1⟩ : ∃ y, (⟨#[40, 32]⟩ : ByteArray) ++ t = y := ⟨_, rfl⟩
    obtain ⟨X2, hX2⟩ : ∃ y, X1 ++ (⟨#[32, 41]⟩ : ByteArray) = y := ⟨_, rfl⟩
    have z1 : X1.size = 2 + t.size := by rw [← hX1, ByteArray.size_append]; rfl
    have y1 : ¬ 9223372036854775807 < 2 + t.size := by omega
    have y2 : ¬ 9223372036854775807 < X1.size + 2 := by omega
    have HR : Hid (brkT (decide ((3 : Int) < 4)) t = X2) := by show _ = _; rw [← hX2, ← hX1]; rfl
    clear z1
    go_wp2_with (first
      | ((with_reducible refine wpList_boxV (w := w) (by with_unfolding_all rfl) 94 (.tmp 0) (by with_unfolding_all rfl) [.string t, .int .i64 4] (by with_unfolding_all rfl) ?_); intro w4 hA4 hB4 hS4; clear hS4; have HS4 := Sta.new HS0 hA4 hB4 (by simp); clear hA4 hB4; have cHS4_0_1 : w4.cell? ⟨w.heap.size, 1, none⟩ = some (.int .i64 4) := Sta.c (i := 0) HS4 rfl rfl; have cHS4_0_0 : w4.cell? ⟨w.heap.size, 0, none⟩ = some (.string t) := Sta.c (i := 0) HS4 rfl rfl))
    go_ret
    exact ⟨by rw [HR.out]; rfl, Sta.fin HS4⟩
  · as_aux_lemma =>
    subst h
    obtain ⟨X1, hX1⟩ : ∃ y, (⟨#[40, 32]⟩ : ByteArray) ++ t = y := ⟨_, rfl⟩
    obtain ⟨X2, hX2⟩ : ∃ y, X1 ++ (⟨#[32, 41]⟩ : ByteArray) = y := ⟨_, rfl⟩
    have z1 : X1.size = 2 + t.size := by rw [← hX1, ByteArray.size_append]; rfl
    have y1 : ¬ 9223372036854775807 < 2 + t.size := by omega
    have y2 : ¬ 9223372036854775807 < X1.size + 2 := by omega
    have HR : Hid (brkT (decide ((3 : Int) < 5)) t = X2) := by show _ = _; rw [← hX2, ← hX1]; rfl
    clear z1
    go_wp2_with (first
      | ((with_reducible refine wpList_boxV (w := w) (by with_unfolding_all rfl) 94 (.tmp 0) (by with_unfolding_all rfl) [.string t, .int .i64 5] (by with_unfolding_all rfl) ?_); intro w5 hA5 hB5 hS5; clear hS5; have HS5 := Sta.new HS0 hA5 hB5 (by simp); clear hA5 hB5; have cHS5_0_1 : w5.cell? ⟨w.heap.size, 1, none⟩ = some (.int .i64 5) := Sta.c (i := 0) HS5 rfl rfl; have cHS5_0_0 : w5.cell? ⟨w.heap.size, 0, none⟩ = some (.string t) := Sta.c (i := 0) HS5 rfl rfl))
    go_ret
    exact ⟨by rw [HR.out]; rfl, Sta.fin HS5⟩
set_option maxRecDepth 100000 in
set_option maxHeartbeats 4000000 in
theorem specIn5t (t : ByteArray) (q : Int) (w : World) (hs : t.size ≤ 6000) (h1 : 1 ≤ q) (h5 : q ≤ 5) :
    Calls Try.prog 56 #[.agg #[.string t, .int .i64 q], .int .i64 5, .bool true] w fun r w' => r = .returned (.string (brkT (decide (4 < q)) t)) ∧ Below w.heap.size w w' := by
  have HS0 : Hid (Sta [] w [] [] w) := Sta.start w
  go_enter Try.func56, Try.ntmps56
  have hq5 : q = 1 ∨ q = 2 ∨ q = 3 ∨ q = 4 ∨ q = 5 := by omega
  rcases hq5 with h | h | h | h | h
  · as_aux_lemma =>
    subst h
    have HR : Hid (brkT (decide ((4 : Int) < 1)) t = t) := rfl
    go_wp2_with (first
      | ((with_reducible refine wpList_boxV (w := w) (by with_unfolding_all rfl) 94 (.tmp 0) (by with_unfolding_all rfl) [.string t, .int .i64 1] (by with_unfolding_all rfl) ?_); intro w1 hA1 hB1 hS1; clear hS1; have HS1 := Sta.new HS0 hA1 hB1 (by simp); clear hA1 hB1; have cHS1_0_1 : w1.cell? ⟨w.heap.size, 1, none⟩ = some (.int .i64 1) := Sta.c (i := 0) HS1 rfl rfl; have cHS1_0_0 : w1.cell? ⟨w.heap.size, 0, none⟩ = some (.string t) := Sta.c (i := 0) HS1 rfl rfl))
    go_ret
    exact ⟨by rw [HR.out]; rfl, Sta.fin HS1⟩
  · as_aux_lemma =>
    subst h
    have HR : Hid (brkT (decide ((4 : Int) < 2)) t = t) := rfl
    go_wp2_with (first
      | ((with_reducible refine wpList_boxV (w := w) (by with_unfolding_all rfl) 94 (.tmp 0) (by with_unfolding_all rfl) [.string t, .int .i64 2] (by with_unfolding_all rfl) ?_); intro w2 hA2 hB2 hS2; clear hS2; have HS2 := Sta.new HS0 hA2 hB2 (by simp); clear hA2 hB2; have cHS2_0_1 : w2.cell? ⟨w.heap.size, 1, none⟩ = some (.int .i64 2) := Sta.c (i := 0) HS2 rfl rfl; have cHS2_0_0 : w2.cell? ⟨w.heap.size, 0, none⟩ = some (.string t) := Sta.c (i := 0) HS2 rfl rfl))
    go_ret
    exact ⟨by rw [HR.out]; rfl, Sta.fin HS2⟩
  · as_aux_lemma =>
    subst h
    have HR : Hid (brkT (decide ((4 : Int) < 3)) t = t) := rfl
    go_wp2_with (first
      | ((with_reducible refine wpList_boxV (w := w) (by with_unfolding_all rfl) 94 (.tmp 0) (by with_unfolding_all rfl) [.string t, .int .i64 3] (by with_unfolding_all rfl) ?_); intro w3 hA3 hB3 hS3; clear hS3; have HS3 := Sta.new HS0 hA3 hB3 (by simp); clear hA3 hB3; have cHS3_0_1 : w3.cell? ⟨w.heap.size, 1, none⟩ = some (.int .i64 3) := Sta.c (i := 0) HS3 rfl rfl; have cHS3_0_0 : w3.cell? ⟨w.heap.size, 0, none⟩ = some (.string t) := Sta.c (i := 0) HS3 rfl rfl))
    go_ret
    exact ⟨by rw [HR.out]; rfl, Sta.fin HS3⟩
  · as_aux_lemma =>
    subst h
    have HR : Hid (brkT (decide ((4 : Int) < 4)) t = t) := rfl
    go_wp2_with (first
      | ((with_reducible refine wpList_boxV (w := w) (by with_unfolding_all rfl) 94 (.tmp 0) (by with_unfolding_all rfl) [.string t, .int .i64 4] (by with_unfolding_all rfl) ?_); intro w4 hA4 hB4 hS4; clear hS4; have HS4 := Sta.new HS0 hA4 hB4 (by simp); clear hA4 hB4; have cHS4_0_1 : w4.cell? ⟨w.heap.size, 1, none⟩ = some (.int .i64 4) := Sta.c (i := 0) HS4 rfl rfl; have cHS4_0_0 : w4.cell? ⟨w.heap.size, 0, none⟩ = some (.string t) := Sta.c (i := 0) HS4 rfl rfl))
    go_ret
    exact ⟨by rw [HR.out]; rfl, Sta.fin HS4⟩
  · as_aux_lemma =>
    subst h
    obtain ⟨X1, hX1⟩ : ∃ y, (⟨#[40, 32]⟩ : ByteArray) ++ t = y := ⟨_, rfl⟩
    obtain ⟨X2, hX2⟩ : ∃ y, X1 ++ (⟨#[32, 41]⟩ : ByteArray) = y := ⟨_, rfl⟩
    have z1 : X1.size = 2 + t.size := by rw [← hX1, ByteArray.size_append]; rfl
    have y1 : ¬ 9223372036854775807 < 2 + t.size := by omega
    have y2 : ¬ 9223372036854775807 < X1.size + 2 := by omega
    have HR : Hid (brkT (decide ((4 : Int) < 5)) t = X2) := by show _ = _; rw [← hX2, ← hX1]; rfl
    clear z1
    go_wp2_with (first
      | ((with_reducible refine wpList_boxV (w := w) (by with_unfolding_all rfl) 94 (.tmp 0) (by with_unfolding_all rfl) [.string t, .int .i64 5] (by with_unfolding_all rfl) ?_); intro w5 hA5 hB5 hS5; clear hS5; have HS5 := Sta.new HS0 hA5 hB5 (by simp); clear hA5 hB5; have cHS5_0_1 : w5.cell? ⟨w.heap.size, 1, none⟩ = some (.int .i64 5) := Sta.c (i := 0) HS5 rfl rfl; have cHS5_0_0 : w5.cell? ⟨w.heap.size, 0, none⟩ = some (.string t) := Sta.c (i := 0) HS5 rfl rfl))
    go_ret
    exact ⟨by rw [HR.out]; rfl, Sta.fin HS5⟩
end Go.Proofs.Ytaalegjhhpfhbaa
