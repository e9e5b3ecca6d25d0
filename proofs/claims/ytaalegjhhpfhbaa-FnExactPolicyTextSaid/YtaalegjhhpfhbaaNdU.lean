/- PolicyText of the program. -/
import Derived.Test.YtaalegjhhpfhbaaNdT
import Derived.Deep.RegionHeld3
namespace Go.Proofs.Ytaalegjhhpfhbaa
open Go.RowKit
set_option linter.unusedVariables false

theorem text_par4 (P Q : ByteArray) : (P ++ wordN 4) ++ Q = (((P ++ (⟨#[32]⟩ : ByteArray)) ++ (⟨#[97, 110, 100]⟩ : ByteArray)) ++ (⟨#[32]⟩ : ByteArray)) ++ Q := by
  have e : wordN 4 = (⟨#[32]⟩ : ByteArray) ++ ((⟨#[97, 110, 100]⟩ : ByteArray) ++ (⟨#[32]⟩ : ByteArray)) := by decide
  rw [e]
  simp only [ByteArray.append_assoc]
theorem text_par5 (P Q : ByteArray) : (P ++ wordN 5) ++ Q = (((P ++ (⟨#[32]⟩ : ByteArray)) ++ (⟨#[111, 114]⟩ : ByteArray)) ++ (⟨#[32]⟩ : ByteArray)) ++ Q := by
  have e : wordN 5 = (⟨#[32]⟩ : ByteArray) ++ ((⟨#[111, 114]⟩ : ByteArray) ++ (⟨#[32]⟩ : ByteArray)) := by decide
  rw [e]
  simp only [ByteArray.append_assoc]
set_option maxRecDepth 100000 in
set_option maxHeartbeats 4000000 in
theorem textNeg (q1 : Nd) (w : World) (ihw1 : TextW q1) (hs : (textN q1).size ≤ 6000) :
    Calls Try.prog 224 #[.agg #[ndV q1]] w fun r w' => r = .returned (.string (textN (.neg q1))) ∧ Below w.heap.size w w' := by
  obtain ⟨P1, hP1⟩ : ∃ y, brkT (decide (3 < opN q1)) (textN q1) = y := ⟨_, rfl⟩
  have sP1 : P1.size ≤ 6004 := by rw [← hP1]; exact Nat.le_trans (brkT_size _ _) (by omega)
  have ih1 : ∀ w, Calls Try.prog 225 #[ndV q1, .int .i64 3] w fun r w' => r = .returned (.string P1) ∧ Below w.heap.size w w' := by rw [← hP1]; exact fun w => ihw1 3 w (by decide)
  obtain ⟨X1, hX1⟩ : ∃ y, (⟨#[110, 111, 116, 32]⟩ : ByteArray) ++ P1 = y := ⟨_, rfl⟩
  have y1 : ¬ 9223372036854775807 < 4 + P1.size := by omega
  have HR : Hid (textN (.neg q1) = X1) := by show _ = _; rw [← hX1, ← hP1]; rfl
  clear hP1
  have hC1 : ∀ w0, Calls Try.prog 225 #[ndV q1, .int .i64 3] w0 fun r w' => r = .returned (.string P1) ∧ Below w0.heap.size w0 w' := fun w0 => ih1 w0
  have HS0 : Hid (Sta [] w [] [] w) := Sta.start w
  clear ihw1
  go_enter Try.func224, Try.ntmps224
  go_wp2_with (first
    | ((with_reducible refine wpList_boxV (w := w) (by with_unfolding_all rfl) 178 (.tmp 0) (by with_unfolding_all rfl) [ndV q1] (by with_unfolding_all rfl) ?_); intro w1 hA1 hB1 hS1; clear hS1; have HS1 := Sta.new HS0 hA1 hB1 (by simp); clear hA1 hB1; have cHS1_0_0 : w1.cell? ⟨w.heap.size, 0, none⟩ = some (ndV q1) := Sta.c (i := 0) HS1 rfl rfl)
    | (go_at_call 225; (with_reducible refine (hC1 w1).mono ?_); rintro r w2 ⟨rfl, hB2⟩; have HS2 := Sta.call HS1 hB2; clear hB2; clear cHS1_0_0))
  go_ret
  exact ⟨by rw [HR.out]; rfl, Sta.fin HS2⟩
set_option maxRecDepth 100000 in
set_option maxHeartbeats 8000000 in
theorem textPar4 (q1 q2 : Nd) (w : World) (ihw1 : TextW q1) (hs : (textN q1).size ≤ 6000) (ihw2 : TextW q2) (hs2 : (textN q2).size ≤ 6000) :
    Calls Try.prog 227 #[.agg #[.int .i64 4, ndV q1, ndV q2]] w fun r w' => r = .returned (.string (textN (.par 4 q1 q2))) ∧ Below w.heap.size w w' := by
  obtain ⟨P1, hP1⟩ : ∃ y, brkT (decide (4 < opN q1)) (textN q1) = y := ⟨_, rfl⟩
  have sP1 : P1.size ≤ 6004 := by rw [← hP1]; exact Nat.le_trans (brkT_size _ _) (by omega)
  have ih1 : ∀ w, Calls Try.prog 225 #[ndV q1, .int .i64 4] w fun r w' => r = .returned (.string P1) ∧ Below w.heap.size w w' := by rw [← hP1]; exact fun w => ihw1 4 w (by decide)
  obtain ⟨P2, hP2⟩ : ∃ y, brkT (decide (3 < opN q2)) (textN q2) = y := ⟨_, rfl⟩
  have sP2 : P2.size ≤ 6004 := by rw [← hP2]; exact Nat.le_trans (brkT_size _ _) (by omega)
  have ih2 : ∀ w, Calls Try.prog 225 #[ndV q2, .int .i64 3] w fun r w' => r = .returned (.string P2) ∧ Below w.heap.size w w' := by rw [← hP2]; exact fun w => ihw2 3 w (by decide)
  obtain ⟨X1, hX1⟩ : ∃ y, P1 ++ (⟨#[32]⟩ : ByteArray) = y := ⟨_, rfl⟩
  obtain ⟨X2, hX2⟩ : ∃ y, X1 ++ (⟨#[97, 110, 100]⟩ : ByteArray) = y := ⟨_, rfl⟩
  obtain ⟨X3, hX3⟩ : ∃ y, X2 ++ (⟨#[32]⟩ : ByteArray) = y := ⟨_, rfl⟩
  obtain ⟨X4, hX4⟩ : ∃ y, X3 ++ P2 = y := ⟨_, rfl⟩
  have z1 : X1.size = P1.size + 1 := by rw [← hX1, ByteArray.size_append]; rfl
  have z2 : X2.size = X1.size + 3 := by rw [← hX2, ByteArray.size_append]; rfl
  have z3 : X3.size = X2.size + 1 := by rw [← hX3, ByteArray.size_append]; rfl
  have y1 : ¬ 9223372036854775807 < P1.size + 1 := by omega
  have y2 : ¬ 9223372036854775807 < X1.size + 3 := by omega
  have y3 : ¬ 9223372036854775807 < X2.size + 1 := by omega
  have y4 : ¬ 9223372036854775807 < X3.size + P2.size := by omega
  have hsub : IntKind.i64.wrap ((4 : Int) - 1) = 3 := by decide
  have hsub2 : IntKind.i64.wrap 3 = 3 := by decide
  have HR : Hid (textN (.par 4 q1 q2) = X4) := by show _ = _; rw [← hX4, ← hX3, ← hX2, ← hX1, ← hP1, ← hP2]; exact text_par4 _ _
  clear hP1 hP2 z1 z2 z3
  have hC1 : ∀ w0, Calls Try.prog 225 #[ndV q1, .int .i64 4] w0 fun r w' => r = .returned (.string P1) ∧ Below w0.heap.size w0 w' := fun w0 => ih1 w0
  have hC2 : ∀ w0, Calls Try.prog 225 #[ndV q2, .int .i64 3] w0 fun r w' => r = .returned (.string P2) ∧ Below w0.heap.size w0 w' := fun w0 => ih2 w0
  have HS0 : Hid (Sta [] w [] [] w) := Sta.start w
  clear ihw1 ihw2
  go_enter Try.func227, Try.ntmps227
  go_wp2_with (first
    | ((with_reducible refine wpList_boxV (w := w) (by with_unfolding_all rfl) 180 (.tmp 0) (by with_unfolding_all rfl) [.int .i64 4, ndV q1, ndV q2] (by with_unfolding_all rfl) ?_); intro w1 hA1 hB1 hS1; clear hS1; have HS1 := Sta.new HS0 hA1 hB1 (by simp); clear hA1 hB1; have cHS1_0_0 : w1.cell? ⟨w.heap.size, 0, none⟩ = some (.int .i64 4) := Sta.c (i := 0) HS1 rfl rfl))
  have HS2 := Sta.drew HS1
  clear cHS1_0_0
  go_region_held3 (fun w' => w'.cell? ⟨w.heap.size, 1, none⟩ = some (ndV q1) ∧ w'.cell? ⟨w.heap.size, 0, none⟩ = some (.int .i64 4) ∧ w'.cell? ⟨w.heap.size, 2, none⟩ = some (ndV q2) ∧ Hid (Sta [] w [(w.heap.size, [.int .i64 4, ndV q1, ndV q2])] [] w'))
    (first | exact ⟨Sta.c (i := 0) (HS2) rfl rfl, Sta.c (i := 0) (HS2) rfl rfl, Sta.c (i := 0) (HS2) rfl rfl, (HS2)⟩ | exact ⟨Sta.c (i := 0) (Sta.call (HS2) hB3) rfl rfl, Sta.c (i := 0) (Sta.call (HS2) hB3) rfl rfl, Sta.c (i := 0) (Sta.call (HS2) hB3) rfl rfl, (Sta.call (HS2) hB3)⟩ | exact ⟨Sta.c (i := 0) (Sta.call (Sta.call (HS2) hB3) hB4) rfl rfl, Sta.c (i := 0) (Sta.call (Sta.call (HS2) hB3) hB4) rfl rfl, Sta.c (i := 0) (Sta.call (Sta.call (HS2) hB3) hB4) rfl rfl, (Sta.call (Sta.call (HS2) hB3) hB4)⟩)
    (first
      | (go_at_call 225; (with_reducible refine (hC1 _).mono ?_); rintro r w3 ⟨rfl, hB3⟩)
      | (go_at_call 225; (with_reducible refine (hC2 _).mono ?_); rintro r w4 ⟨rfl, hB4⟩))
  all_goals
    have HS5 := Sta.call (Sta.call (HS2) hB3) hB4
    go_wp2_with fail
    go_ret
    exact ⟨by rw [HR.out]; rfl, Sta.fin HS5⟩
set_option maxRecDepth 100000 in
set_option maxHeartbeats 8000000 in
theorem textPar5 (q1 q2 : Nd) (w : World) (ihw1 : TextW q1) (hs : (textN q1).size ≤ 6000) (ihw2 : TextW q2) (hs2 : (textN q2).size ≤ 6000) :
    Calls Try.prog 227 #[.agg #[.int .i64 5, ndV q1, ndV q2]] w fun r w' => r = .returned (.string (textN (.par 5 q1 q2))) ∧ Below w.heap.size w w' := by
  obtain ⟨P1, hP1⟩ : ∃ y, brkT (decide (5 < opN q1)) (textN q1) = y := ⟨_, rfl⟩
  have sP1 : P1.size ≤ 6004 := by rw [← hP1]; exact Nat.le_trans (brkT_size _ _) (by omega)
  have ih1 : ∀ w, Calls Try.prog 225 #[ndV q1, .int .i64 5] w fun r w' => r = .returned (.string P1) ∧ Below w.heap.size w w' := by rw [← hP1]; exact fun w => ihw1 5 w (by decide)
  obtain ⟨P2, hP2⟩ : ∃ y, brkT (decide (4 < opN q2)) (textN q2) = y := ⟨_, rfl⟩
  have sP2 : P2.size ≤ 6004 := by rw [← hP2]; exact Nat.le_trans (brkT_size _ _) (by omega)
  have ih2 : ∀ w, Calls Try.prog 225 #[ndV q2, .int .i64 4] w fun r w' => r = .returned (.string P2) ∧ Below w.heap.size w w' := by rw [← hP2]; exact fun w => ihw2 4 w (by decide)
  obtain ⟨X1, hX1⟩ : ∃ y, P1 ++ (⟨#[32]⟩ : ByteArray) = y := ⟨_, rfl⟩
  obtain ⟨X2, hX2⟩ : ∃ y, X1 ++ (⟨#[111, 114]⟩ : ByteArray) = y := ⟨_, rfl⟩
  obtain ⟨X3, hX3⟩ : ∃ y, X2 ++ (⟨#[32]⟩ : ByteArray) = y := ⟨_, rfl⟩
  obtain ⟨X4, hX4⟩ : ∃ y, X3 ++ P2 = y := ⟨_, rfl⟩
  have z1 : X1.size = P1.size + 1 := by rw [← hX1, ByteArray.size_append]; rfl
  have z2 : X2.size = X1.size + 2 := by rw [← hX2, ByteArray.size_append]; rfl
  have z3 : X3.size = X2.size + 1 := by rw [← hX3, ByteArray.size_append]; rfl
  have y1 : ¬ 9223372036854775807 < P1.size + 1 := by omega
  have y2 : ¬ 9223372036854775807 < X1.size + 2 := by omega
  have y3 : ¬ 9223372036854775807 < X2.size + 1 := by omega
  have y4 : ¬ 9223372036854775807 < X3.size + P2.size := by omega
  have hsub : IntKind.i64.wrap ((5 : Int) - 1) = 4 := by decide
  have hsub2 : IntKind.i64.wrap 4 = 4 := by decide
  have HR : Hid (textN (.par 5 q1 q2) = X4) := by show _ = _; rw [← hX4, ← hX3, ← hX2, ← hX1, ← hP1, ← hP2]; exact text_par5 _ _
  clear hP1 hP2 z1 z2 z3
  have hC1 : ∀ w0, Calls Try.prog 225 #[ndV q1, .int .i64 5] w0 fun r w' => r = .returned (.string P1) ∧ Below w0.heap.size w0 w' := fun w0 => ih1 w0
  have hC2 : ∀ w0, Calls Try.prog 225 #[ndV q2, .int .i64 4] w0 fun r w' => r = .returned (.string P2) ∧ Below w0.heap.size w0 w' := fun w0 => ih2 w0
  have HS0 : Hid (Sta [] w [] [] w) := Sta.start w
  clear ihw1 ihw2
  go_enter Try.func227, Try.ntmps227
  go_wp2_with (first
    | ((with_reducible refine wpList_boxV (w := w) (by with_unfolding_all rfl) 180 (.tmp 0) (by with_unfolding_all rfl) [.int .i64 5, ndV q1, ndV q2] (by with_unfolding_all rfl) ?_); intro w1 hA1 hB1 hS1; clear hS1; have HS1 := Sta.new HS0 hA1 hB1 (by simp); clear hA1 hB1; have cHS1_0_0 : w1.cell? ⟨w.heap.size, 0, none⟩ = some (.int .i64 5) := Sta.c (i := 0) HS1 rfl rfl))
  have HS2 := Sta.drew HS1
  clear cHS1_0_0
  go_region_held3 (fun w' => w'.cell? ⟨w.heap.size, 1, none⟩ = some (ndV q1) ∧ w'.cell? ⟨w.heap.size, 0, none⟩ = some (.int .i64 5) ∧ w'.cell? ⟨w.heap.size, 2, none⟩ = some (ndV q2) ∧ Hid (Sta [] w [(w.heap.size, [.int .i64 5, ndV q1, ndV q2])] [] w'))
    (first | exact ⟨Sta.c (i := 0) (HS2) rfl rfl, Sta.c (i := 0) (HS2) rfl rfl, Sta.c (i := 0) (HS2) rfl rfl, (HS2)⟩ | exact ⟨Sta.c (i := 0) (Sta.call (HS2) hB3) rfl rfl, Sta.c (i := 0) (Sta.call (HS2) hB3) rfl rfl, Sta.c (i := 0) (Sta.call (HS2) hB3) rfl rfl, (Sta.call (HS2) hB3)⟩ | exact ⟨Sta.c (i := 0) (Sta.call (Sta.call (HS2) hB3) hB4) rfl rfl, Sta.c (i := 0) (Sta.call (Sta.call (HS2) hB3) hB4) rfl rfl, Sta.c (i := 0) (Sta.call (Sta.call (HS2) hB3) hB4) rfl rfl, (Sta.call (Sta.call (HS2) hB3) hB4)⟩)
    (first
      | (go_at_call 225; (with_reducible refine (hC1 _).mono ?_); rintro r w3 ⟨rfl, hB3⟩)
      | (go_at_call 225; (with_reducible refine (hC2 _).mono ?_); rintro r w4 ⟨rfl, hB4⟩))
  all_goals
    have HS5 := Sta.call (Sta.call (HS2) hB3) hB4
    go_wp2_with fail
    go_ret
    exact ⟨by rw [HR.out]; rfl, Sta.fin HS5⟩
theorem textAll : ∀ (q : Nd), NdW q → cntN q ≤ 60 → TextC q ∧ TextW q := by
  intro q
  induction q with
  | is k v =>
    intro h hc
    have hz : (textN (.is k v)).size ≤ 6000 := by have := textN_size _ h; omega
    have h1 : TextC (.is k v) := fun w => textIs k v w (nameB_size h.1) (nameB_size h.2)
    exact ⟨h1, fun L w hL => withIs k v L w h1 hL hz⟩
  | has k =>
    intro h hc
    have hz : (textN (.has k)).size ≤ 6000 := by have := textN_size _ h; omega
    have h1 : TextC (.has k) := fun w => textHas k w (nameB_size h)
    exact ⟨h1, fun L w hL => withHas k L w h1 hL hz⟩
  | neg q ih =>
    intro h hc
    have hc' : cntN q + 1 ≤ 60 := hc
    have hz : (textN (.neg q)).size ≤ 6000 := by have := textN_size _ h; omega
    have hq : (textN q).size ≤ 6000 := by have := textN_size q h; omega
    have h1 : TextC (.neg q) := fun w => textNeg q w (ih h (by omega)).2 hq
    exact ⟨h1, fun L w hL => withNeg q L w h1 hL hz⟩
  | par op a b iha ihb =>
    intro h hc
    have hc' : cntN a + cntN b + 1 ≤ 60 := hc
    have hz : (textN (.par op a b)).size ≤ 6000 := by have := textN_size _ h; omega
    have ha : (textN a).size ≤ 6000 := by have := textN_size a h.2.1; omega
    have hb : (textN b).size ≤ 6000 := by have := textN_size b h.2.2; omega
    have h1 : TextC (.par op a b) := by
      rcases h.1 with rfl | rfl
      · exact fun w => textPar4 a b w (iha h.2.1 (by omega)).2 ha (ihb h.2.2 (by omega)).2 hb
      · exact fun w => textPar5 a b w (iha h.2.1 (by omega)).2 ha (ihb h.2.2 (by omega)).2 hb
    exact ⟨h1, fun L w hL => withPar op a b L w h1 hL hz⟩
/- What PolicyText tells. -/
def polT : Option Nd → ByteArray
  | none => ⟨#[]⟩
  | some y => textN y
set_option maxRecDepth 100000 in
set_option maxHeartbeats 4000000 in
theorem implPolT (a : Option Addr) (c n : Nat) (l : List InsV) (w : World) (hn : l.length = n) (h : InsAt w a l) (hm : n ≤ maxLen) (hw : ∀ x ∈ l, x.w) :
    Calls Try.prog 22 #[.slice a n c] w fun r w' => r = .returned (.string (polT (nodeN l))) ∧ Below w.heap.size w w' := by
  have hC1 : ∀ w0, (InsAt w0 a l) → (nodeN l = none) → Calls Try.prog 50 #[.slice a n c] w0 fun r w' => r = .returned (.tuple #[.nilIface, .bool false]) ∧ Below w0.heap.size w0 w' := fun w0 n0 n1 => by have hh := implNode a c n l w0 hn n0 hm hw; rw [n1] at hh; exact hh
  have hC2 : ∀ w0 (y : Nd), (InsAt w0 a l) → (nodeN l = some y) → Calls Try.prog 50 #[.slice a n c] w0 fun r w' => r = .returned (.tuple #[ndV y, .bool true]) ∧ Below w0.heap.size w0 w' := fun w0 y n0 n1 => by have hh := implNode a c n l w0 hn n0 hm hw; rw [n1] at hh; exact hh
  have HS0 : Hid (Sta [] w [] [⟨fun k => k < w.heap.size, fun w' => InsAt w' a l⟩] w) := Sta.arg (fun w' => InsAt w' a l) (fun w' hb => h.below hb)
  clear h
  go_enter Try.func22, Try.ntmps22
  rcases hx : nodeN l with _ | y
  · as_aux_lemma =>
    have HF := hidP hx
    clear hx
    go_wp2_with (first
      | (go_at_call 50; have n1_0 : InsAt w a l := (Sta.t (i := 0) HS0 rfl :); (with_reducible refine (hC1 w n1_0 HF.out).mono ?_); rintro r w1 ⟨rfl, hB1⟩; have HS1 := Sta.call HS0 hB1; clear hB1))
    go_ret
    exact ⟨rfl, Sta.fin HS1⟩
  · as_aux_lemma =>
    have HF := hidP hx
    clear hx
    go_wp2_with (first
      | (go_at_call 50; have n2_0 : InsAt w a l := (Sta.t (i := 0) HS0 rfl :); (with_reducible refine (hC2 w y n2_0 HF.out).mono ?_); rintro r w2 ⟨rfl, hB2⟩; have HS2 := Sta.call HS0 hB2; clear hB2)
      | (have n3_9 := (textAll y (node_w HF.out).1 (node_w HF.out).2).1 w2; (with_reducible refine wpList_text (w := w2) (wanted_free rfl) (.tmp 12) (by with_unfolding_all rfl) y (by with_unfolding_all rfl)  n3_9 ?_); intro w3 hB3; have HS3 := Sta.call HS2 hB3; clear hB3))
    go_ret
    exact ⟨rfl, Sta.fin HS3⟩
end Go.Proofs.Ytaalegjhhpfhbaa
