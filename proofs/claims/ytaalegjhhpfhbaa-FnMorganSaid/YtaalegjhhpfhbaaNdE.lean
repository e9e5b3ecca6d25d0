/- The nodes' holds. -/
import Derived.Test.YtaalegjhhpfhbaaNdH
namespace Go.Proofs.Ytaalegjhhpfhbaa
open Go.RowKit
set_option linter.unusedVariables false

set_option maxRecDepth 100000 in
set_option maxHeartbeats 4000000 in
theorem holdIs (a : Option Addr) (c n : Nat) (l : List LabV) (t u : ByteArray) (w : World) (hn : l.length = n) (h : LabAt w a l) (hm : n ≤ maxLen) :
    Calls Try.prog 214 #[.agg #[.string t, .string u], .slice a n c] w fun r w' => r = .returned (.bool (holdN l (.is t u))) ∧ Below w.heap.size w w' := by
  have hC1 : ∀ w0, (LabAt w0 a l) → Calls Try.prog 216 #[.slice a n c, .agg #[.string t, .string u]] w0 fun r w' => r = .returned (.bool (isB l t u false)) ∧ Below w0.heap.size w0 w' := fun w0 n0 => labContains a c n l t u w0 hn n0 hm
  have HS0 : Hid (Sta [] w [] [⟨fun k => k < w.heap.size, fun w' => LabAt w' a l⟩] w) := Sta.arg (fun w' => LabAt w' a l) (fun w' hb => h.below hb)
  clear h
  go_enter Try.func214, Try.ntmps214
  go_wp2_with (first
    | ((with_reducible refine wpList_boxV (w := w) (by with_unfolding_all rfl) 174 (.tmp 0) (by with_unfolding_all rfl) [.string t, .string u] (by with_unfolding_all rfl) ?_); intro w1 hA1 hB1 hS1; clear hS1; have HS1 := Sta.new HS0 hA1 hB1 (by simp); clear hA1 hB1)
    | ((with_reducible refine wpList_loadV (w := w1) (by with_unfolding_all rfl) 88 (.tmp 6) (by with_unfolding_all rfl) w.heap.size [.string t, .string u] (by with_unfolding_all rfl) (Sta.r (i := 0) HS1 (by with_unfolding_all rfl)) Try.uT_implLabel 2 Try.sT_implLabel (by with_unfolding_all rfl) ?_))
    | (go_at_call 216; have n2_0 : LabAt w1 a l := (Sta.t (i := 0) HS1 rfl :); (with_reducible refine (hC1 w1 n2_0).mono ?_); rintro r w2 ⟨rfl, hB2⟩; have HS2 := Sta.call HS1 hB2; clear hB2))
  go_ret
  exact ⟨rfl, Sta.fin HS2⟩
set_option maxRecDepth 100000 in
set_option maxHeartbeats 4000000 in
theorem holdHas (a : Option Addr) (c n : Nat) (l : List LabV) (t : ByteArray) (w : World) (hn : l.length = n) (h : LabAt w a l) (hm : n ≤ maxLen) :
    Calls Try.prog 218 #[.agg #[.string t], .slice a n c] w fun r w' => r = .returned (.bool (holdN l (.has t))) ∧ Below w.heap.size w w' := by
  have hC1 : ∀ w0, (LabAt w0 a l) → (w0.cell? ⟨w.heap.size, 0, none⟩ = some (.string t)) → Calls Try.prog 220 #[.slice a n c, .func (.func 221) #[] #[.pointer (some ⟨w.heap.size, 0, none⟩)]] w0 fun r w' => r = .returned (.bool (isB l t ⟨#[]⟩ true)) ∧ Below w0.heap.size w0 w' := fun w0 n0 n1 => labContainsF a c n l t w.heap.size w0 hn n0 hm n1
  have HS0 : Hid (Sta [] w [] [⟨fun k => k < w.heap.size, fun w' => LabAt w' a l⟩] w) := Sta.arg (fun w' => LabAt w' a l) (fun w' hb => h.below hb)
  clear h
  go_enter Try.func218, Try.ntmps218
  go_wp2_with (first
    | ((with_reducible refine wpList_boxV (w := w) (by with_unfolding_all rfl) 176 (.tmp 0) (by with_unfolding_all rfl) [.string t] (by with_unfolding_all rfl) ?_); intro w1 hA1 hB1 hS1; clear hS1; have HS1 := Sta.new HS0 hA1 hB1 (by simp); clear hA1 hB1)
    | (go_at_call 220; have n2_0 : LabAt w1 a l := (Sta.t (i := 0) HS1 rfl :); have n2_1 : w1.cell? ⟨w.heap.size, 0, none⟩ = some (.string t) := (Sta.c (i := 0) HS1 rfl rfl); (with_reducible refine (hC1 w1 n2_0 n2_1).mono ?_); rintro r w2 ⟨rfl, hB2⟩; have HS2 := Sta.call HS1 hB2; clear hB2))
  go_ret
  exact ⟨rfl, Sta.fin HS2⟩
set_option maxRecDepth 100000 in
set_option maxHeartbeats 4000000 in
theorem holdNeg (a : Option Addr) (c n : Nat) (l : List LabV) (q1 : Nd) (w : World) (ih : HoldC q1 l a n c) (h : LabAt w a l) :
    Calls Try.prog 223 #[.agg #[ndV q1], .slice a n c] w fun r w' => r = .returned (.bool (holdN l (.neg q1))) ∧ Below w.heap.size w w' := by
  have HS0 : Hid (Sta [] w [] [⟨fun k => k < w.heap.size, fun w' => LabAt w' a l⟩] w) := Sta.arg (fun w' => LabAt w' a l) (fun w' hb => h.below hb)
  clear h
  go_enter Try.func223, Try.ntmps223
  go_wp2_with (first
    | ((with_reducible refine wpList_boxV (w := w) (by with_unfolding_all rfl) 178 (.tmp 0) (by with_unfolding_all rfl) [ndV q1] (by with_unfolding_all rfl) ?_); intro w1 hA1 hB1 hS1; clear hS1; have HS1 := Sta.new HS0 hA1 hB1 (by simp); clear hA1 hB1; have cHS1_0_0 : w1.cell? ⟨w.heap.size, 0, none⟩ = some (ndV q1) := Sta.c (i := 0) HS1 rfl rfl)
    | (have n2_0 : LabAt w1 a l := (Sta.t (i := 0) HS1 rfl :); have n2_9 := (ih w1 n2_0); (with_reducible refine wpList_holds (w := w1) (wanted_free rfl) (.tmp 6) (.tmp 7) (by with_unfolding_all rfl) q1 (by with_unfolding_all rfl) (by with_unfolding_all rfl) n2_9 ?_); intro w2 hB2; have HS2 := Sta.call HS1 hB2; clear hB2; clear cHS1_0_0))
  go_ret
  exact ⟨rfl, Sta.fin HS2⟩
set_option maxRecDepth 100000 in
set_option maxHeartbeats 4000000 in
theorem holdPar4 (a : Option Addr) (c n : Nat) (l : List LabV) (q1 q2 : Nd) (w : World) (ih : HoldC q1 l a n c) (ih2 : HoldC q2 l a n c) (h : LabAt w a l) :
    Calls Try.prog 226 #[.agg #[.int .i64 4, ndV q1, ndV q2], .slice a n c] w fun r w' => r = .returned (.bool (holdN l (.par 4 q1 q2))) ∧ Below w.heap.size w w' := by
  have HS0 : Hid (Sta [] w [] [⟨fun k => k < w.heap.size, fun w' => LabAt w' a l⟩] w) := Sta.arg (fun w' => LabAt w' a l) (fun w' hb => h.below hb)
  clear h
  go_enter Try.func226, Try.ntmps226
  cases hb1 : holdN l q1
  · as_aux_lemma =>
    have Hq1 := hidP hb1
    clear hb1
    go_wp2_with (first
      | ((with_reducible refine wpList_boxV (w := w) (by with_unfolding_all rfl) 180 (.tmp 0) (by with_unfolding_all rfl) [.int .i64 4, ndV q1, ndV q2] (by with_unfolding_all rfl) ?_); intro w1 hA1 hB1 hS1; clear hS1; have HS1 := Sta.new HS0 hA1 hB1 (by simp); clear hA1 hB1; have cHS1_0_0 : w1.cell? ⟨w.heap.size, 0, none⟩ = some (.int .i64 4) := Sta.c (i := 0) HS1 rfl rfl; have cHS1_0_1 : w1.cell? ⟨w.heap.size, 1, none⟩ = some (ndV q1) := Sta.c (i := 0) HS1 rfl rfl)
      | (have n2_0 : LabAt w1 a l := (Sta.t (i := 0) HS1 rfl :); have n2_9 := (by have hh := ih w1 n2_0; rw [Hq1.out] at hh; exact hh); (with_reducible refine wpList_holds (w := w1) (wanted_free rfl) (.tmp 9) (.tmp 10) (by with_unfolding_all rfl) q1 (by with_unfolding_all rfl) (by with_unfolding_all rfl) n2_9 ?_); intro w2 hB2; have HS2 := Sta.call HS1 hB2; clear hB2; clear cHS1_0_0 cHS1_0_1))
    go_ret
    exact ⟨by show _ = Ending.returned (.bool (if (4 : Int) = 4 then (holdN l q1 && holdN l q2) else (holdN l q1 || holdN l q2))); rw [Hq1.out]; first | rfl | (cases holdN l q2 <;> rfl), Sta.fin HS2⟩
  · as_aux_lemma =>
    have Hq1 := hidP hb1
    clear hb1
    go_wp2_with (first
      | ((with_reducible refine wpList_boxV (w := w) (by with_unfolding_all rfl) 180 (.tmp 0) (by with_unfolding_all rfl) [.int .i64 4, ndV q1, ndV q2] (by with_unfolding_all rfl) ?_); intro w3 hA3 hB3 hS3; clear hS3; have HS3 := Sta.new HS0 hA3 hB3 (by simp); clear hA3 hB3; have cHS3_0_0 : w3.cell? ⟨w.heap.size, 0, none⟩ = some (.int .i64 4) := Sta.c (i := 0) HS3 rfl rfl; have cHS3_0_1 : w3.cell? ⟨w.heap.size, 1, none⟩ = some (ndV q1) := Sta.c (i := 0) HS3 rfl rfl)
      | (have n4_0 : LabAt w3 a l := (Sta.t (i := 0) HS3 rfl :); have n4_9 := (by have hh := ih w3 n4_0; rw [Hq1.out] at hh; exact hh); (with_reducible refine wpList_holds (w := w3) (wanted_free rfl) (.tmp 9) (.tmp 10) (by with_unfolding_all rfl) q1 (by with_unfolding_all rfl) (by with_unfolding_all rfl) n4_9 ?_); intro w4 hB4; have HS4 := Sta.call HS3 hB4; clear hB4; clear cHS3_0_0 cHS3_0_1; have cHS4_0_2 : w4.cell? ⟨w.heap.size, 2, none⟩ = some (ndV q2) := Sta.c (i := 0) HS4 rfl rfl)
      | (have n5_0 : LabAt w4 a l := (Sta.t (i := 0) HS4 rfl :); have n5_9 := (ih2 w4 n5_0); (with_reducible refine wpList_holds (w := w4) (by with_unfolding_all rfl) (.tmp 14) (.tmp 15) (by with_unfolding_all rfl) q2 (by with_unfolding_all rfl) (by with_unfolding_all rfl) n5_9 ?_); intro w5 hB5; have HS5 := Sta.call HS4 hB5; clear hB5; clear cHS4_0_2))
    go_ret
    exact ⟨by show _ = Ending.returned (.bool (if (4 : Int) = 4 then (holdN l q1 && holdN l q2) else (holdN l q1 || holdN l q2))); rw [Hq1.out]; first | rfl | (cases holdN l q2 <;> rfl), Sta.fin HS5⟩
set_option maxRecDepth 100000 in
set_option maxHeartbeats 4000000 in
theorem holdPar5 (a : Option Addr) (c n : Nat) (l : List LabV) (q1 q2 : Nd) (w : World) (ih : HoldC q1 l a n c) (ih2 : HoldC q2 l a n c) (h : LabAt w a l) :
    Calls Try.prog 226 #[.agg #[.int .i64 5, ndV q1, ndV q2], .slice a n c] w fun r w' => r = .returned (.bool (holdN l (.par 5 q1 q2))) ∧ Below w.heap.size w w' := by
  have HS0 : Hid (Sta [] w [] [⟨fun k => k < w.heap.size, fun w' => LabAt w' a l⟩] w) := Sta.arg (fun w' => LabAt w' a l) (fun w' hb => h.below hb)
  clear h
  go_enter Try.func226, Try.ntmps226
  cases hb1 : holdN l q1
  · as_aux_lemma =>
    have Hq1 := hidP hb1
    clear hb1
    go_wp2_with (first
      | ((with_reducible refine wpList_boxV (w := w) (by with_unfolding_all rfl) 180 (.tmp 0) (by with_unfolding_all rfl) [.int .i64 5, ndV q1, ndV q2] (by with_unfolding_all rfl) ?_); intro w1 hA1 hB1 hS1; clear hS1; have HS1 := Sta.new HS0 hA1 hB1 (by simp); clear hA1 hB1; have cHS1_0_0 : w1.cell? ⟨w.heap.size, 0, none⟩ = some (.int .i64 5) := Sta.c (i := 0) HS1 rfl rfl; have cHS1_0_1 : w1.cell? ⟨w.heap.size, 1, none⟩ = some (ndV q1) := Sta.c (i := 0) HS1 rfl rfl)
      | (have n2_0 : LabAt w1 a l := (Sta.t (i := 0) HS1 rfl :); have n2_9 := (by have hh := ih w1 n2_0; rw [Hq1.out] at hh; exact hh); (with_reducible refine wpList_holds (w := w1) (wanted_free rfl) (.tmp 19) (.tmp 20) (by with_unfolding_all rfl) q1 (by with_unfolding_all rfl) (by with_unfolding_all rfl) n2_9 ?_); intro w2 hB2; have HS2 := Sta.call HS1 hB2; clear hB2; clear cHS1_0_0 cHS1_0_1; have cHS2_0_2 : w2.cell? ⟨w.heap.size, 2, none⟩ = some (ndV q2) := Sta.c (i := 0) HS2 rfl rfl)
      | (have n3_0 : LabAt w2 a l := (Sta.t (i := 0) HS2 rfl :); have n3_9 := (ih2 w2 n3_0); (with_reducible refine wpList_holds (w := w2) (by with_unfolding_all rfl) (.tmp 24) (.tmp 25) (by with_unfolding_all rfl) q2 (by with_unfolding_all rfl) (by with_unfolding_all rfl) n3_9 ?_); intro w3 hB3; have HS3 := Sta.call HS2 hB3; clear hB3; clear cHS2_0_2))
    go_ret
    exact ⟨by show _ = Ending.returned (.bool (if (5 : Int) = 4 then (holdN l q1 && holdN l q2) else (holdN l q1 || holdN l q2))); rw [Hq1.out]; first | rfl | (cases holdN l q2 <;> rfl), Sta.fin HS3⟩
  · as_aux_lemma =>
    have Hq1 := hidP hb1
    clear hb1
    go_wp2_with (first
      | ((with_reducible refine wpList_boxV (w := w) (by with_unfolding_all rfl) 180 (.tmp 0) (by with_unfolding_all rfl) [.int .i64 5, ndV q1, ndV q2] (by with_unfolding_all rfl) ?_); intro w4 hA4 hB4 hS4; clear hS4; have HS4 := Sta.new HS0 hA4 hB4 (by simp); clear hA4 hB4; have cHS4_0_0 : w4.cell? ⟨w.heap.size, 0, none⟩ = some (.int .i64 5) := Sta.c (i := 0) HS4 rfl rfl; have cHS4_0_1 : w4.cell? ⟨w.heap.size, 1, none⟩ = some (ndV q1) := Sta.c (i := 0) HS4 rfl rfl)
      | (have n5_0 : LabAt w4 a l := (Sta.t (i := 0) HS4 rfl :); have n5_9 := (by have hh := ih w4 n5_0; rw [Hq1.out] at hh; exact hh); (with_reducible refine wpList_holds (w := w4) (wanted_free rfl) (.tmp 19) (.tmp 20) (by with_unfolding_all rfl) q1 (by with_unfolding_all rfl) (by with_unfolding_all rfl) n5_9 ?_); intro w5 hB5; have HS5 := Sta.call HS4 hB5; clear hB5; clear cHS4_0_0 cHS4_0_1))
    go_ret
    exact ⟨by show _ = Ending.returned (.bool (if (5 : Int) = 4 then (holdN l q1 && holdN l q2) else (holdN l q1 || holdN l q2))); rw [Hq1.out]; first | rfl | (cases holdN l q2 <;> rfl), Sta.fin HS5⟩
/- Every node that a right policy makes tells what holdN says. -/
theorem holdAll (a : Option Addr) (c n : Nat) (l : List LabV) (hn : l.length = n) (hm : n ≤ maxLen) (nd : Nd) (hw : NdW nd) : HoldC nd l a n c := by
  induction nd with
  | is k v => exact fun w h => holdIs a c n l k v w hn h hm
  | has k => exact fun w h => holdHas a c n l k w hn h hm
  | neg q ih => exact fun w h => holdNeg a c n l q w (ih hw) h
  | par op q1 q2 ih1 ih2 =>
    obtain ⟨h4, w1, w2⟩ := hw
    rcases h4 with rfl | rfl
    · exact fun w h => holdPar4 a c n l q1 q2 w (ih1 w1) (ih2 w2) h
    · exact fun w h => holdPar5 a c n l q1 q2 w (ih1 w1) (ih2 w2) h
theorem node_w {l : List InsV} {y : Nd} (h : nodeN l = some y) : NdW y ∧ cntN y ≤ 60 := by
  obtain ⟨h1, h2, h3⟩ := node_some h
  have h4 := run_w (l := l) (k := l.length) (Nat.le_refl _) (by rw [List.take_length]; exact h3)
  refine ⟨h4.1 y (by simp), ?_⟩
  have : sumN [y] = cntN y := by unfold sumN; simp
  omega
end Go.Proofs.Ytaalegjhhpfhbaa
