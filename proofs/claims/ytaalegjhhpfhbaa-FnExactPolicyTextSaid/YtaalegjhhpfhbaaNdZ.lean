/- The law FnExactPolicyText, walked. -/
import Derived.Test.YtaalegjhhpfhbaaNdY
import Derived.Deep.RegionHeld3
namespace Go.Proofs.Ytaalegjhhpfhbaa
open Go.RowKit
set_option linter.unusedVariables false

set_option maxRecDepth 100000 in
set_option maxHeartbeats 4000000 in
theorem lawPolT (a : Option Addr) (c n : Nat) (l : List InsV) (w : World) (hn : l.length = n) (h : InsAt w a l) (hm : n ≤ maxLen) (hw : ∀ x ∈ l, x.w) :
    Calls Try.prog 5 #[.slice a n c] w fun r w' => r = .returned (.bool true) ∧ Below w.heap.size w w' := by
  obtain ⟨B, hB⟩ : ∃ B, polT (nodeN l) = B := ⟨_, rfl⟩
  have HV := hidP hB
  have hbb := txt_eq B
  clear hB
  have hC1 : ∀ w0, (InsAt w0 a l) → Calls Try.prog 11 #[.slice a n c, .int .i64 1048576] w0 fun r w' => ∃ (z : Int), r = .returned (.int .i64 z) ∧ (0 ≤ z → n ≤ 1048576) ∧ Below w0.heap.size w0 w' := fun w0 n0 => (szInsS a c n l 1048576 w0 hn n0 hm hw (by decide) (by decide)).mono fun r w' ⟨⟨z, e1, e2, e3⟩, e4⟩ => ⟨z, e1, e3, e4⟩
  have hC2 : ∀ w0 (z : Int), (InsAt w0 a l) → (0 ≤ z) → (0 ≤ z → n ≤ 1048576) → Calls Try.prog 13 #[.slice a n c] w0 fun r w' => ∃ (g0 : Nat), r = .returned (.slice (some ⟨g0, 0, none⟩) n n) ∧ (w0.heap.size ≤ g0 ∧ g0 < w'.heap.size) ∧ Made w0 w' (fun w2 => RowV w2 g0 (insL l).flatten) ∧ Below w0.heap.size w0 w' := fun w0 z n0 n1 n2 => toInsM a c n l w0 hn n0 (n2 n1)
  have hC3 : ∀ w0 (B : ByteArray) (g0 : Nat), (RowV w0 g0 (insL l).flatten) → (polT (nodeN l) = B) → Calls Try.prog 21 #[.slice (some ⟨g0, 0, none⟩) n n] w0 fun r w' => r = .returned (.string B) ∧ Below w0.heap.size w0 w' := fun w0 B g0 n0 n1 => by rw [← n1]; exact specPolT (some ⟨g0, 0, none⟩) n n l w0 hn n0.ins hm hw
  have hC4 : ∀ w0 (z : Int), (InsAt w0 a l) → (0 ≤ z) → (0 ≤ z → n ≤ 1048576) → Calls Try.prog 13 #[.slice a n c] w0 fun r w' => ∃ (g1 : Nat), r = .returned (.slice (some ⟨g1, 0, none⟩) n n) ∧ (w0.heap.size ≤ g1 ∧ g1 < w'.heap.size) ∧ Made w0 w' (fun w2 => RowV w2 g1 (insL l).flatten) ∧ Below w0.heap.size w0 w' := fun w0 z n0 n1 n2 => toInsM a c n l w0 hn n0 (n2 n1)
  have hC5 : ∀ w0 (B : ByteArray) (g1 : Nat), (RowV w0 g1 (insL l).flatten) → (polT (nodeN l) = B) → Calls Try.prog 22 #[.slice (some ⟨g1, 0, none⟩) n n] w0 fun r w' => r = .returned (.string B) ∧ Below w0.heap.size w0 w' := fun w0 B g1 n0 n1 => by rw [← n1]; exact implPolT (some ⟨g1, 0, none⟩) n n l w0 hn n0.ins hm hw
  have hC6 : ∀ w0 (z : Int), (InsAt w0 a l) → (0 ≤ z) → (0 ≤ z → n ≤ 1048576) → Calls Try.prog 13 #[.slice a n c] w0 fun r w' => ∃ (g2 : Nat), r = .returned (.slice (some ⟨g2, 0, none⟩) n n) ∧ (w0.heap.size ≤ g2 ∧ g2 < w'.heap.size) ∧ Made w0 w' (fun w2 => RowV w2 g2 (insL l).flatten) ∧ Below w0.heap.size w0 w' := fun w0 z n0 n1 n2 => toInsM a c n l w0 hn n0 (n2 n1)
  have hC7 : ∀ w0 (g1 : Nat) (g2 : Nat), (RowV w0 g1 (insL l).flatten) → (RowV w0 g2 (insL l).flatten) → Calls Try.prog 15 #[.slice (some ⟨g1, 0, none⟩) n n, .slice (some ⟨g2, 0, none⟩) n n] w0 fun r w' => r = .returned (.bool true) ∧ Below w0.heap.size w0 w' := fun w0 g1 g2 n0 n1 => eqInsS (some ⟨g1, 0, none⟩) (some ⟨g2, 0, none⟩) n n n l w0 hn n0.ins n1.ins hm
  have HS0 : Hid (Sta [] w [] [⟨fun k => k < w.heap.size, fun w' => InsAt w' a l⟩] w) := Sta.arg (fun w' => InsAt w' a l) (fun w' hb => h.below hb)
  clear h
  go_enter Try.func5, Try.ntmps5
  go_wp2_with fail
  have n1_0 : InsAt w a l := (Sta.t (i := 0) HS0 rfl :)
  refine (hC1 w n1_0).mono ?_
  rintro r w1 ⟨z, rfl, p, hB1⟩
  have Hp := hidP p
  clear p
  have HS1 := Sta.call HS0 hB1
  clear hB1
  by_cases hz : z < 0
  · as_aux_lemma =>
    go_wp2_with fail
    go_ret
    exact ⟨rfl, Sta.fin HS1⟩
  have hz' : 0 ≤ z := by omega
  go_wp2_with (first
    | (go_at_call 13; have n2_0 : InsAt w1 a l := (Sta.t (i := 0) HS1 rfl :); (with_reducible refine (hC2 w1 z n2_0 hz' Hp.out).mono ?_); rintro r w2 ⟨g0, rfl, q0, hP2, hB2⟩; have Hq0 := hidP q0; clear q0; have HS2 := Sta.made HS1 hB2 hP2; clear hB2 hP2)
    | (go_at_call 21; have n3_0 : RowV w2 g0 (insL l).flatten := (Sta.t (i := 0) HS2 rfl :); (with_reducible refine (hC3 w2 B g0 n3_0 HV.out).mono ?_); rintro r w3 ⟨rfl, hB3⟩; have HS3 := Sta.call HS2 hB3; clear hB3)
    | (go_at_call 13; have n4_0 : InsAt w3 a l := (Sta.t (i := 1) HS3 rfl :); (with_reducible refine (hC4 w3 z n4_0 hz' Hp.out).mono ?_); rintro r w4 ⟨g1, rfl, q1, hP4, hB4⟩; have Hq1 := hidP q1; clear q1; have HS4 := Sta.made HS3 hB4 hP4; clear hB4 hP4)
    | (go_at_call 22; have n5_0 : RowV w4 g1 (insL l).flatten := (Sta.t (i := 0) HS4 rfl :); (with_reducible refine (hC5 w4 B g1 n5_0 HV.out).mono ?_); rintro r w5 ⟨rfl, hB5⟩; have HS5 := Sta.call HS4 hB5; clear hB5)
    | (go_at_call 13; have n6_0 : InsAt w5 a l := (Sta.t (i := 2) HS5 rfl :); (with_reducible refine (hC6 w5 z n6_0 hz' Hp.out).mono ?_); rintro r w6 ⟨g2, rfl, q2, hP6, hB6⟩; have Hq2 := hidP q2; clear q2; have HS6 := Sta.made HS5 hB6 hP6; clear hB6 hP6)
    | (go_at_call 15; have n7_0 : RowV w6 g1 (insL l).flatten := (Sta.t (i := 1) HS6 rfl :); have n7_1 : RowV w6 g2 (insL l).flatten := (Sta.t (i := 0) HS6 rfl :); (with_reducible refine (hC7 w6 g1 g2 n7_0 n7_1).mono ?_); rintro r w7 ⟨rfl, hB7⟩; have HS7 := Sta.call HS6 hB7; clear hB7))
  go_ret
  exact ⟨rfl, Sta.fin HS7⟩
end Go.Proofs.Ytaalegjhhpfhbaa
