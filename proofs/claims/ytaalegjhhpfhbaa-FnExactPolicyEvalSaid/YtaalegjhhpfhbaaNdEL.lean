/- The law FnExactPolicyEval, walked. -/
import Derived.Test.YtaalegjhhpfhbaaNdK
import Derived.Deep.RegionHeld3
namespace Go.Proofs.Ytaalegjhhpfhbaa
open Go.RowKit
set_option linter.unusedVariables false

set_option maxRecDepth 100000 in
set_option maxHeartbeats 8000000 in
theorem lawPolE (a : Option Addr) (c n : Nat) (l : List InsV) (d : Option Addr) (e m : Nat) (ls : List LabV) (w : World) (hn : l.length = n) (h : InsAt w a l) (hm : n ≤ maxLen) (hw : ∀ x ∈ l, x.w) (hn2 : ls.length = m) (h2 : LabAt w d ls) (hm2 : m ≤ maxLen) (hw2 : ∀ x ∈ ls, x.w) :
    Calls Try.prog 4 #[.slice a n c, .slice d m e] w fun r w' => r = .returned (.bool true) ∧ Below w.heap.size w w' := by
  have hbb : ∀ b : Bool, (b != b) = false := fun b => by simp
  obtain ⟨B, hB⟩ : ∃ B, evalN l ls = B := ⟨_, rfl⟩
  have HV := hidP hB
  clear hB
  have hC1 : ∀ w0, (InsAt w0 a l) → Calls Try.prog 11 #[.slice a n c, .int .i64 1048576] w0 fun r w' => ∃ (z1 : Int), r = .returned (.int .i64 z1) ∧ (z1 ≤ 1048576 ∧ (0 ≤ z1 → n ≤ 1048576)) ∧ Below w0.heap.size w0 w' := fun w0 n0 => (szInsS a c n l 1048576 w0 hn n0 hm hw (by decide) (by decide)).mono fun r w' ⟨⟨z, e1, e2, e3⟩, e4⟩ => ⟨z, e1, ⟨e2, e3⟩, e4⟩
  have hC2 : ∀ w0 (z1 : Int), (LabAt w0 d ls) → (0 ≤ z1) → (z1 ≤ 1048576 ∧ (0 ≤ z1 → n ≤ 1048576)) → Calls Try.prog 16 #[.slice d m e, .int .i64 z1] w0 fun r w' => ∃ (z2 : Int), r = .returned (.int .i64 z2) ∧ (0 ≤ z2 → m ≤ 1048576) ∧ Below w0.heap.size w0 w' := fun w0 z1 n0 n1 n2 => (szLabS d e m ls z1 w0 hn2 n0 hm2 hw2 n1 n2.1).mono fun r w' ⟨⟨z, e1, e2, e3⟩, e4⟩ => ⟨z, e1, e3, e4⟩
  have hC3 : ∀ w0 (z1 : Int), (InsAt w0 a l) → (0 ≤ z1) → (z1 ≤ 1048576 ∧ (0 ≤ z1 → n ≤ 1048576)) → Calls Try.prog 13 #[.slice a n c] w0 fun r w' => ∃ (g0 : Nat), r = .returned (.slice (some ⟨g0, 0, none⟩) n n) ∧ (w0.heap.size ≤ g0 ∧ g0 < w'.heap.size) ∧ Made w0 w' (fun w2 => RowV w2 g0 (insL l).flatten) ∧ Below w0.heap.size w0 w' := fun w0 z1 n0 n1 n2 => toInsM a c n l w0 hn n0 (n2.2 n1)
  have hC4 : ∀ w0 (z2 : Int), (LabAt w0 d ls) → (0 ≤ z2) → (0 ≤ z2 → m ≤ 1048576) → Calls Try.prog 18 #[.slice d m e] w0 fun r w' => ∃ (k0 : Nat), r = .returned (.slice (some ⟨k0, 0, none⟩) m m) ∧ (w0.heap.size ≤ k0 ∧ k0 < w'.heap.size) ∧ Made w0 w' (fun w2 => RowV w2 k0 (labL ls).flatten) ∧ Below w0.heap.size w0 w' := fun w0 z2 n0 n1 n2 => toLabM d e m ls w0 hn2 n0 (n2 n1)
  have hC5 : ∀ w0 (B : Bool) (g0 : Nat) (k0 : Nat), (RowV w0 g0 (insL l).flatten) → (RowV w0 k0 (labL ls).flatten) → (evalN l ls = B) → Calls Try.prog 17 #[.slice (some ⟨g0, 0, none⟩) n n, .slice (some ⟨k0, 0, none⟩) m m] w0 fun r w' => r = .returned (.bool B) ∧ Below w0.heap.size w0 w' := fun w0 B g0 k0 n0 n1 n2 => by rw [← n2]; exact specPolE (some ⟨g0, 0, none⟩) n n l (some ⟨k0, 0, none⟩) m m ls w0 hn n0.ins hm hw hn2 n1.lab hm2
  have hC6 : ∀ w0 (z1 : Int), (InsAt w0 a l) → (0 ≤ z1) → (z1 ≤ 1048576 ∧ (0 ≤ z1 → n ≤ 1048576)) → Calls Try.prog 13 #[.slice a n c] w0 fun r w' => ∃ (g1 : Nat), r = .returned (.slice (some ⟨g1, 0, none⟩) n n) ∧ (w0.heap.size ≤ g1 ∧ g1 < w'.heap.size) ∧ Made w0 w' (fun w2 => RowV w2 g1 (insL l).flatten) ∧ Below w0.heap.size w0 w' := fun w0 z1 n0 n1 n2 => toInsM a c n l w0 hn n0 (n2.2 n1)
  have hC7 : ∀ w0 (z2 : Int), (LabAt w0 d ls) → (0 ≤ z2) → (0 ≤ z2 → m ≤ 1048576) → Calls Try.prog 18 #[.slice d m e] w0 fun r w' => ∃ (k1 : Nat), r = .returned (.slice (some ⟨k1, 0, none⟩) m m) ∧ (w0.heap.size ≤ k1 ∧ k1 < w'.heap.size) ∧ Made w0 w' (fun w2 => RowV w2 k1 (labL ls).flatten) ∧ Below w0.heap.size w0 w' := fun w0 z2 n0 n1 n2 => toLabM d e m ls w0 hn2 n0 (n2 n1)
  have hC8 : ∀ w0 (B : Bool) (g1 : Nat) (k1 : Nat), (RowV w0 g1 (insL l).flatten) → (RowV w0 k1 (labL ls).flatten) → (evalN l ls = B) → Calls Try.prog 19 #[.slice (some ⟨g1, 0, none⟩) n n, .slice (some ⟨k1, 0, none⟩) m m] w0 fun r w' => r = .returned (.bool B) ∧ Below w0.heap.size w0 w' := fun w0 B g1 k1 n0 n1 n2 => by rw [← n2]; exact implPolE (some ⟨g1, 0, none⟩) n n l (some ⟨k1, 0, none⟩) m m ls w0 hn n0.ins hm hw hn2 n1.lab hm2
  have hC9 : ∀ w0 (z1 : Int), (InsAt w0 a l) → (0 ≤ z1) → (z1 ≤ 1048576 ∧ (0 ≤ z1 → n ≤ 1048576)) → Calls Try.prog 13 #[.slice a n c] w0 fun r w' => ∃ (g2 : Nat), r = .returned (.slice (some ⟨g2, 0, none⟩) n n) ∧ (w0.heap.size ≤ g2 ∧ g2 < w'.heap.size) ∧ Made w0 w' (fun w2 => RowV w2 g2 (insL l).flatten) ∧ Below w0.heap.size w0 w' := fun w0 z1 n0 n1 n2 => toInsM a c n l w0 hn n0 (n2.2 n1)
  have hC10 : ∀ w0 (g1 : Nat) (g2 : Nat), (RowV w0 g1 (insL l).flatten) → (RowV w0 g2 (insL l).flatten) → Calls Try.prog 15 #[.slice (some ⟨g1, 0, none⟩) n n, .slice (some ⟨g2, 0, none⟩) n n] w0 fun r w' => r = .returned (.bool true) ∧ Below w0.heap.size w0 w' := fun w0 g1 g2 n0 n1 => eqInsS (some ⟨g1, 0, none⟩) (some ⟨g2, 0, none⟩) n n n l w0 hn n0.ins n1.ins hm
  have hC11 : ∀ w0 (z2 : Int), (LabAt w0 d ls) → (0 ≤ z2) → (0 ≤ z2 → m ≤ 1048576) → Calls Try.prog 18 #[.slice d m e] w0 fun r w' => ∃ (k2 : Nat), r = .returned (.slice (some ⟨k2, 0, none⟩) m m) ∧ (w0.heap.size ≤ k2 ∧ k2 < w'.heap.size) ∧ Made w0 w' (fun w2 => RowV w2 k2 (labL ls).flatten) ∧ Below w0.heap.size w0 w' := fun w0 z2 n0 n1 n2 => toLabM d e m ls w0 hn2 n0 (n2 n1)
  have hC12 : ∀ w0 (k1 : Nat) (k2 : Nat), (RowV w0 k1 (labL ls).flatten) → (RowV w0 k2 (labL ls).flatten) → Calls Try.prog 20 #[.slice (some ⟨k1, 0, none⟩) m m, .slice (some ⟨k2, 0, none⟩) m m] w0 fun r w' => r = .returned (.bool true) ∧ Below w0.heap.size w0 w' := fun w0 k1 k2 n0 n1 => eqLabS (some ⟨k1, 0, none⟩) (some ⟨k2, 0, none⟩) m m m ls w0 hn2 n0.lab n1.lab hm2
  have HS0 : Hid (Sta [] w [] [⟨fun k => k < w.heap.size, fun w' => InsAt w' a l ∧ LabAt w' d ls⟩] w) := Sta.arg (fun w' => InsAt w' a l ∧ LabAt w' d ls) (fun w' hb => ⟨h.below hb, h2.below hb⟩)
  clear h h2
  go_enter Try.func4, Try.ntmps4
  go_wp2_with fail
  have n1_0 : InsAt w a l := (Sta.t (i := 0) HS0 rfl :).1
  refine (hC1 w n1_0).mono ?_
  rintro r w1 ⟨z1, rfl, p1, hB1⟩
  have Hp1 := hidP p1
  clear p1
  have HS1 := Sta.call HS0 hB1
  clear hB1
  by_cases hz1 : z1 < 0
  · as_aux_lemma =>
    go_wp2_with fail
    go_ret
    exact ⟨rfl, Sta.fin HS1⟩
  have hz1' : 0 ≤ z1 := by omega
  go_wp2_with fail
  have n2_0 : LabAt w1 d ls := (Sta.t (i := 0) HS1 rfl :).2
  refine (hC2 w1 z1 n2_0 hz1' Hp1.out).mono ?_
  rintro r w2 ⟨z2, rfl, p2, hB2⟩
  have Hp2 := hidP p2
  clear p2
  have HS2 := Sta.call HS1 hB2
  clear hB2
  by_cases hz2 : z2 < 0
  · as_aux_lemma =>
    go_wp2_with fail
    go_ret
    exact ⟨rfl, Sta.fin HS2⟩
  have hz2' : 0 ≤ z2 := by omega
  go_wp2_with (first
    | (go_at_call 13; have n3_0 : InsAt w2 a l := (Sta.t (i := 0) HS2 rfl :).1; (with_reducible refine (hC3 w2 z1 n3_0 hz1' Hp1.out).mono ?_); rintro r w3 ⟨g0, rfl, q0, hP3, hB3⟩; have Hq0 := hidP q0; clear q0; have HS3 := Sta.made HS2 hB3 hP3; clear hB3 hP3)
    | (go_at_call 18; have n4_0 : LabAt w3 d ls := (Sta.t (i := 1) HS3 rfl :).2; (with_reducible refine (hC4 w3 z2 n4_0 hz2' Hp2.out).mono ?_); rintro r w4 ⟨k0, rfl, u0, hP4, hB4⟩; have Hu0 := hidP u0; clear u0; have HS4 := Sta.made HS3 hB4 hP4; clear hB4 hP4)
    | (go_at_call 17; have n5_0 : RowV w4 g0 (insL l).flatten := (Sta.t (i := 1) HS4 rfl :); have n5_1 : RowV w4 k0 (labL ls).flatten := (Sta.t (i := 0) HS4 rfl :); (with_reducible refine (hC5 w4 B g0 k0 n5_0 n5_1 HV.out).mono ?_); rintro r w5 ⟨rfl, hB5⟩; have HS5 := Sta.call HS4 hB5; clear hB5)
    | (go_at_call 13; have n6_0 : InsAt w5 a l := (Sta.t (i := 2) HS5 rfl :).1; (with_reducible refine (hC6 w5 z1 n6_0 hz1' Hp1.out).mono ?_); rintro r w6 ⟨g1, rfl, q1, hP6, hB6⟩; have Hq1 := hidP q1; clear q1; have HS6 := Sta.made HS5 hB6 hP6; clear hB6 hP6)
    | (go_at_call 18; have n7_0 : LabAt w6 d ls := (Sta.t (i := 3) HS6 rfl :).2; (with_reducible refine (hC7 w6 z2 n7_0 hz2' Hp2.out).mono ?_); rintro r w7 ⟨k1, rfl, u1, hP7, hB7⟩; have Hu1 := hidP u1; clear u1; have HS7 := Sta.made HS6 hB7 hP7; clear hB7 hP7)
    | (go_at_call 19; have n8_0 : RowV w7 g1 (insL l).flatten := (Sta.t (i := 1) HS7 rfl :); have n8_1 : RowV w7 k1 (labL ls).flatten := (Sta.t (i := 0) HS7 rfl :); (with_reducible refine (hC8 w7 B g1 k1 n8_0 n8_1 HV.out).mono ?_); rintro r w8 ⟨rfl, hB8⟩; have HS8 := Sta.call HS7 hB8; clear hB8)
    | (go_at_call 13; have n9_0 : InsAt w8 a l := (Sta.t (i := 4) HS8 rfl :).1; (with_reducible refine (hC9 w8 z1 n9_0 hz1' Hp1.out).mono ?_); rintro r w9 ⟨g2, rfl, q2, hP9, hB9⟩; have Hq2 := hidP q2; clear q2; have HS9 := Sta.made HS8 hB9 hP9; clear hB9 hP9)
    | (go_at_call 15; have n10_0 : RowV w9 g1 (insL l).flatten := (Sta.t (i := 2) HS9 rfl :); have n10_1 : RowV w9 g2 (insL l).flatten := (Sta.t (i := 0) HS9 rfl :); (with_reducible refine (hC10 w9 g1 g2 n10_0 n10_1).mono ?_); rintro r w10 ⟨rfl, hB10⟩; have HS10 := Sta.call HS9 hB10; clear hB10)
    | (go_at_call 18; have n11_0 : LabAt w10 d ls := (Sta.t (i := 5) HS10 rfl :).2; (with_reducible refine (hC11 w10 z2 n11_0 hz2' Hp2.out).mono ?_); rintro r w11 ⟨k2, rfl, u2, hP11, hB11⟩; have Hu2 := hidP u2; clear u2; have HS11 := Sta.made HS10 hB11 hP11; clear hB11 hP11)
    | (go_at_call 20; have n12_0 : RowV w11 k1 (labL ls).flatten := (Sta.t (i := 2) HS11 rfl :); have n12_1 : RowV w11 k2 (labL ls).flatten := (Sta.t (i := 0) HS11 rfl :); (with_reducible refine (hC12 w11 k1 k2 n12_0 n12_1).mono ?_); rintro r w12 ⟨rfl, hB12⟩; have HS12 := Sta.call HS11 hB12; clear hB12))
  go_ret
  exact ⟨rfl, Sta.fin HS12⟩
end Go.Proofs.Ytaalegjhhpfhbaa
