/- The law FnExactTargetsBytes, walked. -/
import Derived.Test.YtnlalnkoggkdfaaTgI
import Derived.Test.YtnlalnkoggkdfaaTgL
import Derived.Test.YtnlalnkoggkdfaaTgB
import Derived.Test.YtnlalnkoggkdfaaTgW
namespace Go.Proofs.Ytnlalnkoggkdfaa
open Go.RowKit
set_option linter.unusedVariables false

set_option maxRecDepth 100000 in
set_option maxHeartbeats 2000000 in
theorem lawTargetsBytes (v e : Int) (a : Option Addr) (c n : Nat) (l : List TarV) (w : World) (hn : l.length = n) (h : TgsAt w a l) (hnm : n ≤ maxLen) (hw : ∀ x ∈ l, x.w) (hv : I64 v) (he : I64 e) :
    Calls Try.prog 6 #[.agg #[.int .i64 v, .int .i64 e, .slice a n c]] w fun r w' => r = .returned (.bool true) ∧ Below w.heap.size w w' := by
  have HA : Hid (TgsAt w a l) := h
  have HZ : Hid (∀ w0, TgsAt w0 a l → Calls Try.prog 21 #[.agg #[.int .i64 v, .int .i64 e, .slice a n c], .int .i64 1048576] w0 fun r w' => (∃ z : Int, r = .returned (.int .i64 z) ∧ (0 ≤ z → n ≤ 1048576)) ∧ Below w0.heap.size w0 w') := fun w0 h0 => szTs_any v e a c n l w0 hn h0 hnm hw
  have HT : Hid (n ≤ 1048576 → ∀ w0, Hid (KpTg w w.heap.size v e a n c l w0) → Calls Try.prog 23 #[.agg #[.int .i64 v, .int .i64 e, .slice a n c]] w0 fun r w' => ∃ g, r = .returned (.agg #[.int .i64 v, .int .i64 e, .slice (some ⟨g, 0, none⟩) n n]) ∧ TgsAt w' (some ⟨g, 0, none⟩) l ∧ Below w0.heap.size w0 w') := fun hb w0 h0 => toTs_any v e a c n l w0 hn h0.out.tg hb
  have hS : ∀ w0 g, TgsAt w0 (some ⟨g, 0, none⟩) l → Calls Try.prog 26 #[.agg #[.int .i64 v, .int .i64 e, .slice (some ⟨g, 0, none⟩) n n]] w0 fun r w' => r = .returned (.string (targetsBy v e l)) ∧ Below w0.heap.size w0 w' := fun w0 g h0 => specTargetsB v e _ n n l w0 hn h0 hnm hw hv he
  have hI : ∀ w0 gx g, Hid (KpTX w v e a n c l gx g w0) → Calls Try.prog 27 #[.agg #[.int .i64 v, .int .i64 e, .slice (some ⟨g, 0, none⟩) n n]] w0 fun r w' => r = .returned (.string (targetsBy v e l)) ∧ Below w0.heap.size w0 w' := fun w0 gx g h0 => implTargetsB v e _ n n l w0 hn h0.out.tg hnm hw hv he
  have hE : ∀ w0 gx g g8, Hid (KpTX w v e a n c l gx g w0) → TgsAt w0 (some ⟨g8, 0, none⟩) l → Calls Try.prog 25 #[.agg #[.int .i64 v, .int .i64 e, .slice (some ⟨g, 0, none⟩) n n], .agg #[.int .i64 v, .int .i64 e, .slice (some ⟨g8, 0, none⟩) n n]] w0 fun e w' => e = .returned (.bool true) ∧ Below w0.heap.size w0 w' := fun w0 gx g g8 h0 h8 => eqTs_any v e _ _ n n n l w0 hn h0.out.tg h8 hnm
  clear h hn hw hnm hv he
  obtain ⟨R, hR⟩ : ∃ R, targetsBy v e l = R := ⟨_, rfl⟩
  rw [hR] at hS hI
  clear hR
  have hrr := txt_eq R
  go_enter Try.func6, Try.ntmps6
  go_wp2_with (first
    | (with_reducible refine wpList_boxV (w := w) (by with_unfolding_all rfl) 36 (.tmp 0) (by with_unfolding_all rfl) (rtv v e a n c) (by with_unfolding_all rfl) ?_; intro w1 hA1 hB1 hS1; clear hS1; have HS1 := KpTg.start HA hB1 hA1; obtain ⟨p0, p1, p2, _⟩ := KpTg.three HS1))
  refine (HZ.out w1 HS1.out.tg).mono ?_
  rintro r w2 ⟨⟨z, rfl, hz⟩, hB2⟩
  have HZ2 : Hid (0 ≤ z → n ≤ 1048576) := hz
  have HS2 := KpTg.call HS1 hB2
  obtain ⟨q0, q1, q2, _⟩ := KpTg.three HS2
  clear HZ HS1 hB1 hA1 HA p0 p1 p2 hB2 hz
  by_cases hneg : z < 0
  · go_wp2
    go_ret
    exact ⟨rfl, HS2.out.below⟩
  have hT := HT.out (HZ2.out (by omega))
  clear HT HZ2
  go_wp2_with (first
    | (go_at_call 23; with_reducible refine (hT w2 HS2).mono ?_; rintro r w3 ⟨g3, rfl, hI3, hB3⟩; have HS3 := KpTg.call HS2 hB3)
    | (go_at_call 26; with_reducible refine (hS w3 g3 hI3).mono ?_; rintro r w4 ⟨rfl, hB4⟩; have HS4 := KpTg.call HS3 hB4; obtain ⟨p0, p1, p2, _⟩ := KpTg.three HS4; clear hI3)
    | (go_at_call 23; with_reducible refine (hT w4 HS4).mono ?_; rintro r w5 ⟨g5, rfl, hI5, hB5⟩; have HS5 := KpTg.call HS4 hB5; have HX6 := KpTX.start HS5 hI5 41)
    | (go_at_call 27; with_reducible refine (hI _ _ _ HX6).mono ?_; rintro r w7 ⟨rfl, hB7⟩; have HX7 := KpTX.call HX6 hB7; have HXd := KpTX.drew HX7))
  clear HX7 HX6 HS5 HS4 HS3 HS2 hI hS q0 q1 q2 p0 p1 p2 hB7 hB5 hB4 hB3 hI5
  go_region_held3 (fun w' => w'.cell? ⟨w5.heap.size, 0, none⟩ = some (.int .i64 v) ∧ w'.cell? ⟨w5.heap.size, 1, none⟩ = some (.int .i64 e) ∧ w'.cell? ⟨w5.heap.size, 2, none⟩ = some (.slice (some ⟨g5, 0, none⟩) n n) ∧ w'.cell? ⟨w.heap.size, 0, none⟩ = some (.int .i64 v) ∧ w'.cell? ⟨w.heap.size, 1, none⟩ = some (.int .i64 e) ∧ w'.cell? ⟨w.heap.size, 2, none⟩ = some (.slice a n c) ∧ Hid (KpTX w v e a n c l w5.heap.size g5 w'))
    (first | exact KpTX.six HXd | exact KpTX.six (KpTX.call HXd h8) | exact KpTX.six (KpTX.call (KpTX.call HXd h8) h9))
    (first
      | (go_at_call 23; with_reducible refine (hT _ (KpTX.kpH HXd)).mono ?_; rintro r w8 ⟨g8, rfl, hI8, h8⟩)
      | (go_at_call 25; with_reducible refine (hE _ _ _ _ (KpTX.call HXd h8) hI8).mono ?_; rintro r w9 ⟨rfl, h9⟩))
  all_goals
    have HX9 := KpTX.call (KpTX.call HXd h8) h9
    go_wp2_with fail
    go_ret
    exact ⟨rfl, HX9.out.kp.below⟩
end Go.Proofs.Ytnlalnkoggkdfaa
