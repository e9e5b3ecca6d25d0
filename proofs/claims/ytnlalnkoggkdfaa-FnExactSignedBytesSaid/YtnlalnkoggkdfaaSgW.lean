/- The law FnExactSignedBytes, walked. -/
import Derived.Test.YtnlalnkoggkdfaaSgI
import Derived.Test.YtnlalnkoggkdfaaSgL
namespace Go.Proofs.Ytnlalnkoggkdfaa
open Go.RowKit
set_option linter.unusedVariables false

structure KpX (w : World) (t : ByteArray) (a : Option Addr) (n c : Nat) (l : List SigV) (gx g5 : Nat) (w' : World) : Prop where
  kp : KpSg w w.heap.size t a n c l w'
  row : RowV w' gx (sgv t (some ⟨g5, 0, none⟩) n n)
  sg : SgsAt w' (some ⟨g5, 0, none⟩) l
theorem KpX.start {w w' : World} {t : ByteArray} {a : Option Addr} {n c : Nat} {l : List SigV} {g5 : Nat} (h : Hid (KpSg w w.heap.size t a n c l w')) (hs : SgsAt w' (some ⟨g5, 0, none⟩) l) (ty : TypeId) : Hid (KpX w t a n c l w'.heap.size g5 (w'.alloc (.cells #[.string t, .slice (some ⟨g5, 0, none⟩) n n] ty))) :=
  ⟨(KpSg.call h (below_alloc _ _)).out, RowV.new w' (sgv t (some ⟨g5, 0, none⟩) n n) ty, hs.below (below_alloc _ _)⟩
theorem KpX.call {w w' w2 : World} {t : ByteArray} {a : Option Addr} {n c : Nat} {l : List SigV} {gx g5 : Nat} (h : Hid (KpX w t a n c l gx g5 w')) (hb : Below w'.heap.size w' w2) : Hid (KpX w t a n c l gx g5 w2) :=
  ⟨(KpSg.call h.out.kp hb).out, h.out.row.below hb (h.out.row.lt (sgv_ne _ _ _ _)), h.out.sg.below hb⟩
theorem KpX.drew {w w' : World} {t : ByteArray} {a : Option Addr} {n c : Nat} {l : List SigV} {gx g5 : Nat} (h : Hid (KpX w t a n c l gx g5 w')) : Hid (KpX w t a n c l gx g5 w'.drew) := ⟨(KpSg.drew h.out.kp).out, h.out.row.drew, h.out.sg⟩
theorem KpX.four {w w' : World} {t : ByteArray} {a : Option Addr} {n c : Nat} {l : List SigV} {gx g5 : Nat} (h : Hid (KpX w t a n c l gx g5 w')) :
    w'.cell? ⟨gx, 0, none⟩ = some (.string t) ∧ w'.cell? ⟨gx, 1, none⟩ = some (.slice (some ⟨g5, 0, none⟩) n n) ∧ w'.cell? ⟨w.heap.size, 0, none⟩ = some (.string t) ∧ w'.cell? ⟨w.heap.size, 1, none⟩ = some (.slice a n c) ∧ Hid (KpX w t a n c l gx g5 w') := ⟨h.out.row.sg.1, h.out.row.sg.2, h.out.kp.row.sg.1, h.out.kp.row.sg.2, h⟩
theorem KpX.kpH {w w' : World} {t : ByteArray} {a : Option Addr} {n c : Nat} {l : List SigV} {gx g5 : Nat} (h : Hid (KpX w t a n c l gx g5 w')) : Hid (KpSg w w.heap.size t a n c l w') := h.out.kp
set_option maxRecDepth 100000 in
set_option maxHeartbeats 2000000 in
theorem lawSignedBytes (t : ByteArray) (a : Option Addr) (c n : Nat) (l : List SigV) (w : World) (hn : l.length = n) (h : SgsAt w a l) (hnm : n ≤ maxLen) (hts : t.size ≤ maxLen) (hw : ∀ x ∈ l, x.w) :
    Calls Try.prog 8 #[.agg #[.string t, .slice a n c]] w fun r w' => r = .returned (.bool true) ∧ Below w.heap.size w w' := by
  have HA : Hid (SgsAt w a l) := h
  have hZ : ∀ w0, Calls Try.prog 31 #[.agg #[.string t, .slice a n c], .int .i64 1048576] w0 fun r w' => (∃ z : Int, r = .returned (.int .i64 z) ∧ (0 ≤ z → n ≤ 1048576)) ∧ Below w0.heap.size w0 w' := fun w0 => szSd_any t a n c w0 hnm hts
  have HT : Hid (n ≤ 1048576 → ∀ w0, Hid (KpSg w w.heap.size t a n c l w0) → Calls Try.prog 33 #[.agg #[.string t, .slice a n c]] w0 fun e w' => ∃ g, e = .returned (.agg #[.string t, .slice (some ⟨g, 0, none⟩) n n]) ∧ SgsAt w' (some ⟨g, 0, none⟩) l ∧ Below w0.heap.size w0 w') := fun hb w0 h0 => toSd_any t a c n l w0 hn h0.out.sg hb
  have hS : ∀ w0 g, SgsAt w0 (some ⟨g, 0, none⟩) l → Calls Try.prog 32 #[.agg #[.string t, .slice (some ⟨g, 0, none⟩) n n]] w0 fun r w' => r = .returned (.string (signedBy t l)) ∧ Below w0.heap.size w0 w' := fun w0 g h0 => specSignedB t _ n n l w0 hn h0 hnm hts hw
  have hI : ∀ w0 gx g, Hid (KpX w t a n c l gx g w0) → Calls Try.prog 34 #[.agg #[.string t, .slice (some ⟨g, 0, none⟩) n n]] w0 fun r w' => r = .returned (.string (signedBy t l)) ∧ Below w0.heap.size w0 w' := fun w0 gx g h0 => implSignedB t _ n n l w0 hn h0.out.sg hnm hts hw
  have hE : ∀ w0 gx g g8, Hid (KpX w t a n c l gx g w0) → SgsAt w0 (some ⟨g8, 0, none⟩) l → Calls Try.prog 35 #[.agg #[.string t, .slice (some ⟨g, 0, none⟩) n n], .agg #[.string t, .slice (some ⟨g8, 0, none⟩) n n]] w0 fun e w' => e = .returned (.bool true) ∧ Below w0.heap.size w0 w' := fun w0 gx g g8 h0 h8 => eqSd_any t _ _ n n n l w0 hn h0.out.sg h8 hnm
  clear h hn hw hnm hts
  generalize signedBy t l = R at *
  have hrr := txt_eq R
  go_enter Try.func8, Try.ntmps8
  go_wp2_with (first
    | (with_reducible refine wpList_boxV (w := w) (by with_unfolding_all rfl) 54 (.tmp 0) (by with_unfolding_all rfl) (sgv t a n c) (by with_unfolding_all rfl) ?_; intro w1 hA1 hB1 hS1; clear hS1; have HS1 := KpSg.start HA hB1 hA1; obtain ⟨p0, p1, _⟩ := KpSg.two HS1))
  refine (hZ w1).mono ?_
  rintro r w2 ⟨⟨z, rfl, hz⟩, hB2⟩
  have HS2 := KpSg.call HS1 hB2
  obtain ⟨q0, q1, _⟩ := KpSg.two HS2
  clear hZ HS1 hB1 hA1 HA p0 p1 hB2
  by_cases hneg : z < 0
  · go_wp2
    go_ret
    exact ⟨rfl, HS2.out.below⟩
  have hT := HT.out (hz (by omega))
  clear HT hz
  go_wp2_with (first
    | (go_at_call 33; with_reducible refine (hT w2 HS2).mono ?_; rintro r w3 ⟨g3, rfl, hI3, hB3⟩; have HS3 := KpSg.call HS2 hB3)
    | (go_at_call 32; with_reducible refine (hS w3 g3 hI3).mono ?_; rintro r w4 ⟨rfl, hB4⟩; have HS4 := KpSg.call HS3 hB4; obtain ⟨p0, p1, _⟩ := KpSg.two HS4)
    | (go_at_call 33; with_reducible refine (hT w4 HS4).mono ?_; rintro r w5 ⟨g5, rfl, hI5, hB5⟩; have HS5 := KpSg.call HS4 hB5; have HX6 := KpX.start HS5 hI5 59)
    | (go_at_call 34; with_reducible refine (hI _ _ _ HX6).mono ?_; rintro r w7 ⟨rfl, hB7⟩; have HX7 := KpX.call HX6 hB7; have HXd := KpX.drew HX7))
  clear HX7 HX6 HS5 HS4 HS3 HS2 hI hS q0 q1 p0 p1 hB7 hB5 hB4 hB3 hI5 hI3
  go_region_held3 (fun w' => w'.cell? ⟨w5.heap.size, 0, none⟩ = some (.string t) ∧ w'.cell? ⟨w5.heap.size, 1, none⟩ = some (.slice (some ⟨g5, 0, none⟩) n n) ∧ w'.cell? ⟨w.heap.size, 0, none⟩ = some (.string t) ∧ w'.cell? ⟨w.heap.size, 1, none⟩ = some (.slice a n c) ∧ Hid (KpX w t a n c l w5.heap.size g5 w'))
    (first | exact KpX.four HXd | exact KpX.four (KpX.call HXd h8) | exact KpX.four (KpX.call (KpX.call HXd h8) h9))
    (first
      | (go_at_call 33; with_reducible refine (hT _ (KpX.kpH HXd)).mono ?_; rintro r w8 ⟨g8, rfl, hI8, h8⟩)
      | (go_at_call 35; with_reducible refine (hE _ _ _ _ (KpX.call HXd h8) hI8).mono ?_; rintro r w9 ⟨rfl, h9⟩))
  all_goals
    have HX9 := KpX.call (KpX.call HXd h8) h9
    go_wp2_with fail
    go_ret
    exact ⟨rfl, HX9.out.kp.below⟩
end Go.Proofs.Ytnlalnkoggkdfaa
