/- The law FnHex, walked: a drawn text is got back from its digits, and a drawn row of digits, if it is one, from its text. The condition: errors.errorType reads as the program's text lays it. -/
import Derived.Test.YtocljgjdllpokaaDoorDraw2
import Derived.Test.YtocljgjdllpokaaDoorHexRF
import Derived.Test.YtocljgjdllpokaaDoorHexRS
import Derived.WalkLawsBesides
import Derived.Deep.RegionHeld3
import Derived.Deep.RegionWith
namespace Go.Proofs.YtocljgjdllpokaaDoor
open Go.RowKit
set_option linter.unusedVariables false
attribute [local go_sem ↓] Go.wp_at_zero Go.wp_at_succ

structure Box (w : World) (g : Nat) (w' : World) (v0 v1 v2 : Value) : Prop where
  lo : w.heap.size ≤ g
  hi : g < w'.heap.size
  below : Below w.heap.size w w'
  c0 : w'.cell? ⟨g, 0, none⟩ = some v0
  c1 : w'.cell? ⟨g, 1, none⟩ = some v1
  c2 : w'.cell? ⟨g, 2, none⟩ = some v2
theorem Box.later {w : World} {g : Nat} {w' w2 : World} {v0 v1 v2 : Value} (h : Box w g w' v0 v1 v2) (hb : Below w'.heap.size w' w2) : Box w g w2 v0 v1 v2 :=
  have hz := h.below.size
  ⟨h.lo, Nat.lt_of_lt_of_le h.hi hb.size, h.below.trans (hb.mono hz), (hb.cell h.hi).trans h.c0, (hb.cell h.hi).trans h.c1, (hb.cell h.hi).trans h.c2⟩
theorem Box.four {w : World} {g : Nat} {w' : World} {v0 v1 v2 : Value} (h : Hid (Box w g w' v0 v1 v2)) : w'.cell? ⟨g, 0, none⟩ = some v0 ∧ w'.cell? ⟨g, 1, none⟩ = some v1 ∧ w'.cell? ⟨g, 2, none⟩ = some v2 ∧ Hid (Box w g w' v0 v1 v2) := ⟨h.out.c0, h.out.c1, h.out.c2, h⟩
theorem Box.hid {w : World} {g : Nat} {w' w2 : World} {v0 v1 v2 : Value} (h : Hid (Box w g w' v0 v1 v2)) (hb : Below w'.heap.size w' w2) : Hid (Box w g w2 v0 v1 v2) := h.out.later hb
theorem Box.drew {w : World} {g : Nat} {w' : World} {v0 v1 v2 : Value} (h : Box w g w' v0 v1 v2) : Box w g w'.drew v0 v1 v2 := ⟨h.lo, h.hi, h.below.drew, h.c0, h.c1, h.c2⟩

set_option maxRecDepth 100000 in
set_option maxHeartbeats 4000000 in
theorem lawHex (l0 c0 l1 c1 : Nat) (a0 a1 : Option Addr) (w : World) (hb0 : Bytes w a0 l0) (hs0 : l0 ≤ 9223372036854775807)
    (hb1 : Bytes w a1 l1) (hs1 : l1 ≤ 9223372036854775807) (hH : Handle w) :
    Calls Tryd.prog 4 #[.slice a0 l0 c0, .slice a1 l1 c1] w fun e w' => e = .returned (.bool true) ∧ Below w.heap.size w w' := by
  by_cases hbig : 1048576 < l0
  · clear hb0 hb1 hH
    go_enter Tryd.func4, Tryd.ntmps4
    go_wp2_with fail
    go_ret
    exact ⟨rfl, Below.refl _ _⟩
  by_cases hbig1 : 1048576 < l1
  · clear hb0 hb1 hH
    go_enter Tryd.func4, Tryd.ntmps4
    go_wp2_with fail
    go_ret
    exact ⟨rfl, Below.refl _ _⟩
  have HD0 : Hid _ := drawHex l0 c0 a0 w hb0 hs0
  have HD1 : Hid (∀ w1, Below w.heap.size w w1 → Calls Tryd.prog 17 #[.slice a1 l1 c1] w1 fun e w' => ∃ x : ByteArray, e = .returned (.string x) ∧ x.size ≤ 20 ∧ Below w1.heap.size w1 w') :=
    fun w1 h => drawHexRead l1 c1 a1 w1 (hb1.later h) hs1
  have HHa : Hid (∀ w1, Below w.heap.size w w1 → Handle w1) := fun w1 h => hH.later hH.pos h
  have HT : Hid (∀ (w1 w2 : World), Below w.heap.size w w1 → Below w1.heap.size w1 w2 → Below w.heap.size w w2) := fun w1 w2 h1 h2 => h1.trans (h2.mono h1.size)
  clear hb0 hb1 hH
  go_enter Tryd.func4, Tryd.ntmps4
  go_wp2_with fail
  refine Calls.mono HD0.out ?_
  rintro e w1 ⟨t, rfl, ht, h1⟩
  have B1 : Hid (Below w.heap.size w w1) := h1
  clear h1 HD0
  go_wp2_with fail
  refine (HD1.out _ B1.out).mono ?_
  rintro e w2 ⟨u, rfl, hu, h2⟩
  have B2 : Hid (Below w.heap.size w w2) := HT.out _ _ B1.out h2
  clear h2 B1 HD1
  go_wp2_with fail
  refine (implHex t _ (by unfold maxLen; omega)).mono ?_
  rintro e w3 ⟨rfl, h3⟩
  have B3 : Hid (Below w.heap.size w w3) := HT.out _ _ B2.out h3
  clear h3 B2
  have hz := hex_size t (by omega)
  have HBk : Hid _ := hex_back t (by omega)
  generalize hexS t = q at *
  have HG1 : Hid (∀ w1, Handle w1 → Calls Tryd.prog 19 #[.string q] w1 fun e w' => e = .returned (.agg #[.string t, .int .i64 0, .int .i64 0]) ∧ Below w1.heap.size w1 w') := by
    intro w1 hw
    have := implHexRead q w1 (by unfold maxLen; omega) hw
    rw [HBk.out] at this
    exact this
  have HG2 : Hid (∀ w1, Handle w1 → Calls Tryd.prog 19 #[.string u] w1 fun e w' => e = .returned (tv (hexRd u)) ∧ Below w1.heap.size w1 w') := fun w1 hw => implHexRead u w1 (by unfold maxLen; omega) hw
  have HG3 : Hid (∀ w1, Calls Tryd.prog 20 #[.string u] w1 fun e w' => e = .returned (tv (hexRd u)) ∧ Below w1.heap.size w1 w') := fun w1 => specHexRead u w1 (by unfold maxLen; omega)
  have HG4 : Hid (∀ x, hexRd u = ⟨x, 0, 0⟩ → ∀ w1, Calls Tryd.prog 18 #[.string x] w1 fun e w' => e = .returned (.string u) ∧ Below w1.heap.size w1 w') := by
    intro x hx w1
    obtain ⟨h1, h2⟩ := hex_fore hx
    have := implHex x w1 (by unfold maxLen; omega)
    rw [h1] at this
    exact this
  clear HBk
  rcases hexRd_code u with ⟨x, hx⟩ | ⟨c, hc, hx⟩
  · have HG5 : Hid _ := HG4.out x hx
    rw [hx] at HG2 HG3
    unfold tv at HG2 HG3
    clear HG4 hx
    go_wp2_with fail
    refine (HG2.out _ (HHa.out _ B3.out)).mono ?_
    rintro e w4 ⟨rfl, h4⟩
    have B4 : Hid (Below w.heap.size w w4) := HT.out _ _ B3.out h4
    have B4a : Hid (Below w.heap.size w (w4.alloc (.cells #[.string x, .int .i64 0, .int .i64 0] 31))) := B4.out.alloc B4.out.size _
    clear h4 B3 HG2
    go_wp2_with fail
    refine (HG1.out _ (HHa.out _ B4a.out)).mono ?_
    rintro e w5 ⟨rfl, h5⟩
    have e0 : w5.cell? ⟨w4.heap.size, 0, none⟩ = some (.string x) := (h5.cell (by simp)).trans (by simp)
    have e1 : w5.cell? ⟨w4.heap.size, 1, none⟩ = some (.int .i64 0) := (h5.cell (by simp)).trans (by simp)
    have e2 : w5.cell? ⟨w4.heap.size, 2, none⟩ = some (.int .i64 0) := (h5.cell (by simp)).trans (by simp)
    have B5 : Hid (Below w.heap.size w w5) := HT.out _ _ B4a.out h5
    have hz5 : w4.heap.size < w5.heap.size := by have := h5.size; simp at this; omega
    have hz4 : w.heap.size ≤ w4.heap.size := B4.out.size
    clear h5 B4 B4a HG1 HHa
    generalize w4.heap.size = g at *
    go_wp2_with fail
    have HS : Hid (Box w g w5.drew (.string x) (.int .i64 0) (.int .i64 0)) := Box.drew ⟨hz4, hz5, B5.out, e0, e1, e2⟩
    clear B5
    go_region_held3 (fun w' => w'.cell? ⟨g, 0, none⟩ = some (.string x) ∧ w'.cell? ⟨g, 1, none⟩ = some (.int .i64 0) ∧ w'.cell? ⟨g, 2, none⟩ = some (.int .i64 0) ∧ Hid (Box w g w' (.string x) (.int .i64 0) (.int .i64 0)))
      (first | exact Box.four HS | exact Box.four (Box.hid HS h6) | exact Box.four (Box.hid (Box.hid HS h6) h7))
      (first
        | (go_at_call 20; refine (HG3.out _).mono ?_; rintro e w6 ⟨rfl, h6⟩)
        | (go_at_call 18; refine (HG5.out _).mono ?_; rintro e w7 ⟨rfl, h7⟩))
    have B7 : Hid (Below w.heap.size w w7) := ((HS.out.later h6).later h7).below
    clear HS h6 h7 HG3 HG5
    go_wp2
    go_ret
    exact ⟨rfl, B7.out⟩
  · have hc' : (c == 0) = false := beq_eq_false_iff_ne.2 hc
    rw [hx] at HG2 HG3
    unfold tv at HG2 HG3
    clear HG4 hx
    go_wp2_with fail
    refine (HG2.out _ (HHa.out _ B3.out)).mono ?_
    rintro e w4 ⟨rfl, h4⟩
    have B4 : Hid (Below w.heap.size w w4) := HT.out _ _ B3.out h4
    have B4a : Hid (Below w.heap.size w (w4.alloc (.cells #[.string noText, .int .i64 0, .int .i64 c] 31))) := B4.out.alloc B4.out.size _
    clear h4 B3 HG2
    go_wp2_with fail
    refine (HG1.out _ (HHa.out _ B4a.out)).mono ?_
    rintro e w5 ⟨rfl, h5⟩
    have e0 : w5.cell? ⟨w4.heap.size, 0, none⟩ = some (.string noText) := (h5.cell (by simp)).trans (by simp)
    have e1 : w5.cell? ⟨w4.heap.size, 1, none⟩ = some (.int .i64 0) := (h5.cell (by simp)).trans (by simp)
    have e2 : w5.cell? ⟨w4.heap.size, 2, none⟩ = some (.int .i64 c) := (h5.cell (by simp)).trans (by simp)
    have B5 : Hid (Below w.heap.size w w5) := HT.out _ _ B4a.out h5
    have hz5 : w4.heap.size < w5.heap.size := by have := h5.size; simp at this; omega
    have hz4 : w.heap.size ≤ w4.heap.size := B4.out.size
    clear h5 B4 B4a HG1 HHa
    generalize w4.heap.size = g at *
    go_wp2_with fail
    have HS : Hid (Box w g w5.drew (.string noText) (.int .i64 0) (.int .i64 c)) := Box.drew ⟨hz4, hz5, B5.out, e0, e1, e2⟩
    clear B5
    have HG6 : Hid (∀ w1, Hid (Box w g w1 (.string noText) (.int .i64 0) (.int .i64 c)) → Calls Tryd.prog 20 #[.string u] w1 fun e w' => e = .returned (.agg #[.string noText, .int .i64 0, .int .i64 c]) ∧ w'.cell? ⟨g, 0, none⟩ = some (.string noText) ∧ w'.cell? ⟨g, 1, none⟩ = some (.int .i64 0) ∧ w'.cell? ⟨g, 2, none⟩ = some (.int .i64 c) ∧ Hid (Box w g w' (.string noText) (.int .i64 0) (.int .i64 c))) :=
      fun w1 h1 => (HG3.out w1).mono (by rintro e w' ⟨rfl, h2⟩; exact ⟨rfl, Box.four (Box.hid h1 h2)⟩)
    clear HG3
    first | (go_region_with (first | (go_at_call 20; refine (HG6.out _ HS).mono ?_; rintro e w6 ⟨rfl, f0, f1, f2, HS6⟩))) | fail
    all_goals have B7 : Hid (Below w.heap.size w w6) := HS6.out.below
    all_goals clear HS HS6 HG6 f0 f1 f2 e0 e1 e2
    all_goals go_wp2
    all_goals go_ret
    all_goals exact ⟨rfl, B7.out⟩
end Go.Proofs.YtocljgjdllpokaaDoor
