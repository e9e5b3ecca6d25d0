/- The law FnSign, walked: whatever the bytes, the law answers true. -/
import Derived.Test.YtbehflckihmgbaaDoorChkI
import Derived.Test.YtbehflckihmgbaaDoorDrwS
namespace Go.Proofs.YtbehflckihmgbaaDoor
open Go.RowKit
set_option linter.unusedVariables false
attribute [local go_sem ↓] Go.wp_at_zero Go.wp_at_succ

/- What stands while the law works: the variable of the Sig, another one, the numbers of the rounds. -/
structure KpS (w : World) (g : Nat) (y e s : Int) (w' : World) : Prop where
  below : Below w.heap.size w w'
  v : RowV w' g (svs y e s)
  ks : ArrU w' 0 keys
  pos : 0 < w'.heap.size
  lo : w.heap.size ≤ g
theorem KpS.hid {w w' w2 : World} {g : Nat} {y e s : Int} (h : Hid (KpS w g y e s w')) (hb : Below w'.heap.size w' w2) : Hid (KpS w g y e s w2) :=
  ⟨h.out.below.trans (hb.mono h.out.below.size), h.out.v.below hb (h.out.v.lt (svs_ne _ _ _)), h.out.ks.below hb h.out.pos, Nat.lt_of_lt_of_le h.out.pos hb.size, h.out.lo⟩
theorem KpS.drew {w w' : World} {g : Nat} {y e s : Int} (h : Hid (KpS w g y e s w')) : Hid (KpS w g y e s w'.drew) := ⟨h.out.below.drew, h.out.v.drew, h.out.ks.drew, h.out.pos, h.out.lo⟩
theorem KpS.four {w w' : World} {g : Nat} {y e s : Int} (h : Hid (KpS w g y e s w')) : w'.cell? ⟨g, 0, none⟩ = some (.int .i64 y) ∧ w'.cell? ⟨g, 1, none⟩ = some (.int .i64 e) ∧ w'.cell? ⟨g, 2, none⟩ = some (.int .i64 s) ∧ Hid (KpS w g y e s w') :=
  ⟨h.out.v.cell (k := 0) rfl, h.out.v.cell (k := 1) rfl, h.out.v.cell (k := 2) rfl, h⟩
theorem KpS.start {w w' : World} {g : Nat} {y e s : Int} (h1 : Below w.heap.size w w') (h2 : RowV w' g (svs y e s)) (h3 : ArrU w' 0 keys) (h4 : 0 < w'.heap.size) (h5 : w.heap.size ≤ g) : Hid (KpS w g y e s w') := ⟨h1, h2, h3, h4, h5⟩
structure KpL (w : World) (g h : Nat) (y e s z : Int) (w' : World) : Prop where
  below : Below w.heap.size w w'
  v : RowV w' g (svs y e s)
  u : RowV w' h (svs z e s)
  ks : ArrU w' 0 keys
  pos : 0 < w'.heap.size
theorem KpL.hid {w w' w2 : World} {g h : Nat} {y e s z : Int} (H : Hid (KpL w g h y e s z w')) (hb : Below w'.heap.size w' w2) : Hid (KpL w g h y e s z w2) :=
  ⟨H.out.below.trans (hb.mono H.out.below.size), H.out.v.below hb (H.out.v.lt (svs_ne _ _ _)), H.out.u.below hb (H.out.u.lt (svs_ne _ _ _)), H.out.ks.below hb H.out.pos, Nat.lt_of_lt_of_le H.out.pos hb.size⟩
theorem KpL.drew {w w' : World} {g h : Nat} {y e s z : Int} (H : Hid (KpL w g h y e s z w')) : Hid (KpL w g h y e s z w'.drew) := ⟨H.out.below.drew, H.out.v.drew, H.out.u.drew, H.out.ks.drew, H.out.pos⟩
theorem KpL.seven {w w' : World} {g h : Nat} {y e s z : Int} (H : Hid (KpL w g h y e s z w')) : w'.cell? ⟨g, 0, none⟩ = some (.int .i64 y) ∧ w'.cell? ⟨g, 1, none⟩ = some (.int .i64 e) ∧ w'.cell? ⟨g, 2, none⟩ = some (.int .i64 s) ∧ w'.cell? ⟨h, 0, none⟩ = some (.int .i64 z) ∧ w'.cell? ⟨h, 1, none⟩ = some (.int .i64 e) ∧ w'.cell? ⟨h, 2, none⟩ = some (.int .i64 s) ∧ Hid (KpL w g h y e s z w') :=
  ⟨H.out.v.cell (k := 0) rfl, H.out.v.cell (k := 1) rfl, H.out.v.cell (k := 2) rfl, H.out.u.cell (k := 0) rfl, H.out.u.cell (k := 1) rfl, H.out.u.cell (k := 2) rfl, H⟩
theorem KpL.start {w w' : World} {g h : Nat} {y e s z : Int} (h1 : Below w.heap.size w w') (h2 : RowV w' g (svs y e s)) (h3 : RowV w' h (svs z e s)) (h4 : ArrU w' 0 keys) (h5 : 0 < w'.heap.size) : Hid (KpL w g h y e s z w') := ⟨h1, h2, h3, h4, h5⟩

set_option maxRecDepth 100000 in
set_option maxHeartbeats 4000000 in
theorem lawSign (l0 c0 l1 c1 : Nat) (a0 a1 : Option Addr) (w : World) (hb0 : Bytes w a0 l0) (hs0 : l0 ≤ 9223372036854775807)
    (hb1 : Bytes w a1 l1) (hs1 : l1 ≤ 9223372036854775807) (hk : ArrU w 0 keys) (h0 : 0 < w.heap.size) :
    Calls Tryd.prog 3 #[.slice a0 l0 c0, .slice a1 l1 c1] w fun e w' => e = .returned (.bool true) ∧ Below w.heap.size w w' := by
  by_cases hbig : 1048576 < l0
  · clear hb0 hb1 hk
    go_enter Tryd.func3, Tryd.ntmps3
    go_wp2_with fail
    go_ret
    exact ⟨rfl, Below.refl _ _⟩
  by_cases hbig1 : 1048576 < l1
  · clear hb0 hb1 hk
    go_enter Tryd.func3, Tryd.ntmps3
    go_wp2_with fail
    go_ret
    exact ⟨rfl, Below.refl _ _⟩
  have HD1 : Hid (∀ w', Below w.heap.size w w' → Bytes w' a1 l1) := fun w' h => hb1.later h
  have HK : Hid (∀ w', Below w.heap.size w w' → ArrU w' 0 keys) := fun w' h => hk.below h h0
  have HD0 : Hid _ := drawSign l0 c0 a0 w hb0 hs0
  clear hb0 hb1 hk
  go_enter Tryd.func3, Tryd.ntmps3
  go_wp2_with fail
  refine Calls.mono HD0.out ?_
  rintro e w1 ⟨x, t, rfl, hx, ht, hB1⟩
  have z1 := hB1.size
  clear HD0
  by_cases hs : IsSec x
  · have hS1 : Hid (Calls Tryd.prog 7 #[.int .i64 x, .string t] w1 fun r w' => r = .returned (SVal (powM 4 x 2147483579) (eM x t) (sM x t)) ∧ Below w1.heap.size w1 w') := implSign x t w1 hx hs (by omega) (HK.out w1 hB1) (by omega)
    have hS2 : ∀ w0, Calls Tryd.prog 8 #[.int .i64 x, .string t] w0 fun r w' => r = .returned (.agg #[.int .i64 (powM 4 x 2147483579), .int .i64 (eM x t), .int .i64 (sM x t)]) ∧ Below w0.heap.size w0 w' := fun w0 => specSign x t w0 hx hs (by omega)
    have hS3 : ∀ w0, Calls Tryd.prog 9 #[.int .i64 x] w0 fun e w' => e = .returned (.bool true) ∧ w0 = w' := fun w0 => (specSec x w0 hx).mono fun e w' h => ⟨by rw [h.1, secB_yes hs], h.2.symm⟩
    obtain ⟨hp1, hp2⟩ := pass_own (t := t) hs
    have hgr := gr_key hs
    have hY : I64 (powM 4 x 2147483579) := i64_of (by have := (grB_in hgr).1; omega) (by have := (grB_in hgr).2; omega)
    have hR : ∀ w0, Calls Tryd.prog 12 #[.agg #[.int .i64 (powM 4 x 2147483579), .int .i64 (eM x t), .int .i64 (sM x t)]] w0 fun r w' => r = .returned (.bool true) ∧ Below w0.heap.size w0 w' := fun w0 => by
      have := implSigR (powM 4 x 2147483579) (eM x t) (sM x t) w0 hY
      rw [hp1] at this
      exact this
    have hP : ∀ w0, Calls Tryd.prog 13 #[.int .i64 x] w0 fun r w' => r = .returned (.int .i64 (powM 4 x 2147483579)) ∧ w' = w0 := fun w0 => by
      have := implPub x w0 hx
      rw [show pubM x = _ from if_pos hs] at this
      exact this
    have hG : ∀ w0, Calls Tryd.prog 14 #[.int .i64 (powM 4 x 2147483579)] w0 fun r w' => r = .returned (.bool true) ∧ w' = w0 := fun w0 => by
      have := implGRight (powM 4 x 2147483579) w0 hY
      rw [hgr] at this
      exact this
    have hC1 : ∀ w0 g h z, Hid (KpL w g h (powM 4 x 2147483579) (eM x t) (sM x t) z w0) → Calls Tryd.prog 10 #[.agg #[.int .i64 (powM 4 x 2147483579), .int .i64 (eM x t), .int .i64 (sM x t)], .string t] w0 fun r w' => r = .returned (.bool true) ∧ Below w0.heap.size w0 w' := fun w0 g h z H => by
      have := implChk (powM 4 x 2147483579) (eM x t) (sM x t) t w0 hY (by omega) H.out.ks H.out.pos
      rw [hp2] at this
      exact this
    have hC2 : Hid (∀ z, I64 z → ∃ b : Bool, (∀ w0 g h y, Hid (KpL w g h y (eM x t) (sM x t) z w0) → Calls Tryd.prog 10 #[.agg #[.int .i64 z, .int .i64 (eM x t), .int .i64 (sM x t)], .string t] w0 fun r w' => r = .returned (.bool b) ∧ Below w0.heap.size w0 w') ∧ (∀ w0, Calls Tryd.prog 15 #[.agg #[.int .i64 z, .int .i64 (eM x t), .int .i64 (sM x t)], .string t] w0 fun r w' => r = .returned (.bool b) ∧ Below w0.heap.size w0 w')) := fun z hz =>
      ⟨chkB z (eM x t) (sM x t) t, fun w0 g h y H => implChk z (eM x t) (sM x t) t w0 hz (by omega) H.out.ks H.out.pos, fun w0 => specChk z (eM x t) (sM x t) t w0 hz (by omega)⟩
    clear hp1 hp2 hgr hY
    generalize sM x t = S at *
    generalize eM x t = E at *
    generalize powM 4 x 2147483579 = Y at *
    have y1 : (Y == Y) = true := by simp
    have y2 : (E == E) = true := by simp
    have y3 : (S == S) = true := by simp
    go_wp2_with (first
      | (go_at_call 7; refine Calls.mono hS1.out ?_; rintro r w2 ⟨rfl, hB2⟩; have z2 := hB2.size)
      | (with_reducible refine wpList_allocV (w := w2) (by with_unfolding_all rfl) 26 (by with_unfolding_all rfl) (svs 0 0 0) Tryd.infoS ?_; intro w3 hA3 hB3 hS3')
      | (with_reducible refine wpList_storeV (w := w3) (by with_unfolding_all rfl) 26 (.tmp 7) (.tmp 25) (by with_unfolding_all rfl) w2.heap.size (svs 0 0 0) (svs Y E S) (by with_unfolding_all rfl) (by with_unfolding_all rfl) hA3 3 Tryd.sizeS (by with_unfolding_all rfl) (by with_unfolding_all rfl) (svs_one _ _ _) ?_; intro w4 hA4 hB4 hF4 hS4; have b24 : Below w2.heap.size w2 w4 := hB3.trans (hB4 _ (Nat.le_refl _)); have b04 : Below w.heap.size w w4 := (hB1.trans (hB2.mono (by omega))).trans (b24.mono (by omega)); have HS : Hid (KpS w w2.heap.size Y E S w4) := KpS.start b04 hA4 (HK.out w4 b04) (by omega) (by omega)))
    have HS1 : Hid (KpS w w2.heap.size Y E S w4.drew) := KpS.drew HS
    clear HS hA3 hA4 hB1 hB2 hB3 hB4 hF4 b24 b04 hS1
    generalize w2.heap.size = g at *
    go_region_held3 (fun w' => w'.cell? ⟨g, 0, none⟩ = some (.int .i64 Y) ∧ w'.cell? ⟨g, 1, none⟩ = some (.int .i64 E) ∧ w'.cell? ⟨g, 2, none⟩ = some (.int .i64 S) ∧ Hid (KpS w g Y E S w'))
      (first | exact KpS.four HS1 | exact KpS.four (KpS.hid HS1 h6))
      (first | (go_at_call 8; refine (hS2 _).mono ?_; rintro r w6 ⟨rfl, h6⟩))
    have HS6 : Hid (KpS w g Y E S w6) := KpS.hid HS1 h6
    obtain ⟨p0, p1, p2, _⟩ := KpS.four HS6
    have hD : Hid _ := drawGR l1 c1 a1 w6 (HD1.out w6 HS6.out.below) hs1
    clear HS1 h6 hS2
    go_wp2_with (first
      | (go_at_call 9; with_reducible refine (hS3 _).mono ?_; rintro r w' ⟨rfl, rfl⟩)
      | (go_at_call 11; refine Calls.mono hD.out ?_; rintro r w7 ⟨z, rfl, hz, hB7⟩; obtain ⟨q0, q1, q2, HS7⟩ := KpS.four (KpS.hid HS6 hB7))
      | (with_reducible refine wpList_allocV (w := w7) (by with_unfolding_all rfl) 26 (by with_unfolding_all rfl) (svs 0 0 0) Tryd.infoS ?_; intro w8 hA8 hB8 hS8)
      | (with_reducible refine wpList_storeV (w := w8) (by with_unfolding_all rfl) 26 (.tmp 9) (.tmp 55) (by with_unfolding_all rfl) w7.heap.size (svs 0 0 0) (svs z E S) (by with_unfolding_all rfl) (by with_unfolding_all rfl) hA8 3 Tryd.sizeS (by with_unfolding_all rfl) (by with_unfolding_all rfl) (svs_one _ _ _) ?_; intro w9 hA9 hB9 hF9 hS9; have b79 : Below w7.heap.size w7 w9 := hB8.trans (hB9 _ (Nat.le_refl _)); have HS9 : Hid (KpS w g Y E S w9) := KpS.hid HS7 b79))
    obtain ⟨b, hb1, hb2⟩ := hC2.out z hz
    have y4 : (b == b) = true := by simp
    have HL : Hid (KpL w g w7.heap.size Y E S z w9.drew) := KpL.drew (KpL.start HS9.out.below HS9.out.v hA9 HS9.out.ks HS9.out.pos)
    clear HS6 HS7 HS9 hA8 hA9 hB7 hB8 hB9 hF9 b79 hC2 hD p0 p1 p2 q0 q1 q2 hS3 HD1 HK hS4 hS8 hS9
    generalize w7.heap.size = h at *
    go_region_held3 (fun w' => w'.cell? ⟨g, 0, none⟩ = some (.int .i64 Y) ∧ w'.cell? ⟨g, 1, none⟩ = some (.int .i64 E) ∧ w'.cell? ⟨g, 2, none⟩ = some (.int .i64 S) ∧ w'.cell? ⟨h, 0, none⟩ = some (.int .i64 z) ∧ w'.cell? ⟨h, 1, none⟩ = some (.int .i64 E) ∧ w'.cell? ⟨h, 2, none⟩ = some (.int .i64 S) ∧ Hid (KpL w g h Y E S z w'))
      (first | exact KpL.seven HL | exact KpL.seven (KpL.hid HL k1) | exact KpL.seven (KpL.hid (KpL.hid HL k1) k2) | exact KpL.seven (KpL.hid (KpL.hid (KpL.hid HL k1) k2) k3) | exact KpL.seven (KpL.hid (KpL.hid (KpL.hid (KpL.hid HL k1) k2) k3) k4))
      (first
        | (go_at_call 12; refine (hR _).mono ?_; rintro r v1 ⟨rfl, k1⟩)
        | (go_at_call 13; refine (hP _).mono ?_; rintro r v2 ⟨rfl, rfl⟩)
        | (go_at_call 14; refine (hG _).mono ?_; rintro r v2 ⟨rfl, rfl⟩)
        | (go_at_call 10; with_reducible refine (hC1 _ _ _ _ (KpL.hid HL k1)).mono ?_; rintro r v2 ⟨rfl, k2⟩)
        | (go_at_call 10; with_reducible refine (hb1 _ _ _ _ (KpL.hid (KpL.hid HL k1) k2)).mono ?_; rintro r v3 ⟨rfl, k3⟩)
        | (go_at_call 15; refine (hb2 _).mono ?_; rintro r v4 ⟨rfl, k4⟩))
    all_goals
      have B4 : Below w.heap.size w v4 := (KpL.hid (KpL.hid (KpL.hid (KpL.hid HL k1) k2) k3) k4).out.below
      clear HL k1 k2 k3 k4 hR hP hG hC1 hb1 hb2
      go_wp2
      go_ret
      exact ⟨rfl, B4⟩
  · have hS1 : Hid (Calls Tryd.prog 7 #[.int .i64 x, .string t] w1 fun r w' => r = .returned (SVal 0 0 0) ∧ Below w1.heap.size w1 w') := implSign0 x t w1 hx hs (by omega)
    have hS2 : ∀ w0, Calls Tryd.prog 8 #[.int .i64 x, .string t] w0 fun r w' => r = .returned (.agg #[.int .i64 0, .int .i64 0, .int .i64 0]) ∧ Below w0.heap.size w0 w' := fun w0 => specSign0 x t w0 hx hs (by omega)
    have hS3 : ∀ w0, Calls Tryd.prog 9 #[.int .i64 x] w0 fun e w' => e = .returned (.bool false) ∧ w0 = w' := fun w0 => (specSec x w0 hx).mono fun e w' h => ⟨by rw [h.1, secB_no hs], h.2.symm⟩
    have hC : ∀ w0 g, Hid (KpS w g 0 0 0 w0) → Calls Tryd.prog 10 #[.agg #[.int .i64 0, .int .i64 0, .int .i64 0], .string t] w0 fun r w' => r = .returned (.bool false) ∧ Below w0.heap.size w0 w' := fun w0 g H => by
      have := implChk 0 0 0 t w0 (i64_of (by omega) (by omega)) (by omega) H.out.ks H.out.pos
      rw [pass_zero] at this
      exact this
    clear hs
    go_wp2_with (first
      | (go_at_call 7; refine Calls.mono hS1.out ?_; rintro r w2 ⟨rfl, hB2⟩; have z2 := hB2.size)
      | (with_reducible refine wpList_allocV (w := w2) (by with_unfolding_all rfl) 26 (by with_unfolding_all rfl) (svs 0 0 0) Tryd.infoS ?_; intro w3 hA3 hB3 hS3')
      | (with_reducible refine wpList_storeV (w := w3) (by with_unfolding_all rfl) 26 (.tmp 7) (.tmp 25) (by with_unfolding_all rfl) w2.heap.size (svs 0 0 0) (svs 0 0 0) (by with_unfolding_all rfl) (by with_unfolding_all rfl) hA3 3 Tryd.sizeS (by with_unfolding_all rfl) (by with_unfolding_all rfl) (svs_one _ _ _) ?_; intro w4 hA4 hB4 hF4 hS4; have b24 : Below w2.heap.size w2 w4 := hB3.trans (hB4 _ (Nat.le_refl _)); have b04 : Below w.heap.size w w4 := (hB1.trans (hB2.mono (by omega))).trans (b24.mono (by omega)); have HS : Hid (KpS w w2.heap.size 0 0 0 w4) := KpS.start b04 hA4 (HK.out w4 b04) (by omega) (by omega)))
    have HS1 : Hid (KpS w w2.heap.size 0 0 0 w4.drew) := KpS.drew HS
    clear HS hA3 hA4 hB1 hB2 hB3 hB4 hF4 b24 b04 hS1
    generalize w2.heap.size = g at *
    go_region_held3 (fun w' => w'.cell? ⟨g, 0, none⟩ = some (.int .i64 0) ∧ w'.cell? ⟨g, 1, none⟩ = some (.int .i64 0) ∧ w'.cell? ⟨g, 2, none⟩ = some (.int .i64 0) ∧ Hid (KpS w g 0 0 0 w'))
      (first | exact KpS.four HS1 | exact KpS.four (KpS.hid HS1 h6))
      (first | (go_at_call 8; refine (hS2 _).mono ?_; rintro r w6 ⟨rfl, h6⟩))
    all_goals
      have HS6 : Hid (KpS w g 0 0 0 w6) := KpS.hid HS1 h6
      obtain ⟨p0, p1, p2, _⟩ := KpS.four HS6
      clear HS1 h6 hS2
      go_wp2_with (first
        | (go_at_call 9; with_reducible refine (hS3 _).mono ?_; rintro r w' ⟨rfl, rfl⟩)
        | (go_at_call 10; refine (hC _ _ HS6).mono ?_; rintro r w7 ⟨rfl, hB7⟩))
      have B7 : Below w.heap.size w w7 := (KpS.hid HS6 hB7).out.below
      clear HS6 hB7 hC hS3
      go_wp2
      go_ret
      exact ⟨rfl, B7⟩
end Go.Proofs.YtbehflckihmgbaaDoor
