/- HashEnd of both sides, for every Hash; the law over it. -/
import Derived.Test.YthmlfohgbkkbjaaDoorDig
import Derived.Test.YthmlfohgbkkbjaaDoorTwo
namespace Go.Proofs.YthmlfohgbkkbjaaDoor
open Go.RowKit
set_option linter.unusedVariables false

def endA (l : List Int) (s : ByteArray) (z : Int) : ByteArray := if rightB l s z = true then endD (rOf l) s z.toNat else ⟨#[]⟩
set_option maxRecDepth 100000 in
set_option maxHeartbeats 1000000 in
theorem hashEndS (g c n : Nat) (l : List Int) (s : ByteArray) (z : Int) (w : World) (hn : l.length = n) (h : IAt w (some ⟨g, 0, none⟩) l) (hb : n ≤ 1000000000) (hs : s.size ≤ maxLen) :
    Calls Tryd.prog 24 #[HVal (some ⟨g, 0, none⟩) n c s z] w fun e w' => e = .returned (.string (endA l s z)) ∧ Below w.heap.size w w' := by
  have HI : Hid (IAt w (some ⟨g, 0, none⟩) l) := h
  have hrt : ∀ w0, IAt w0 (some ⟨g, 0, none⟩) l → Calls Tryd.prog 39 #[HVal (some ⟨g, 0, none⟩) n c s z] w0 fun e w' => e = .returned (.bool (rightB l s z)) ∧ Below w0.heap.size w0 w' := fun w0 h => rightS_any _ c n l s z w0 hn h hb hs
  clear h
  by_cases hR : Right l s z
  · have HE : Hid (endA l s z = endD (rOf l) s z.toNat) := if_pos (right_yes hR)
    rw [right_yes hR] at hrt
    obtain ⟨Z, rfl, hZ, hsz, hints, h8⟩ := hR.nat
    obtain rfl : n = 8 := by omega
    have hend : ∀ w0, IAt w0 (some ⟨g, 0, none⟩) l → Calls Tryd.prog 29 #[HVal (some ⟨g, 0, none⟩) 8 c s (Z : Int)] w0 fun e w' => e = .returned (.string (endD (rOf l) s Z)) ∧ Below w0.heap.size w0 w' := fun w0 h => endS_m g c (rOf l) s Z w0 (by rw [hints]; exact h) (by omega) hZ
    rw [Int.toNat_natCast] at HE
    generalize endD (rOf l) s Z = E at *
    clear hR hn hsz hints h8
    go_enter Tryd.func24, Tryd.ntmps24
    go_wp2_with (first
      | (with_reducible refine wpList_boxV (w := w) (by with_unfolding_all rfl) 27 (.tmp 0) (by with_unfolding_all rfl) (hvs (some ⟨g, 0, none⟩) 8 c s (Z : Int)) (by with_unfolding_all rfl) ?_; intro w1 hA1 hB1 hS1)
      | (with_reducible refine wpList_loadV (w := w1) (by with_unfolding_all rfl) 27 (.tmp 1) (by with_unfolding_all rfl) w.heap.size (hvs (some ⟨g, 0, none⟩) 8 c s (Z : Int)) (by with_unfolding_all rfl) hA1 Tryd.undH 3 Tryd.sizeH (by with_unfolding_all rfl) ?_)
      | (go_at_call 39; refine (hrt w1 (HI.out.below hB1)).mono ?_; rintro e w2 ⟨rfl, hB2⟩; have V2 := hA1.below hB2 (by omega); have b02 : Below w.heap.size w w2 := hB1.trans (hB2.mono (by omega)))
      | (with_reducible refine wpList_loadV (w := w2) (by with_unfolding_all rfl) 27 (.tmp 1) (by with_unfolding_all rfl) w.heap.size (hvs (some ⟨g, 0, none⟩) 8 c s (Z : Int)) (by with_unfolding_all rfl) V2 Tryd.undH 3 Tryd.sizeH (by with_unfolding_all rfl) ?_)
      | (go_at_call 29; refine (hend w2 (HI.out.below b02)).mono ?_; rintro e w3 ⟨rfl, hB3⟩))
    go_ret
    exact ⟨ret_str' HE.out.symm, b02.trans (hB3.mono b02.size)⟩
  · have HE : Hid (endA l s z = ⟨#[]⟩) := if_neg (fun e => hR (right_of e))
    rw [right_no hR] at hrt
    clear hR
    go_enter Tryd.func24, Tryd.ntmps24
    go_wp2_with (first
      | (with_reducible refine wpList_boxV (w := w) (by with_unfolding_all rfl) 27 (.tmp 0) (by with_unfolding_all rfl) (hvs (some ⟨g, 0, none⟩) n c s z) (by with_unfolding_all rfl) ?_; intro w1 hA1 hB1 hS1)
      | (with_reducible refine wpList_loadV (w := w1) (by with_unfolding_all rfl) 27 (.tmp 1) (by with_unfolding_all rfl) w.heap.size (hvs (some ⟨g, 0, none⟩) n c s z) (by with_unfolding_all rfl) hA1 Tryd.undH 3 Tryd.sizeH (by with_unfolding_all rfl) ?_)
      | (go_at_call 39; refine (hrt w1 (HI.out.below hB1)).mono ?_; rintro e w2 ⟨rfl, hB2⟩))
    go_ret
    exact ⟨ret_str' HE.out.symm, hB1.trans (hB2.mono (by omega))⟩
set_option maxRecDepth 100000 in
set_option maxHeartbeats 1000000 in
theorem hashEndI (g c n : Nat) (l : List Int) (s : ByteArray) (z : Int) (w : World) (hn : l.length = n) (h : IAt w (some ⟨g, 0, none⟩) l) (hb : n ≤ 1000000000) (hs : s.size ≤ maxLen) (hk : ArrU w 0 keys) (h0 : 0 < w.heap.size) :
    Calls Tryd.prog 15 #[HVal (some ⟨g, 0, none⟩) n c s z] w fun e w' => e = .returned (.string (endA l s z)) ∧ Below w.heap.size w w' := by
  by_cases hR : Right l s z
  · obtain ⟨Z, rfl, hZ, hsz, hints, h8⟩ := hR.nat
    obtain rfl : n = 8 := by omega
    have := endI_m g c (rOf l) s Z w (by rw [hints]; exact h) hsz hZ hk h0
    rw [show endA l s (Z : Int) = endD (rOf l) s Z from (if_pos (right_yes hR)).trans (by rw [Int.toNat_natCast])]
    exact this
  · have HI : Hid (IAt w (some ⟨g, 0, none⟩) l) := h
    have hrt : ∀ w0, IAt w0 (some ⟨g, 0, none⟩) l → Calls Tryd.prog 14 #[HVal (some ⟨g, 0, none⟩) n c s z] w0 fun e w' => e = .returned (.bool false) ∧ Below w0.heap.size w0 w' := fun w0 h => by
      have := rightI_any _ c n l s z w0 hn h hb hs
      rw [right_no hR] at this
      exact this
    have HE : Hid (endA l s z = ⟨#[]⟩) := if_neg (fun e => hR (right_of e))
    clear hR h hk
    go_enter Tryd.func15, Tryd.ntmps15
    go_wp2_with (first
      | (with_reducible refine wpList_boxV (w := w) (by with_unfolding_all rfl) 27 (.tmp 0) (by with_unfolding_all rfl) (hvs (some ⟨g, 0, none⟩) n c s z) (by with_unfolding_all rfl) ?_; intro w1 hA1 hB1 hS1)
      | (with_reducible refine wpList_loadV (w := w1) (by with_unfolding_all rfl) 27 (.tmp 1) (by with_unfolding_all rfl) w.heap.size (hvs (some ⟨g, 0, none⟩) n c s z) (by with_unfolding_all rfl) hA1 Tryd.undH 3 Tryd.sizeH (by with_unfolding_all rfl) ?_)
      | (go_at_call 14; refine (hrt w1 (HI.out.below hB1)).mono ?_; rintro e w2 ⟨rfl, hB2⟩))
    go_ret
    exact ⟨ret_str' HE.out.symm, hB1.trans (hB2.mono (by omega))⟩

set_option maxRecDepth 100000 in
set_option maxHeartbeats 1000000 in
theorem lawHashEnd (a : Option Addr) (c n : Nat) (l : List Int) (s : ByteArray) (z : Int) (w : World) (hn : l.length = n) (h : AI w a l) (hM : n ≤ maxLen) (hs : s.size ≤ maxLen) (hz : (Lit.int .i64 z).wf = true) (hk : ArrU w 0 keys) (h0 : 0 < w.heap.size) :
    Calls Tryd.prog 6 #[HVal a n c s z] w fun e w' => e = .returned (.bool true) ∧ Below w.heap.size w w' := by
  have HA : Hid (AI w a l) := h
  have HK : Hid (ArrU w 0 keys) := hk
  clear hk hz
  have HN : Hid (l.length = n) := hn
  have HS : Hid (s.size ≤ maxLen) := hs
  have HSz : ∀ w0 : World, Calls Tryd.prog 18 #[HVal a n c s z, .int .i64 1048576] w0 fun e w' => e = .returned (.int .i64 (room n s.size)) ∧ Below w0.heap.size w0 w' := fun w0 => szH_any a c n s z w0 hM hs
  clear h hn hM hs
  by_cases hr : n ≤ 1048576 ∧ n + s.size ≤ 1048576
  · have hr0 : 0 ≤ room n s.size := by unfold room; rw [if_pos hr]; omega
    have hb := hr.1
    generalize room n s.size = q at *
    have HRS : ∀ (g : Nat) (w0 : World), IAt w0 (some ⟨g, 0, none⟩) l → Calls Tryd.prog 24 #[HVal (some ⟨g, 0, none⟩) n n s z] w0 fun e w' => e = .returned (.string (endA l s z)) ∧ Below w0.heap.size w0 w' := fun g w0 h =>
      hashEndS g n n l s z w0 HN.out h (by omega) HS.out
    have HRI : ∀ (g : Nat) (w0 : World), IAt w0 (some ⟨g, 0, none⟩) l → ArrU w0 0 keys → 0 < w0.heap.size → Calls Tryd.prog 15 #[HVal (some ⟨g, 0, none⟩) n n s z] w0 fun e w' => e = .returned (.string (endA l s z)) ∧ Below w0.heap.size w0 w' := fun g w0 h k1 k2 =>
      hashEndI g n n l s z w0 HN.out h (by omega) HS.out k1 k2
    generalize endA l s z = E at *
    have HTo : ∀ w0 : World, AI w0 a l → Calls Tryd.prog 20 #[HVal a n c s z] w0 fun e w' => ∃ g, e = .returned (HVal (some ⟨g, 0, none⟩) n n s z) ∧ w0.heap.size ≤ g ∧ g < w'.heap.size ∧ IAt w' (some ⟨g, 0, none⟩) l ∧ Below w0.heap.size w0 w' := fun w0 h => toH_any a c n l s z w0 HN.out h hb
    clear hr
    go_enter Tryd.func6, Tryd.ntmps6
    go_wp2_with (first
      | (with_reducible refine wpList_boxV (w := w) (by with_unfolding_all rfl) 35 (.tmp 0) (by with_unfolding_all rfl) (hvs a n c s z) (by with_unfolding_all rfl) ?_; intro w1 hA1 hB1 hS1)
      | (with_reducible refine wpList_loadV (w := w1) (by with_unfolding_all rfl) 35 (.tmp 1) (by with_unfolding_all rfl) w.heap.size (hvs a n c s z) (by with_unfolding_all rfl) hA1 Tryd.undL 3 Tryd.sizeL (by with_unfolding_all rfl) ?_)
      | (go_at_call 18; with_reducible refine (HSz w1).mono ?_; rintro e w2 ⟨rfl, hB2⟩; have b02 : Below w.heap.size w w2 := hB1.trans (hB2.mono (by omega)); have V2 := hA1.below hB2 (by omega); have z2 := hB2.size)
      | (with_reducible refine wpList_loadV (w := w2) (by with_unfolding_all rfl) 35 (.tmp 1) (by with_unfolding_all rfl) w.heap.size (hvs a n c s z) (by with_unfolding_all rfl) V2 Tryd.undL 3 Tryd.sizeL (by with_unfolding_all rfl) ?_)
      | (go_at_call 20; with_reducible refine (HTo w2 (HA.out.below b02)).mono ?_; rintro e w3 ⟨g3, rfl, hg3, hl3, hI3, hB3⟩; have V3 := V2.below hB3 (by omega); have b03 : Below w.heap.size w w3 := b02.trans (hB3.mono (by omega)); have z3 := hB3.size)
      | (go_at_call 24; with_reducible refine (HRS g3 w3 hI3).mono ?_; rintro e w4 ⟨rfl, hB4⟩; have V4 := V3.below hB4 (by omega); have b04 : Below w.heap.size w w4 := b03.trans (hB4.mono (by omega)); have z4 := hB4.size)
      | (with_reducible refine wpList_loadV (w := w4) (by with_unfolding_all rfl) 35 (.tmp 1) (by with_unfolding_all rfl) w.heap.size (hvs a n c s z) (by with_unfolding_all rfl) V4 Tryd.undL 3 Tryd.sizeL (by with_unfolding_all rfl) ?_)
      | (go_at_call 20; with_reducible refine (HTo w4 (HA.out.below b04)).mono ?_; rintro e w5 ⟨g5, rfl, hg5, hl5, hI5, hB5⟩; have V5 := V4.below hB5 (by omega); have b05 : Below w.heap.size w w5 := b04.trans (hB5.mono (by omega)); have z5 := hB5.size)
      | (with_reducible refine wpList_allocV (w := w5) (by with_unfolding_all rfl) 27 (by with_unfolding_all rfl) (hvs none 0 0 ⟨#[]⟩ 0) Tryd.infoH ?_; intro w6 hA6 hB6 hS6)
      | (with_reducible refine wpList_storeV (w := w6) (by with_unfolding_all rfl) 27 (.tmp 5) (.tmp 16) (by with_unfolding_all rfl) w5.heap.size (hvs none 0 0 ⟨#[]⟩ 0) (hvs (some ⟨g5, 0, none⟩) n n s z) (by with_unfolding_all rfl) (by with_unfolding_all rfl) hA6 3 Tryd.sizeH (by with_unfolding_all rfl) (by with_unfolding_all rfl) (hvs_one _ _ _ _ _) ?_; intro w7 hA7 hB7 hF7 hS7; have b57 : Below w5.heap.size w5 w7 := hB6.trans (hB7 _ (Nat.le_refl _)); have b07 : Below w.heap.size w w7 := b05.trans (b57.mono (by omega)); have S7 : Two w7 w.heap.size w5.heap.size a g5 c n l s z := ⟨V5.below b57 (by omega), hA7, hI5.below b57, HA.out.below b07⟩)
      | (with_reducible refine wpList_loadV (w := w7) (by with_unfolding_all rfl) 27 (.tmp 5) (by with_unfolding_all rfl) w5.heap.size (hvs (some ⟨g5, 0, none⟩) n n s z) (by with_unfolding_all rfl) S7.v5 Tryd.undH 3 Tryd.sizeH (by with_unfolding_all rfl) ?_)
      | (go_at_call 15; with_reducible refine (HRI g5 w7 S7.i5 (HK.out.below b07 h0) (by have := b07.size; omega)).mono ?_; rintro e w8 ⟨rfl, hB8⟩; have S8 := S7.below hB8; have b08 : Below w.heap.size w w8 := b07.trans (hB8.mono (by omega)); have z8 := hB8.size))
    obtain ⟨dH, hdH, hrH⟩ := Tryd.undH
    obtain ⟨dL, hdL, hrL⟩ := Tryd.undL
    refine wp_region_held_drew (S := fun w' => Two w' w.heap.size w5.heap.size a g5 c n l s z ∧ Below w.heap.size w w') (by kernel_rfl) ⟨S8.drew, b08.drew⟩ (fun hHeld => ?_)
    refine wpAnyH_take (i := 0) (oi := ⟨_, _, _, _, _, _⟩) (v := .agg (hvs (some ⟨g5, 0, none⟩) n n s z).toArray) rfl (by kernel_rfl) (by kernel_rfl) (by kernel_rfl) (fun _ _ _ h => h) (yieldsIf_load_mid (wanted_none rfl) 27 (.tmp 5) (by with_unfolding_all rfl) w5.heap.size 0 (by with_unfolding_all rfl) (hvs (some ⟨g5, 0, none⟩) n n s z) dH (fun w' hS => hS.1.v5.rng) hdH hrH Tryd.sizeH) hHeld ?_
    simp only [Act.put, List.setIfInBounds_toArray, List.set_cons_zero, List.set_cons_succ]
    refine wpAnyH_take (i := 1) (oi := ⟨_, _, _, _, _, _⟩) (v := .agg (hvs a n c s z).toArray) rfl (by kernel_rfl) (by kernel_rfl) (by kernel_rfl) (fun _ _ _ h => h) (yieldsIf_load_mid (wanted_none rfl) 35 (.tmp 1) (by with_unfolding_all rfl) w.heap.size 0 (by with_unfolding_all rfl) (hvs a n c s z) dL (fun w' hS => hS.1.v1.rng) hdL hrL Tryd.sizeL) hHeld ?_
    simp only [Act.put, List.setIfInBounds_toArray, List.set_cons_zero, List.set_cons_succ]
    refine wpAnyH_ready (rs := [2]) (by kernel_rfl) (by simp) (AllReadyH.cons (o := ⟨_, _, _, _, _, _⟩) rfl (fun K hK => ?_) AllReadyH.nil)
    rewrite [if_pos (wanted_none rfl)]
    go_simp
    with_reducible refine (HTo _ hHeld.1.ai).mono ?_
    rintro e w9 ⟨g9, rfl, hg9, hl9, hI9, hB9⟩
    go_wp2_with fail
    have hH9 : Two w9 w.heap.size w5.heap.size a g5 c n l s z ∧ Below w.heap.size w w9 := ⟨hHeld.1.below hB9, hHeld.2.trans (hB9.mono hHeld.2.size)⟩
    refine hK.out _ _ hH9 (fun _ => ?_)
    clear hK K
    refine wpAnyH_ready (rs := [3]) (by kernel_rfl) (by simp) (AllReadyH.cons (o := ⟨_, _, _, _, _, _⟩) rfl (fun K hK => ?_) AllReadyH.nil)
    rewrite [if_pos (wanted_none rfl)]
    go_simp
    refine (eqH_same _ _ _ _ n l s z w9 HN.out hH9.1.i5 hI9 (by omega)).mono ?_
    rintro e w10 ⟨rfl, hB10⟩
    go_wp2_with fail
    have hH10 : Two w10 w.heap.size w5.heap.size a g5 c n l s z ∧ Below w.heap.size w w10 := ⟨hH9.1.below hB10, hH9.2.trans (hB10.mono hH9.2.size)⟩
    refine hK.out _ _ hH10 (fun _ => ?_)
    clear hK K
    refine wpAnyH_take (i := 4) (oi := ⟨_, _, _, _, _, _⟩) (v := .bool false) rfl (by kernel_rfl) (by kernel_rfl) (by kernel_rfl) (fun _ _ _ h => h) (Or.inl ⟨wanted_none rfl, fun w' hSw => ?_⟩) hH10 ?_
    · go_simp
    refine wpAnyH_done (by kernel_rfl) ?_ _
    go_wp2
    go_ret
    exact ⟨rfl, hH10.2⟩
  · have hr0 : room n s.size < 0 := by unfold room; rw [if_neg hr]; omega
    generalize room n s.size = q at *
    go_enter Tryd.func6, Tryd.ntmps6
    go_wp2_with (first
      | (with_reducible refine wpList_boxV (w := w) (by with_unfolding_all rfl) 35 (.tmp 0) (by with_unfolding_all rfl) (hvs a n c s z) (by with_unfolding_all rfl) ?_; intro w1 hA1 hB1 hS1)
      | (with_reducible refine wpList_loadV (w := w1) (by with_unfolding_all rfl) 35 (.tmp 1) (by with_unfolding_all rfl) w.heap.size (hvs a n c s z) (by with_unfolding_all rfl) hA1 Tryd.undL 3 Tryd.sizeL (by with_unfolding_all rfl) ?_)
      | (go_at_call 18; with_reducible refine (HSz w1).mono ?_; rintro e w2 ⟨rfl, hB2⟩))
    go_ret
    exact ⟨rfl, hB1.trans (hB2.mono (by omega))⟩
end Go.Proofs.YthmlfohgbkkbjaaDoor
