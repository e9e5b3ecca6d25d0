/- The law FnExactHashRight, walked. -/
import Derived.Test.YtdajddaifmgghaaRightS
import Derived.Deep.RegionHeld3
namespace Go.Proofs.Ytdajddaifmgghaa
open Go.RowKit
set_option linter.unusedVariables false
theorem wanted_none {o : Oper} {y : Nat → Option Bool} (h : o.guard = none) : Region.wanted o y = true := by simp [Region.wanted, h]
/- The argument's variable and its numbers; the copy's variable and its numbers. -/
structure Two (w : World) (b1 b5 : Nat) (a : Option Addr) (g5 c n : Nat) (l : List Int) (s : ByteArray) (z : Int) : Prop where
  v1 : RowV w b1 (hvs a n c s z)
  v5 : RowV w b5 (hvs (some ⟨g5, 0, none⟩) n n s z)
  i5 : IAt w (some ⟨g5, 0, none⟩) l
  ai : AI w a l
theorem Two.below {w w' : World} {b1 b5 g5 c n : Nat} {a : Option Addr} {l : List Int} {s : ByteArray} {z : Int} (h : Two w b1 b5 a g5 c n l s z) (hb : Below w.heap.size w w') : Two w' b1 b5 a g5 c n l s z :=
  ⟨h.v1.below hb (h.v1.lt (hvs_ne _ _ _ _ _)), h.v5.below hb (h.v5.lt (hvs_ne _ _ _ _ _)), h.i5.below hb, h.ai.below hb⟩
theorem Two.drew {w : World} {b1 b5 g5 c n : Nat} {a : Option Addr} {l : List Int} {s : ByteArray} {z : Int} (h : Two w b1 b5 a g5 c n l s z) : Two w.drew b1 b5 a g5 c n l s z := h.below (Below.refl _ _).drew

set_option maxRecDepth 100000 in
set_option maxHeartbeats 1000000 in
theorem lawHashRight (a : Option Addr) (c n : Nat) (l : List Int) (s : ByteArray) (z : Int) (w : World) (hn : l.length = n) (h : AI w a l) (hM : n ≤ maxLen) (hs : s.size ≤ maxLen) :
    Calls Try.prog 4 #[HVal a n c s z] w fun e w' => e = .returned (.bool true) ∧ Below w.heap.size w w' := by
  have HA : Hid (AI w a l) := h
  have HN : Hid (l.length = n) := hn
  have HS : Hid (s.size ≤ maxLen) := hs
  have HSz : ∀ w0 : World, Calls Try.prog 10 #[HVal a n c s z, .int .i64 1048576] w0 fun e w' => e = .returned (.int .i64 (room n s.size)) ∧ Below w0.heap.size w0 w' := fun w0 => szH_any a c n s z w0 hM hs
  clear h hn hM hs
  by_cases hr : n ≤ 1048576 ∧ n + s.size ≤ 1048576
  · have hr0 : 0 ≤ room n s.size := by unfold room; rw [if_pos hr]; omega
    have hb := hr.1
    generalize room n s.size = q at *
    obtain ⟨b, hbb⟩ : ∃ b, rightB l s z = b := ⟨_, rfl⟩
    have HRS : ∀ (g : Nat) (w0 : World), IAt w0 (some ⟨g, 0, none⟩) l → Calls Try.prog 11 #[HVal (some ⟨g, 0, none⟩) n n s z] w0 fun e w' => e = .returned (.bool b) ∧ Below w0.heap.size w0 w' := fun g w0 h => by
      rw [← hbb]; exact rightS_any _ n n l s z w0 HN.out h (by omega) HS.out
    have HRI : ∀ (g : Nat) (w0 : World), IAt w0 (some ⟨g, 0, none⟩) l → Calls Try.prog 13 #[HVal (some ⟨g, 0, none⟩) n n s z] w0 fun e w' => e = .returned (.bool b) ∧ Below w0.heap.size w0 w' := fun g w0 h => by
      rw [← hbb]; exact rightI_any _ n n l s z w0 HN.out h (by omega) HS.out
    have HTo : ∀ w0 : World, AI w0 a l → Calls Try.prog 12 #[HVal a n c s z] w0 fun e w' => ∃ g, e = .returned (HVal (some ⟨g, 0, none⟩) n n s z) ∧ w0.heap.size ≤ g ∧ g < w'.heap.size ∧ IAt w' (some ⟨g, 0, none⟩) l ∧ Below w0.heap.size w0 w' := fun w0 h => toH_any a c n l s z w0 HN.out h hb
    have hbn : (b != b) = false := by simp
    have hbn' : (b == b) = true := by simp
    clear hbb hr
    go_enter Try.func4, Try.ntmps4
    go_wp2_with (first
      | (with_reducible refine wpList_boxV (w := w) (by with_unfolding_all rfl) 29 (.tmp 0) (by with_unfolding_all rfl) (hvs a n c s z) (by with_unfolding_all rfl) ?_; intro w1 hA1 hB1 hS1)
      | (with_reducible refine wpList_loadV (w := w1) (by with_unfolding_all rfl) 29 (.tmp 1) (by with_unfolding_all rfl) w.heap.size (hvs a n c s z) (by with_unfolding_all rfl) hA1 Try.undL 3 Try.sizeL (by with_unfolding_all rfl) ?_)
      | (go_at_call 10; with_reducible refine (HSz w1).mono ?_; rintro e w2 ⟨rfl, hB2⟩; have b02 : Below w.heap.size w w2 := hB1.trans (hB2.mono (by omega)); have V2 := hA1.below hB2 (by omega); have z2 := hB2.size)
      | (with_reducible refine wpList_loadV (w := w2) (by with_unfolding_all rfl) 29 (.tmp 1) (by with_unfolding_all rfl) w.heap.size (hvs a n c s z) (by with_unfolding_all rfl) V2 Try.undL 3 Try.sizeL (by with_unfolding_all rfl) ?_)
      | (go_at_call 12; with_reducible refine (HTo w2 (HA.out.below b02)).mono ?_; rintro e w3 ⟨g3, rfl, hg3, hl3, hI3, hB3⟩; have V3 := V2.below hB3 (by omega); have b03 : Below w.heap.size w w3 := b02.trans (hB3.mono (by omega)); have z3 := hB3.size)
      | (go_at_call 11; with_reducible refine (HRS g3 w3 hI3).mono ?_; rintro e w4 ⟨rfl, hB4⟩; have V4 := V3.below hB4 (by omega); have b04 : Below w.heap.size w w4 := b03.trans (hB4.mono (by omega)); have z4 := hB4.size)
      | (with_reducible refine wpList_loadV (w := w4) (by with_unfolding_all rfl) 29 (.tmp 1) (by with_unfolding_all rfl) w.heap.size (hvs a n c s z) (by with_unfolding_all rfl) V4 Try.undL 3 Try.sizeL (by with_unfolding_all rfl) ?_)
      | (go_at_call 12; with_reducible refine (HTo w4 (HA.out.below b04)).mono ?_; rintro e w5 ⟨g5, rfl, hg5, hl5, hI5, hB5⟩; have V5 := V4.below hB5 (by omega); have b05 : Below w.heap.size w w5 := b04.trans (hB5.mono (by omega)); have z5 := hB5.size)
      | (with_reducible refine wpList_allocV (w := w5) (by with_unfolding_all rfl) 24 (by with_unfolding_all rfl) (hvs none 0 0 ⟨#[]⟩ 0) Try.infoH ?_; intro w6 hA6 hB6 hS6)
      | (with_reducible refine wpList_storeV (w := w6) (by with_unfolding_all rfl) 24 (.tmp 5) (.tmp 16) (by with_unfolding_all rfl) w5.heap.size (hvs none 0 0 ⟨#[]⟩ 0) (hvs (some ⟨g5, 0, none⟩) n n s z) (by with_unfolding_all rfl) (by with_unfolding_all rfl) hA6 3 Try.sizeH (by with_unfolding_all rfl) (by with_unfolding_all rfl) (hvs_one _ _ _ _ _) ?_; intro w7 hA7 hB7 hF7 hS7; have b57 : Below w5.heap.size w5 w7 := hB6.trans (hB7 _ (Nat.le_refl _)); have b07 : Below w.heap.size w w7 := b05.trans (b57.mono (by omega)); have S7 : Two w7 w.heap.size w5.heap.size a g5 c n l s z := ⟨V5.below b57 (by omega), hA7, hI5.below b57, HA.out.below b07⟩)
      | (with_reducible refine wpList_loadV (w := w7) (by with_unfolding_all rfl) 24 (.tmp 5) (by with_unfolding_all rfl) w5.heap.size (hvs (some ⟨g5, 0, none⟩) n n s z) (by with_unfolding_all rfl) S7.v5 Try.undH 3 Try.sizeH (by with_unfolding_all rfl) ?_)
      | (go_at_call 13; with_reducible refine (HRI g5 w7 S7.i5).mono ?_; rintro e w8 ⟨rfl, hB8⟩; have S8 := S7.below hB8; have b08 : Below w.heap.size w w8 := b07.trans (hB8.mono (by omega)); have z8 := hB8.size))
    obtain ⟨dH, hdH, hrH⟩ := Try.undH
    obtain ⟨dL, hdL, hrL⟩ := Try.undL
    refine wp_region_held_drew (S := fun w' => Two w' w.heap.size w5.heap.size a g5 c n l s z ∧ Below w.heap.size w w') (by kernel_rfl) ⟨S8.drew, b08.drew⟩ (fun hHeld => ?_)
    refine wpAnyH_take (i := 0) (oi := ⟨_, _, _, _, _, _⟩) (v := .agg (hvs (some ⟨g5, 0, none⟩) n n s z).toArray) rfl (by kernel_rfl) (by kernel_rfl) (by kernel_rfl) (fun _ _ _ h => h) (yieldsIf_load_mid (wanted_none rfl) 24 (.tmp 5) (by with_unfolding_all rfl) w5.heap.size 0 (by with_unfolding_all rfl) (hvs (some ⟨g5, 0, none⟩) n n s z) dH (fun w' hS => hS.1.v5.rng) hdH hrH Try.sizeH) hHeld ?_
    simp only [Act.put, List.setIfInBounds_toArray, List.set_cons_zero, List.set_cons_succ]
    refine wpAnyH_take (i := 1) (oi := ⟨_, _, _, _, _, _⟩) (v := .agg (hvs a n c s z).toArray) rfl (by kernel_rfl) (by kernel_rfl) (by kernel_rfl) (fun _ _ _ h => h) (yieldsIf_load_mid (wanted_none rfl) 29 (.tmp 1) (by with_unfolding_all rfl) w.heap.size 0 (by with_unfolding_all rfl) (hvs a n c s z) dL (fun w' hS => hS.1.v1.rng) hdL hrL Try.sizeL) hHeld ?_
    simp only [Act.put, List.setIfInBounds_toArray, List.set_cons_zero, List.set_cons_succ]
    refine wpAnyH_ready (rs := [2]) (by kernel_rfl) (by simp) (AllReadyH.cons (o := ⟨_, _, _, _, _, _⟩) rfl (fun K hK => ?_) AllReadyH.nil)
    rewrite [if_pos (wanted_none rfl)]
    go_simp
    with_reducible refine (HTo _ hHeld.1.ai).mono ?_
    rintro e w9 ⟨g9, rfl, hg9, hl9, hI9, hB9⟩
    go_wp2_with fail
    have hH9 : Two w9 w.heap.size w5.heap.size a g5 c n l s z ∧ Below w.heap.size w w9 := ⟨hHeld.1.below hB9, hHeld.2.trans (hB9.mono hHeld.2.size)⟩
    refine hK.out _ _ hH9 (fun _ => ?_)
    clear hK K
    refine wpAnyH_ready (rs := [3]) (by kernel_rfl) (by simp) (AllReadyH.cons (o := ⟨_, _, _, _, _, _⟩) rfl (fun K hK => ?_) AllReadyH.nil)
    rewrite [if_pos (wanted_none rfl)]
    go_simp
    refine (eqH_same _ _ _ _ n l s z w9 HN.out hH9.1.i5 hI9 (by omega)).mono ?_
    rintro e w10 ⟨rfl, hB10⟩
    go_wp2_with fail
    have hH10 : Two w10 w.heap.size w5.heap.size a g5 c n l s z ∧ Below w.heap.size w w10 := ⟨hH9.1.below hB10, hH9.2.trans (hB10.mono hH9.2.size)⟩
    refine hK.out _ _ hH10 (fun _ => ?_)
    clear hK K
    refine wpAnyH_take (i := 4) (oi := ⟨_, _, _, _, _, _⟩) (v := .bool false) rfl (by kernel_rfl) (by kernel_rfl) (by kernel_rfl) (fun _ _ _ h => h) (Or.inl ⟨wanted_none rfl, fun w' hSw => ?_⟩) hH10 ?_
    · go_simp
    refine wpAnyH_done (by kernel_rfl) ?_ _
    go_wp2
    go_ret
    exact ⟨rfl, hH10.2⟩
  · have hr0 : room n s.size < 0 := by unfold room; rw [if_neg hr]; omega
    generalize room n s.size = q at *
    go_enter Try.func4, Try.ntmps4
    go_wp2_with (first
      | (with_reducible refine wpList_boxV (w := w) (by with_unfolding_all rfl) 29 (.tmp 0) (by with_unfolding_all rfl) (hvs a n c s z) (by with_unfolding_all rfl) ?_; intro w1 hA1 hB1 hS1)
      | (with_reducible refine wpList_loadV (w := w1) (by with_unfolding_all rfl) 29 (.tmp 1) (by with_unfolding_all rfl) w.heap.size (hvs a n c s z) (by with_unfolding_all rfl) hA1 Try.undL 3 Try.sizeL (by with_unfolding_all rfl) ?_)
      | (go_at_call 10; with_reducible refine (HSz w1).mono ?_; rintro e w2 ⟨rfl, hB2⟩))
    go_ret
    exact ⟨rfl, hB1.trans (hB2.mono (by omega))⟩
end Go.Proofs.Ytdajddaifmgghaa
