/- The law FnExactHashMore, walked. -/
import Derived.Test.YthmlfohgbkkbjaaDoorMorB
namespace Go.Proofs.YthmlfohgbkkbjaaDoor
open Go.RowKit
set_option linter.unusedVariables false

/- The four variables that the law holds, and their rows. -/
structure Four (w : World) (b2 b6 b7 b8 : Nat) (a : Option Addr) (c n : Nat) (s : ByteArray) (z : Int) (a4 : Option Addr) (c4 g7 : Nat) (a10 : Option Addr) (c10 N : Nat) (p : Ans) (l7 l10 : List Int) : Prop where
  v2 : RowV w b2 (hvs a n c s z)
  v6 : RowV w b6 (hvs a4 N c4 p.s p.z)
  i4 : IAt w a4 p.l
  v7 : RowV w b7 (hvs (some ⟨g7, 0, none⟩) n n s z)
  i7 : IAt w (some ⟨g7, 0, none⟩) l7
  v8 : RowV w b8 (hvs a10 N c10 p.s p.z)
  i10 : IAt w a10 l10
section
variable {w w' : World} {b2 b6 b7 b8 : Nat} {a : Option Addr} {c n : Nat} {s : ByteArray} {z : Int} {a4 : Option Addr} {c4 g7 : Nat} {a10 : Option Addr} {c10 N : Nat} {p : Ans} {l7 l10 l' : List Int}
theorem Four.below (h : Four w b2 b6 b7 b8 a c n s z a4 c4 g7 a10 c10 N p l7 l10) (hb : Below w.heap.size w w') : Four w' b2 b6 b7 b8 a c n s z a4 c4 g7 a10 c10 N p l7 l10 :=
  ⟨h.v2.below hb (h.v2.lt (hvs_ne _ _ _ _ _)), h.v6.below hb (h.v6.lt (hvs_ne _ _ _ _ _)), h.i4.below hb, h.v7.below hb (h.v7.lt (hvs_ne _ _ _ _ _)), h.i7.below hb, h.v8.below hb (h.v8.lt (hvs_ne _ _ _ _ _)), h.i10.below hb⟩
theorem Four.mark7 (h : Four w b2 b6 b7 b8 a c n s z a4 c4 g7 a10 c10 N p l7 l10) (hw : WroteOld (some ⟨g7, 0, none⟩) w w') (hi : IAt w' (some ⟨g7, 0, none⟩) l') (n2 : b2 ≠ g7) (n6 : b6 ≠ g7) (n7 : b7 ≠ g7) (n8 : b8 ≠ g7) (n4 : ∀ ad, a4 = some ad → ad.block ≠ g7) (n10 : ∀ ad, a10 = some ad → ad.block ≠ g7) : Four w' b2 b6 b7 b8 a c n s z a4 c4 g7 a10 c10 N p l' l10 :=
  have k : ∀ {b : Nat}, b ≠ g7 → ∀ ad : Addr, (some ⟨g7, 0, none⟩ : Option Addr) = some ad → b ≠ ad.block := fun hb ad e => by injection e with e; subst e; exact hb
  ⟨hw.row h.v2 (h.v2.lt (hvs_ne _ _ _ _ _)) (k n2), hw.row h.v6 (h.v6.lt (hvs_ne _ _ _ _ _)) (k n6), hw.irow h.i4 (fun ad bd e1 e2 => by injection e1 with e1; subst e1; exact n4 bd e2), hw.row h.v7 (h.v7.lt (hvs_ne _ _ _ _ _)) (k n7), hi, hw.row h.v8 (h.v8.lt (hvs_ne _ _ _ _ _)) (k n8), hw.irow h.i10 (fun ad bd e1 e2 => by injection e1 with e1; subst e1; exact n10 bd e2)⟩
theorem Four.mark8 (h : Four w b2 b6 b7 b8 a c n s z a4 c4 g7 a10 c10 N p l7 l10) (hw : WroteOld a10 w w') (hi : IAt w' a10 l') (n2 : ∀ ad, a10 = some ad → b2 ≠ ad.block) (n6 : ∀ ad, a10 = some ad → b6 ≠ ad.block) (n7 : ∀ ad, a10 = some ad → b7 ≠ ad.block) (n8 : ∀ ad, a10 = some ad → b8 ≠ ad.block) (ng : ∀ ad, a10 = some ad → g7 ≠ ad.block) (n4 : ∀ ad bd, a10 = some ad → a4 = some bd → bd.block ≠ ad.block) : Four w' b2 b6 b7 b8 a c n s z a4 c4 g7 a10 c10 N p l7 l' :=
  ⟨hw.row h.v2 (h.v2.lt (hvs_ne _ _ _ _ _)) n2, hw.row h.v6 (h.v6.lt (hvs_ne _ _ _ _ _)) n6, hw.irow h.i4 n4, hw.row h.v7 (h.v7.lt (hvs_ne _ _ _ _ _)) n7, hw.irow h.i7 (fun ad bd e1 e2 => by injection e2 with e2; subst e2; exact ng ad e1), hw.row h.v8 (h.v8.lt (hvs_ne _ _ _ _ _)) n8, hi⟩
end

set_option maxRecDepth 100000 in
set_option maxHeartbeats 2000000 in
theorem lawHashMore (a : Option Addr) (c n : Nat) (l : List Int) (s : ByteArray) (z : Int) (t : ByteArray) (w : World) (hn : l.length = n) (h : AI w a l) (hM : n ≤ maxLen) (hs : s.size ≤ maxLen) (hz : (Lit.int .i64 z).wf = true) (ht : t.size ≤ maxLen) (hk : ArrU w 0 keys) (h0 : 0 < w.heap.size) :
    Calls Tryd.prog 5 #[HVal a n c s z, .string t] w fun e w' => e = .returned (.bool true) ∧ Below w.heap.size w w' := by
  have HAI : Hid (AI w a l) := h
  have HK : Hid (ArrU w 0 keys) := hk
  have HN : Hid (l.length = n) := hn
  have HS : Hid (s.size ≤ maxLen) := hs
  have HSz : ∀ w0 : World, Calls Tryd.prog 18 #[HVal a n c s z, .int .i64 1048576] w0 fun e w' => e = .returned (.int .i64 (room n s.size)) ∧ Below w0.heap.size w0 w' := fun w0 => szH_any a c n s z w0 hM hs
  have ht' := ht
  unfold maxLen at ht'
  clear h hn hM hs hk hz ht
  by_cases htb : 1048576 < t.size
  · clear HSz
    go_enter Tryd.func5, Tryd.ntmps5
    go_wp2_with (first
      | (with_reducible refine wpList_boxV (w := w) (by with_unfolding_all rfl) 35 (.tmp 0) (by with_unfolding_all rfl) (hvs a n c s z) (by with_unfolding_all rfl) ?_; intro w1 hA1 hB1 hS1))
    go_ret
    exact ⟨rfl, hB1⟩
  by_cases hr : n ≤ 1048576 ∧ n + s.size ≤ 1048576
  · have hr0 : 0 ≤ room n s.size := by unfold room; rw [if_pos hr]; omega
    have hb := hr.1
    generalize room n s.size = q at *
    have HTo : ∀ w0 : World, AI w0 a l → Calls Tryd.prog 20 #[HVal a n c s z] w0 fun e w' => ∃ g, e = .returned (HVal (some ⟨g, 0, none⟩) n n s z) ∧ w0.heap.size ≤ g ∧ g < w'.heap.size ∧ IAt w' (some ⟨g, 0, none⟩) l ∧ Below w0.heap.size w0 w' := fun w0 h => toH_any a c n l s z w0 HN.out h hb
    have HMS : ∀ (g : Nat) (w0 : World), IAt w0 (some ⟨g, 0, none⟩) l → Calls Tryd.prog 19 #[HVal (some ⟨g, 0, none⟩) n n s z, .string t] w0 fun e w' => Told w0 (moV l s z t) e w' := fun g w0 h => hashMoreS g n n l s t z w0 HN.out h hb HS.out (by omega)
    have HMI : ∀ (g : Nat) (w0 : World), IAt w0 (some ⟨g, 0, none⟩) l → ArrU w0 0 keys → 0 < w0.heap.size → Calls Tryd.prog 13 #[HVal (some ⟨g, 0, none⟩) n n s z, .string t] w0 fun e w' => Told w0 (moV l s z t) e w' := fun g w0 h k1 k2 => hashMoreI g n n l s t z w0 HN.out h hb HS.out (by omega) k1 k2
    have hNb : (moV l s z t).l.length ≤ 1048576 := moV_len (by rw [HN.out]; exact hb)
    generalize moV l s z t = p at *
    unfold Told at HMS HMI
    obtain ⟨N, hN⟩ : ∃ N, p.l.length = N := ⟨_, rfl⟩
    rw [hN] at HMS HMI hNb
    have hq0 : ¬ (1 + (N : Int) < 0) := by omega
    have hq1 : ¬ (1 + (n : Int) < 0) := by omega
    clear hr
    go_enter Tryd.func5, Tryd.ntmps5
    go_wp2_with (first
      | (with_reducible refine wpList_boxV (w := w) (by with_unfolding_all rfl) 35 (.tmp 0) (by with_unfolding_all rfl) (hvs a n c s z) (by with_unfolding_all rfl) ?_; intro w1 hA1 hB1 hS1)
      | (with_reducible refine wpList_loadV (w := w1) (by with_unfolding_all rfl) 35 (.tmp 2) (by with_unfolding_all rfl) w.heap.size (hvs a n c s z) (by with_unfolding_all rfl) hA1 Tryd.undL 3 Tryd.sizeL (by with_unfolding_all rfl) ?_)
      | (go_at_call 18; with_reducible refine (HSz w1).mono ?_; rintro e w2 ⟨rfl, hB2⟩; have b02 : Below w.heap.size w w2 := hB1.trans (hB2.mono (by omega)); have V2 := hA1.below hB2 (by omega); have z2 := hB2.size)
      | (with_reducible refine wpList_loadV (w := w2) (by with_unfolding_all rfl) 35 (.tmp 2) (by with_unfolding_all rfl) w.heap.size (hvs a n c s z) (by with_unfolding_all rfl) V2 Tryd.undL 3 Tryd.sizeL (by with_unfolding_all rfl) ?_)
      | (go_at_call 20; with_reducible refine (HTo w2 (HAI.out.below b02)).mono ?_; rintro e w3 ⟨g3, rfl, hg3, hl3, hI3, hB3⟩; have V3 := V2.below hB3 (by omega); have b03 : Below w.heap.size w w3 := b02.trans (hB3.mono (by omega)); have z3 := hB3.size)
      | (go_at_call 19; with_reducible refine (HMS g3 w3 hI3).mono ?_; rintro e w4 ⟨a4, c4, rfl, hN4, hB4⟩; have V4 := V3.below hB4 (by omega); have b04 : Below w.heap.size w w4 := b03.trans (hB4.mono (by omega)); have z4 := hB4.size)
      | (with_reducible refine wpList_allocV (w := w4) (by with_unfolding_all rfl) 27 (by with_unfolding_all rfl) (hvs none 0 0 ⟨#[]⟩ 0) Tryd.infoH ?_; intro w5 hAw5 hBw5 hSw5)
      | (with_reducible refine wpList_storeV (w := w5) (by with_unfolding_all rfl) 27 (.tmp 6) (.tmp 24) (by with_unfolding_all rfl) w4.heap.size (hvs none 0 0 ⟨#[]⟩ 0) (hvs a4 N c4 p.s p.z) (by with_unfolding_all rfl) (by with_unfolding_all rfl) hAw5 3 Tryd.sizeH (by with_unfolding_all rfl) (by with_unfolding_all rfl) (hvs_one _ _ _ _ _) ?_; intro w6 hAw6 hBw6 hFw6 hSw6; have c46 : Below w4.heap.size w4 w6 := hBw5.trans (hBw6 _ (Nat.le_refl _)); have b06 : Below w.heap.size w w6 := b04.trans (c46.mono (by omega)); have V6 := V4.below c46 (by omega); have N6 := hN4.below c46; have z6 := c46.size)
      | (with_reducible refine wpList_loadV (w := w6) (by with_unfolding_all rfl) 35 (.tmp 2) (by with_unfolding_all rfl) w.heap.size (hvs a n c s z) (by with_unfolding_all rfl) V6 Tryd.undL 3 Tryd.sizeL (by with_unfolding_all rfl) ?_)
      | (go_at_call 20; with_reducible refine (HTo w6 (HAI.out.below b06)).mono ?_; rintro e w7 ⟨g7, rfl, hg7, hl7, hI7, hB7⟩; have V7 := V6.below hB7 (by omega); have b07 : Below w.heap.size w w7 := b06.trans (hB7.mono (by omega)); have z7 := hB7.size; have X7 := hAw6.below hB7 (by omega); have N7 := N6.below hB7)
      | (with_reducible refine wpList_allocV (w := w7) (by with_unfolding_all rfl) 27 (by with_unfolding_all rfl) (hvs none 0 0 ⟨#[]⟩ 0) Tryd.infoH ?_; intro w8 hAw8 hBw8 hSw8)
      | (with_reducible refine wpList_storeV (w := w8) (by with_unfolding_all rfl) 27 (.tmp 7) (.tmp 26) (by with_unfolding_all rfl) w7.heap.size (hvs none 0 0 ⟨#[]⟩ 0) (hvs (some ⟨g7, 0, none⟩) n n s z) (by with_unfolding_all rfl) (by with_unfolding_all rfl) hAw8 3 Tryd.sizeH (by with_unfolding_all rfl) (by with_unfolding_all rfl) (hvs_one _ _ _ _ _) ?_; intro w9 hAw9 hBw9 hFw9 hSw9; have c79 : Below w7.heap.size w7 w9 := hBw8.trans (hBw9 _ (Nat.le_refl _)); have b09 : Below w.heap.size w w9 := b07.trans (c79.mono (by omega)); have V9 := V7.below c79 (by omega); have N9 := N7.below c79; have z9 := c79.size; have X9 := X7.below c79 (by omega); have I9 := hI7.below c79)
      | (with_reducible refine wpList_loadV (w := w9) (by with_unfolding_all rfl) 27 (.tmp 7) (by with_unfolding_all rfl) w7.heap.size (hvs (some ⟨g7, 0, none⟩) n n s z) (by with_unfolding_all rfl) hAw9 Tryd.undH 3 Tryd.sizeH (by with_unfolding_all rfl) ?_)
      | (go_at_call 13; with_reducible refine (HMI g7 w9 I9 (HK.out.below b09 h0) (by omega)).mono ?_; rintro e w10 ⟨a10, c10, rfl, hN10, hB10⟩; have V10 := V9.below hB10 (by omega); have b10 : Below w.heap.size w w10 := b09.trans (hB10.mono (by omega)); have z10 := hB10.size; have X10 := X9.below hB10 (by omega); have Y10 := hAw9.below hB10 (by omega); have I10 := I9.below hB10; have N10 := N9.below hB10)
      | (with_reducible refine wpList_allocV (w := w10) (by with_unfolding_all rfl) 27 (by with_unfolding_all rfl) (hvs none 0 0 ⟨#[]⟩ 0) Tryd.infoH ?_; intro w11 hAw11 hBw11 hSw11)
      | (with_reducible refine wpList_storeV (w := w11) (by with_unfolding_all rfl) 27 (.tmp 8) (.tmp 29) (by with_unfolding_all rfl) w10.heap.size (hvs none 0 0 ⟨#[]⟩ 0) (hvs a10 N c10 p.s p.z) (by with_unfolding_all rfl) (by with_unfolding_all rfl) hAw11 3 Tryd.sizeH (by with_unfolding_all rfl) (by with_unfolding_all rfl) (hvs_one _ _ _ _ _) ?_; intro w12 hAw12 hBw12 hFw12 hSw12; have c12 : Below w10.heap.size w10 w12 := hBw11.trans (hBw12 _ (Nat.le_refl _)); have b12 : Below w.heap.size w w12 := b10.trans (c12.mono (by omega)); have z12 := c12.size; have F12 : Four w12 w.heap.size w4.heap.size w7.heap.size w10.heap.size a c n s z a4 c4 g7 a10 c10 N p l p.l := ⟨V10.below c12 (by omega), X10.below c12 (by omega), (N10.below c12).iat, Y10.below c12 (by omega), I10.below c12, hAw12, (hN10.below c12).iat⟩)
      | (with_reducible refine wpList_loadV (w := w12) (by with_unfolding_all rfl) 27 (.tmp 8) (by with_unfolding_all rfl) w10.heap.size (hvs a10 N c10 p.s p.z) (by with_unfolding_all rfl) F12.v8 Tryd.undH 3 Tryd.sizeH (by with_unfolding_all rfl) ?_)
      | (with_reducible refine wpList_loadV (w := w12) (by with_unfolding_all rfl) 27 (.tmp 6) (by with_unfolding_all rfl) w4.heap.size (hvs a4 N c4 p.s p.z) (by with_unfolding_all rfl) F12.v6 Tryd.undH 3 Tryd.sizeH (by with_unfolding_all rfl) ?_)
      | (go_at_call 21; with_reducible refine (eqH_same a10 a4 c10 c4 N p.l p.s p.z w12 hN F12.i10 F12.i4 (by omega)).mono ?_; rintro e w13 ⟨rfl, hB13⟩; have F13 := F12.below hB13; have b13 : Below w.heap.size w w13 := b12.trans (hB13.mono (by omega)); have z13 := hB13.size))
    obtain ⟨dH, hdH, hrH⟩ := Tryd.undH
    obtain ⟨dL, hdL, hrL⟩ := Tryd.undL
    refine wp_region_held_drew (S := fun w' => Four w' w.heap.size w4.heap.size w7.heap.size w10.heap.size a c n s z a4 c4 g7 a10 c10 N p l p.l ∧ Below w.heap.size w w' ∧ w13.heap.size ≤ w'.heap.size) (by kernel_rfl) ⟨F13.below (Below.refl _ _).drew, b13.drew, Nat.le_refl _⟩ (fun hHeld => ?_)
    refine wpAnyH_take (i := 0) (oi := ⟨_, _, _, _, _, _⟩) (v := .agg (hvs (some ⟨g7, 0, none⟩) n n s z).toArray) rfl (by kernel_rfl) (by kernel_rfl) (by kernel_rfl) (fun _ _ _ h => h) (yieldsIf_load_mid (wanted_none rfl) 27 (.tmp 7) (by with_unfolding_all rfl) w7.heap.size 0 (by with_unfolding_all rfl) (hvs (some ⟨g7, 0, none⟩) n n s z) dH (fun w' hS => hS.1.v7.rng) hdH hrH Tryd.sizeH) hHeld ?_
    simp only [Act.put, List.setIfInBounds_toArray, List.set_cons_zero, List.set_cons_succ]
    refine wpAnyH_take (i := 1) (oi := ⟨_, _, _, _, _, _⟩) (v := .agg (hvs a n c s z).toArray) rfl (by kernel_rfl) (by kernel_rfl) (by kernel_rfl) (fun _ _ _ h => h) (yieldsIf_load_mid (wanted_none rfl) 35 (.tmp 2) (by with_unfolding_all rfl) w.heap.size 0 (by with_unfolding_all rfl) (hvs a n c s z) dL (fun w' hS => hS.1.v2.rng) hdL hrL Tryd.sizeL) hHeld ?_
    simp only [Act.put, List.setIfInBounds_toArray, List.set_cons_zero, List.set_cons_succ]
    refine wpAnyH_ready (rs := [2]) (by kernel_rfl) (by simp) (AllReadyH.cons (o := ⟨_, _, _, _, _, _⟩) rfl (fun K hK => ?_) AllReadyH.nil)
    rewrite [if_pos (wanted_none rfl)]
    go_simp
    with_reducible refine (HTo _ (HAI.out.below hHeld.2.1)).mono ?_
    rintro e w14 ⟨g14, rfl, hg14, hl14, hI14, hB14⟩
    go_wp2_with fail
    have hH14 : Four w14 w.heap.size w4.heap.size w7.heap.size w10.heap.size a c n s z a4 c4 g7 a10 c10 N p l p.l ∧ Below w.heap.size w w14 ∧ w13.heap.size ≤ w14.heap.size := ⟨hHeld.1.below hB14, hHeld.2.1.trans (hB14.mono hHeld.2.1.size), Nat.le_trans hHeld.2.2 hB14.size⟩
    refine hK.out _ _ hH14 (fun _ => ?_)
    clear hK K
    refine wpAnyH_ready (rs := [3]) (by kernel_rfl) (by simp) (AllReadyH.cons (o := ⟨_, _, _, _, _, _⟩) rfl (fun K hK => ?_) AllReadyH.nil)
    rewrite [if_pos (wanted_none rfl)]
    go_simp
    refine (eqH_same _ _ _ _ n l s z w14 HN.out hH14.1.i7 hI14 (by omega)).mono ?_
    rintro e w15 ⟨rfl, hB15⟩
    go_wp2_with fail
    have hH15 : Four w15 w.heap.size w4.heap.size w7.heap.size w10.heap.size a c n s z a4 c4 g7 a10 c10 N p l p.l ∧ Below w.heap.size w w15 ∧ w13.heap.size ≤ w15.heap.size := ⟨hH14.1.below hB15, hH14.2.1.trans (hB15.mono hH14.2.1.size), Nat.le_trans hH14.2.2 hB15.size⟩
    refine hK.out _ _ hH15 (fun _ => ?_)
    clear hK K
    refine wpAnyH_take (i := 4) (oi := ⟨_, _, _, _, _, _⟩) (v := .bool false) rfl (by kernel_rfl) (by kernel_rfl) (by kernel_rfl) (fun _ _ _ h => h) (Or.inl ⟨wanted_none rfl, fun w' hSw => ?_⟩) hH15 ?_
    · go_simp
    refine wpAnyH_done (by kernel_rfl) ?_ _
    obtain ⟨F15, b15, z15⟩ := hH15
    clear hHeld hH14
    have HE16 : ∀ w0 : World, IAt w0 a10 p.l → IAt w0 a4 p.l → Calls Tryd.prog 21 #[.agg #[.slice a10 N c10, .string p.s, .int .i64 p.z], .agg #[.slice a4 N c4, .string p.s, .int .i64 p.z]] w0 fun e w' => e = .returned (.bool true) ∧ Below w0.heap.size w0 w' := fun w0 i j => eqH_same a10 a4 c10 c4 N p.l p.s p.z w0 hN i j (by omega)
    go_wp2_with (first
      | (with_reducible refine wpList_loadV (w := w15) (by with_unfolding_all rfl) 27 (.tmp 7) (by with_unfolding_all rfl) w7.heap.size (hvs (some ⟨g7, 0, none⟩) n n s z) (by with_unfolding_all rfl) F15.v7 Tryd.undH 3 Tryd.sizeH (by with_unfolding_all rfl) ?_)
      | (go_at_call 22; with_reducible refine (markH_any (some ⟨g7, 0, none⟩) n n l s z 1 w15 HN.out F15.i7 (by omega) (by omega) (by omega)).mono ?_; rintro e w16 ⟨rfl, hI16, hW16⟩; have z16 := hW16.size; have F16 := F15.mark7 hW16 hI16 (by omega) (by omega) (by omega) (by omega) (fun ad e => by have := hN4.new ad e; omega) (fun ad e => by have := hN10.new ad e; omega); have b16 : Below w.heap.size w w16 := b15.trans (hW16.below w.heap.size (by omega) (fun ad h => by injection h with h; subst h; show w.heap.size ≤ g7; omega)); have x0 := F16.v8.cell (k := 0) rfl; have x1 := F16.v8.cell (k := 1) rfl; have x2 := F16.v8.cell (k := 2) rfl; have y0 := F16.v6.cell (k := 0) rfl; have y1 := F16.v6.cell (k := 1) rfl; have y2 := F16.v6.cell (k := 2) rfl)
      | (with_reducible refine wpList_loadV (w := w16) (by with_unfolding_all rfl) 27 (.tmp 8) (by with_unfolding_all rfl) w10.heap.size (hvs a10 N c10 p.s p.z) (by with_unfolding_all rfl) F16.v8 Tryd.undH 3 Tryd.sizeH (by with_unfolding_all rfl) ?_)
      | (with_reducible refine wpList_loadV (w := w16) (by with_unfolding_all rfl) 27 (.tmp 6) (by with_unfolding_all rfl) w4.heap.size (hvs a4 N c4 p.s p.z) (by with_unfolding_all rfl) F16.v6 Tryd.undH 3 Tryd.sizeH (by with_unfolding_all rfl) ?_)
      | (go_at_call 21; with_reducible refine (HE16 w16 F16.i10 F16.i4).mono ?_; rintro e w17 ⟨rfl, hB17⟩; have F17 := F16.below hB17; have b17 : Below w.heap.size w w17 := b16.trans (hB17.mono (by omega)); have z17 := hB17.size)
      | (with_reducible refine wpList_loadV (w := w17) (by with_unfolding_all rfl) 27 (.tmp 8) (by with_unfolding_all rfl) w10.heap.size (hvs a10 N c10 p.s p.z) (by with_unfolding_all rfl) F17.v8 Tryd.undH 3 Tryd.sizeH (by with_unfolding_all rfl) ?_)
      | (go_at_call 22; with_reducible refine (markH_any a10 c10 N p.l p.s p.z 1 w17 hN F17.i10 (by omega) (by omega) (by omega)).mono ?_; rintro e w18 ⟨rfl, hI18, hW18⟩; have z18 := hW18.size; have F18 := F17.mark8 hW18 hI18 (fun ad e => by have := hN10.new ad e; omega) (fun ad e => by have := hN10.new ad e; omega) (fun ad e => by have := hN10.new ad e; omega) (fun ad e => by have := hN10.new ad e; omega) (fun ad e => by have := hN10.new ad e; omega) (fun ad bd e1 e2 => by have := hN10.new ad e1; have := hN4.new bd e2; omega); have b18 : Below w.heap.size w w18 := b17.trans (hW18.below w.heap.size (by omega) (fun ad h => by have := (hN10.new ad h).1; omega)))
      | (with_reducible refine wpList_loadV (w := w18) (by with_unfolding_all rfl) 27 (.tmp 8) (by with_unfolding_all rfl) w10.heap.size (hvs a10 N c10 p.s p.z) (by with_unfolding_all rfl) F18.v8 Tryd.undH 3 Tryd.sizeH (by with_unfolding_all rfl) ?_)
      | (go_at_call 23; with_reducible refine (heldH_any a10 c10 N p.s p.z 1 w18 F18.i10 (by omega) (by omega) (by omega)).mono ?_; rintro e w19 ⟨rfl, hB19⟩; have F19 := F18.below hB19; have b19 : Below w.heap.size w w19 := b18.trans (hB19.mono (by omega)); have z19 := hB19.size)
      | (with_reducible refine wpList_loadV (w := w19) (by with_unfolding_all rfl) 35 (.tmp 2) (by with_unfolding_all rfl) w.heap.size (hvs a n c s z) (by with_unfolding_all rfl) F19.v2 Tryd.undL 3 Tryd.sizeL (by with_unfolding_all rfl) ?_)
      | (go_at_call 20; with_reducible refine (HTo w19 (HAI.out.below b19)).mono ?_; rintro e w20 ⟨g20, rfl, hg20, hl20, hI20, hB20⟩; have F20 := F19.below hB20; have b20 : Below w.heap.size w w20 := b19.trans (hB20.mono (by omega)); have z20 := hB20.size)
      | (go_at_call 13; with_reducible refine (HMI g20 w20 hI20 (HK.out.below b20 h0) (by omega)).mono ?_; rintro e w21 ⟨a21, c21, rfl, hN21, hB21⟩; have F21 := F20.below hB21; have b21 : Below w.heap.size w w21 := b20.trans (hB21.mono (by omega)); have z21 := hB21.size)
      | (with_reducible refine wpList_allocV (w := w21) (by with_unfolding_all rfl) 27 (by with_unfolding_all rfl) (hvs none 0 0 ⟨#[]⟩ 0) Tryd.infoH ?_; intro w22 hAw22 hBw22 hSw22)
      | (with_reducible refine wpList_storeV (w := w22) (by with_unfolding_all rfl) 27 (.tmp 12) (.tmp 64) (by with_unfolding_all rfl) w21.heap.size (hvs none 0 0 ⟨#[]⟩ 0) (hvs a21 N c21 p.s p.z) (by with_unfolding_all rfl) (by with_unfolding_all rfl) hAw22 3 Tryd.sizeH (by with_unfolding_all rfl) (by with_unfolding_all rfl) (hvs_one _ _ _ _ _) ?_; intro w23 hAw23 hBw23 hFw23 hSw23; have c23 : Below w21.heap.size w21 w23 := hBw22.trans (hBw23 _ (Nat.le_refl _)); have b23 : Below w.heap.size w w23 := b21.trans (c23.mono (by omega)); have z23 := c23.size; have F23 := F21.below c23; have N23 := hN21.below c23)
      | (with_reducible refine wpList_loadV (w := w23) (by with_unfolding_all rfl) 27 (.tmp 12) (by with_unfolding_all rfl) w21.heap.size (hvs a21 N c21 p.s p.z) (by with_unfolding_all rfl) hAw23 Tryd.undH 3 Tryd.sizeH (by with_unfolding_all rfl) ?_)
      | (with_reducible refine wpList_loadV (w := w23) (by with_unfolding_all rfl) 27 (.tmp 6) (by with_unfolding_all rfl) w4.heap.size (hvs a4 N c4 p.s p.z) (by with_unfolding_all rfl) F23.v6 Tryd.undH 3 Tryd.sizeH (by with_unfolding_all rfl) ?_)
      | (go_at_call 21; with_reducible refine (eqH_same a21 a4 c21 c4 N p.l p.s p.z w23 hN N23.iat F23.i4 (by omega)).mono ?_; rintro e w24 ⟨rfl, hB24⟩; have F24 := F23.below hB24; have b24 : Below w.heap.size w w24 := b23.trans (hB24.mono (by omega)); have z24 := hB24.size)
      | (with_reducible refine wpList_loadV (w := w24) (by with_unfolding_all rfl) 27 (.tmp 8) (by with_unfolding_all rfl) w10.heap.size (hvs a10 N c10 p.s p.z) (by with_unfolding_all rfl) F24.v8 Tryd.undH 3 Tryd.sizeH (by with_unfolding_all rfl) ?_)
      | (go_at_call 23; with_reducible refine (heldH_any a10 c10 N p.s p.z 1 w24 F24.i10 (by omega) (by omega) (by omega)).mono ?_; rintro e w25 ⟨rfl, hB25⟩))
    go_ret
    exact ⟨rfl, b24.trans (hB25.mono (by omega))⟩
  · have hr0 : room n s.size < 0 := by unfold room; rw [if_neg hr]; omega
    generalize room n s.size = q at *
    go_enter Tryd.func5, Tryd.ntmps5
    go_wp2_with (first
      | (with_reducible refine wpList_boxV (w := w) (by with_unfolding_all rfl) 35 (.tmp 0) (by with_unfolding_all rfl) (hvs a n c s z) (by with_unfolding_all rfl) ?_; intro w1 hA1 hB1 hS1)
      | (with_reducible refine wpList_loadV (w := w1) (by with_unfolding_all rfl) 35 (.tmp 2) (by with_unfolding_all rfl) w.heap.size (hvs a n c s z) (by with_unfolding_all rfl) hA1 Tryd.undL 3 Tryd.sizeL (by with_unfolding_all rfl) ?_)
      | (go_at_call 18; with_reducible refine (HSz w1).mono ?_; rintro e w2 ⟨rfl, hB2⟩))
    go_ret
    exact ⟨rfl, hB1.trans (hB2.mono (by omega))⟩
end Go.Proofs.YthmlfohgbkkbjaaDoor
