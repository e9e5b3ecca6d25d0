/- The specification's HashMore, for every Hash and every text. -/
import Derived.Test.YthmlfohgbkkbjaaDoorMorA
namespace Go.Proofs.YthmlfohgbkkbjaaDoor
open Go.RowKit
set_option linter.unusedVariables false
attribute [local go_sem ↓] Go.wp_at_zero Go.wp_at_succ

theorem wpList_append_row {W : World} {ops : Array Oper} {rest : List Oper} {o : Oper} {a : Act} {Q : Exit → Act → World → Prop} (hgd : o.guard = none) (s x : Operand) (ho : o.op = .call { callee := .builtin .append, args := #[s, x], argTypes := #[25, 25] })
    (base : Nat) (v : Value) (hs : a.eval s = v) (hown : W.ownsRow base 2 1 v 0 []) (g c n : Nat) (l : List Int) (hn : l.length = n) (hx : a.eval x = .slice (some ⟨g, 0, none⟩) n c) (hI : IAt W (some ⟨g, 0, none⟩) l) (hb : n ≤ 1048576) (hbase : base ≤ W.heap.size)
    (h : ∀ a2 c2 w', New base w' a2 l → Below base W w' → wpList Tryd.prog ops Q rest (a.put o.dst (.slice a2 n c2)) w') : wpList Tryd.prog ops Q (o :: rest) a W :=
  wpList_plain hgd fun _ hK => wp_append_row s x ho base v hs hown g c n l hn hx hI hb hbase fun a2 c2 w' h1 h2 => hK _ _ (h a2 c2 w' h1 h2)

set_option maxRecDepth 100000 in
set_option maxHeartbeats 1000000 in
theorem hashMoreS (g c n : Nat) (l : List Int) (s t : ByteArray) (z : Int) (w : World) (hn : l.length = n) (h : IAt w (some ⟨g, 0, none⟩) l) (hb : n ≤ 1048576) (hs : s.size ≤ maxLen) (ht : t.size ≤ 1048576) :
    Calls Tryd.prog 19 #[HVal (some ⟨g, 0, none⟩) n c s z, .string t] w fun e w' => Told w (moV l s z t) e w' := by
  have HI : Hid (IAt w (some ⟨g, 0, none⟩) l) := h
  have hrt : ∀ w0, IAt w0 (some ⟨g, 0, none⟩) l → Calls Tryd.prog 39 #[HVal (some ⟨g, 0, none⟩) n c s z] w0 fun e w' => e = .returned (.bool (rightB l s z)) ∧ Below w0.heap.size w0 w' := fun w0 h => rightS_any _ c n l s z w0 hn h (by omega) hs
  by_cases hbig : 20000 < t.size
  · rw [moV_big hbig]
    clear h hrt
    go_enter Tryd.func19, Tryd.ntmps19
    go_wp2_with (first
      | (with_reducible refine wpList_boxV (w := w) (by with_unfolding_all rfl) 27 (.tmp 0) (by with_unfolding_all rfl) (hvs (some ⟨g, 0, none⟩) n c s z) (by with_unfolding_all rfl) ?_; intro w0 hA0 hB0 hS0)
      | (with_reducible refine wpList_allocV (w := w0) (by with_unfolding_all rfl) 27 (by with_unfolding_all rfl) (hvs none 0 0 ⟨#[]⟩ 0) Tryd.infoH ?_; intro w1 hA1 hB1 hS1; have V1 := hA0.below hB1 (by omega); have B01 : Below w.heap.size w w1 := hB0.trans (hB1.mono (by omega)))
      | (with_reducible refine wpList_storeV (w := w1) (by with_unfolding_all rfl) 27 (.tmp 4) (.tmp 8) (by with_unfolding_all rfl) (w.heap.size + 1) (hvs none 0 0 ⟨#[]⟩ 0) (hvs none 0 0 ⟨#[]⟩ 0) (by with_unfolding_all rfl) (by with_unfolding_all rfl) (by rw [← hS0]; exact hA1) 3 Tryd.sizeH (by with_unfolding_all rfl) (by with_unfolding_all rfl) (hvs_one _ _ _ _ _) ?_; intro w9 hA9 hB9 hF9 hS9))
    refine bodyPost_ret (results_V (t := 27) rfl _ (w.heap.size + 1) _ rfl hA9 Tryd.undH 3 Tryd.sizeH rfl) rfl ⟨none, 0, rfl, ⟨fun hl => absurd rfl hl, fun ad e => by cases e⟩, B01.trans (hB9 _ (by omega))⟩
  by_cases hR : Right l s z ∧ z + t.size ≤ 1099511627776
  · rw [moV_more hbig hR]
    obtain ⟨Z, rfl, hZ, hsz, hints, h8⟩ := hR.1.nat
    have hR2 := hR.2
    have hr := hR.1
    rw [right_yes hr] at hrt
    obtain rfl : n = 8 := by omega
    have hm : ∀ w0, IAt w0 (some ⟨g, 0, none⟩) l → Calls Tryd.prog 30 #[HVal (some ⟨g, 0, none⟩) 8 c s (Z : Int), .string t] w0 fun e w' => ∃ g2 c2, e = .returned (HVal (some ⟨g2, 0, none⟩) 8 c2 (mlf s t) ((Z + t.size : Nat) : Int)) ∧ w0.heap.size ≤ g2 ∧ g2 < w'.heap.size ∧ IAt w' (some ⟨g2, 0, none⟩) (mst (rOf l) s t).ints ∧ Below w0.heap.size w0 w' := fun w0 h => moreS_m g c (rOf l) s t Z w0 (by rw [hints]; exact h) (by omega) ht (by omega)
    have d2 : decide (1099511627776 < (Z : Int) + (t.size : Int)) = false := decide_eq_false (by omega)
    have hbig' : (t.size : Int) ≤ 20000 := by omega
    have eZ : ((Z + t.size : Nat) : Int) = (Z : Int) + t.size := by omega
    have HEZ : Hid (((Z + t.size : Nat) : Int) = (Z : Int) + t.size) := eZ
    obtain ⟨q, hq⟩ : ∃ q, (mst (rOf l) s t).ints = q := ⟨_, rfl⟩
    have HQ8 : Hid (q.length = 8) := by show q.length = 8; rw [← hq]; rfl
    obtain ⟨lf, hlf⟩ : ∃ lf, mlf s t = lf := ⟨_, rfl⟩
    rw [hq, hlf] at hm ⊢
    clear h hR hr hbig hsz hints h8 hn eZ hq hlf
    go_enter Tryd.func19, Tryd.ntmps19
    go_wp2_with (first
      | (with_reducible refine wpList_boxV (w := w) (by with_unfolding_all rfl) 27 (.tmp 0) (by with_unfolding_all rfl) (hvs (some ⟨g, 0, none⟩) 8 c s (Z : Int)) (by with_unfolding_all rfl) ?_; intro w0 hA0 hB0 hS0)
      | (with_reducible refine wpList_allocV (w := w0) (by with_unfolding_all rfl) 27 (by with_unfolding_all rfl) (hvs none 0 0 ⟨#[]⟩ 0) Tryd.infoH ?_; intro w1 hA1 hB1 hS1; have V1 := hA0.below hB1 (by omega); have B01 : Below w.heap.size w w1 := hB0.trans (hB1.mono (by omega)))
      | (with_reducible refine wpList_loadV (w := w1) (by with_unfolding_all rfl) 27 (.tmp 2) (by with_unfolding_all rfl) w.heap.size (hvs (some ⟨g, 0, none⟩) 8 c s (Z : Int)) (by with_unfolding_all rfl) V1 Tryd.undH 3 Tryd.sizeH (by with_unfolding_all rfl) ?_)
      | (go_at_call 39; refine (hrt w1 (HI.out.below B01)).mono ?_; rintro e w2 ⟨rfl, hB2⟩; have y2 := hB2.size; have V2 := V1.below hB2 (by omega); have B02 : Below w.heap.size w w2 := B01.trans (hB2.mono (by omega)); have p2 := V2.cell (k := 2) rfl; have R2 : RowV w2 (w.heap.size + 1) (hvs none 0 0 ⟨#[]⟩ 0) := by (rw [← hS0]; exact hA1.below hB2 (by omega)))
      | (with_reducible refine wpList_loadV (w := w2) (by with_unfolding_all rfl) 27 (.tmp 2) (by with_unfolding_all rfl) w.heap.size (hvs (some ⟨g, 0, none⟩) 8 c s (Z : Int)) (by with_unfolding_all rfl) V2 Tryd.undH 3 Tryd.sizeH (by with_unfolding_all rfl) ?_)
      | (go_at_call 30; refine (hm w2 (HI.out.below B02)).mono ?_; rintro e w3 ⟨g3, c3, rfl, hg3, hl3, hI3, hB3⟩)
      | (with_reducible refine wpList_storeV (w := w3) (by with_unfolding_all rfl) 27 (.tmp 4) (.tmp 28) (by with_unfolding_all rfl) (w.heap.size + 1) (hvs none 0 0 ⟨#[]⟩ 0) (hvs (some ⟨g3, 0, none⟩) 8 c3 lf ((Z + t.size : Nat) : Int)) (by with_unfolding_all rfl) (by with_unfolding_all rfl) (R2.below hB3 (by omega)) 3 Tryd.sizeH (by with_unfolding_all rfl) (by with_unfolding_all rfl) (hvs_one _ _ _ _ _) ?_; intro w9 hA9 hB9 hF9 hS9))
    have z2 := B02.size
    have z22 := hB2.size
    refine bodyPost_ret (results_V (t := 27) rfl _ (w.heap.size + 1) _ rfl hA9 Tryd.undH 3 Tryd.sizeH rfl) rfl ⟨some ⟨g3, 0, none⟩, c3, by rw [HQ8.out, HEZ.out], ⟨fun hl => ?_, fun ad e => by injection e with e; subst e; exact ⟨by show w.heap.size ≤ g3; omega, by rw [hS9]; exact hl3⟩⟩, (B02.trans (hB3.mono z2)).trans (hB9 _ (by omega))⟩
    obtain ⟨g3', hg3', hc3⟩ := hI3 hl
    refine ⟨g3', hg3', fun k hk => ?_⟩
    injection hg3' with hg3'
    injection hg3' with hg3'
    have hf := hF9 ⟨g3', k, none⟩ (by show g3' ≠ w.heap.size + 1; omega)
    exact ⟨hf.1.trans (hc3 k hk).1, hf.2.trans (hc3 k hk).2⟩
  rw [moV_same hbig hR]
  have hbig' : (t.size : Int) ≤ 20000 := by omega
  by_cases hr : Right l s z
  · have hz : 1099511627776 < z + t.size := by
      have : ¬ (z + t.size ≤ 1099511627776) := fun e => hR ⟨hr, e⟩
      omega
    rw [right_yes hr] at hrt
    obtain ⟨hr1, hr2⟩ : 0 ≤ z ∧ z ≤ 1099511627776 := ⟨hr.2.1, hr.2.2.1⟩
    have d2 : decide (1099511627776 < z + (t.size : Int)) = true := decide_eq_true (by omega)
    clear h hR hr hbig
    subst hn
    go_enter Tryd.func19, Tryd.ntmps19
    go_wp2_with (first
      | (with_reducible refine wpList_boxV (w := w) (by with_unfolding_all rfl) 27 (.tmp 0) (by with_unfolding_all rfl) (hvs (some ⟨g, 0, none⟩) l.length c s z) (by with_unfolding_all rfl) ?_; intro w0 hA0 hB0 hS0)
      | (with_reducible refine wpList_allocV (w := w0) (by with_unfolding_all rfl) 27 (by with_unfolding_all rfl) (hvs none 0 0 ⟨#[]⟩ 0) Tryd.infoH ?_; intro w1 hA1 hB1 hS1; have V1 := hA0.below hB1 (by omega); have B01 : Below w.heap.size w w1 := hB0.trans (hB1.mono (by omega)))
      | (with_reducible refine wpList_loadV (w := w1) (by with_unfolding_all rfl) 27 (.tmp 2) (by with_unfolding_all rfl) w.heap.size (hvs (some ⟨g, 0, none⟩) l.length c s z) (by with_unfolding_all rfl) V1 Tryd.undH 3 Tryd.sizeH (by with_unfolding_all rfl) ?_)
      | (go_at_call 39; refine (hrt w1 (HI.out.below B01)).mono ?_; rintro e w2 ⟨rfl, hB2⟩; have y2 := hB2.size; have V2 := V1.below hB2 (by omega); have B02 : Below w.heap.size w w2 := B01.trans (hB2.mono (by omega)); have p2 := V2.cell (k := 2) rfl; have p0 := (V2.below ((Below.refl _ w2).alloc (Nat.le_refl _) (.cells #[] 2)) (by omega)).cell (k := 0) rfl; have hl2 : w.heap.size < w2.heap.size := (by omega); have R2 : RowV w2 (w.heap.size + 1) (hvs none 0 0 ⟨#[]⟩ 0) := by (rw [← hS0]; exact hA1.below hB2 (by omega)))
      | (at_builtin; refine wpList_append_row rfl _ _ rfl w2.heap.size (.slice (some ⟨w2.heap.size, 0, none⟩) 0 0) rfl (World.ownsRow_made w2 #[] 0 (Nat.le_refl _) (Nat.zero_le _) rfl) g c l.length l rfl rfl ((HI.out.below B02).below ((Below.refl _ _).alloc (Nat.le_refl _) _)) hb (by rw [size_alloc]; omega) ?_; intro a3 c3 w3 hN3 hB3x; have hB3 : Below w2.heap.size w2 w3 := ((Below.refl _ _).alloc (Nat.le_refl _) _).trans hB3x; have V3 := V2.below hB3 (by have := hB2.size; omega); have f0 := V3.frozen (k := 0) (by simp [hvs]); have q0 := V3.cell (k := 0) rfl; have V9 : RowV (w3.setCell ⟨w.heap.size, 0, none⟩ (.slice a3 l.length c3)) w.heap.size (hvs a3 l.length c3 s z) := V3.setAt (k := 0) (by simp [hvs]) rfl; have R9 : RowV (w3.setCell ⟨w.heap.size, 0, none⟩ (.slice a3 l.length c3)) (w.heap.size + 1) (hvs none 0 0 ⟨#[]⟩ 0) := (R2.below hB3 (by omega)).far (by omega))
      | (with_reducible refine wpList_loadV (w := w3.setCell ⟨w.heap.size, 0, none⟩ (.slice a3 l.length c3)) (by with_unfolding_all rfl) 27 (.tmp 2) (by with_unfolding_all rfl) w.heap.size (hvs a3 l.length c3 s z) (by with_unfolding_all rfl) V9 Tryd.undH 3 Tryd.sizeH (by with_unfolding_all rfl) ?_)
      | (with_reducible refine wpList_storeV (w := w3.setCell ⟨w.heap.size, 0, none⟩ (.slice a3 l.length c3)) (by with_unfolding_all rfl) 27 (.tmp 4) (.tmp 25) (by with_unfolding_all rfl) (w.heap.size + 1) (hvs none 0 0 ⟨#[]⟩ 0) (hvs a3 l.length c3 s z) (by with_unfolding_all rfl) (by with_unfolding_all rfl) R9 3 Tryd.sizeH (by with_unfolding_all rfl) (by with_unfolding_all rfl) (hvs_one _ _ _ _ _) ?_; intro w9 hA9 hB9 hF9 hS9))
    have z3 := hB3.size
    refine bodyPost_ret (results_V (t := 27) rfl _ (w.heap.size + 1) _ rfl hA9 Tryd.undH 3 Tryd.sizeH rfl) rfl ⟨a3, c3, rfl, ⟨fun hl => ?_, fun ad e => ⟨by have := (hN3.new ad e).1; omega, by rw [hS9, World.size_setCell]; exact (hN3.new ad e).2⟩⟩, ((B02.trans (hB3.mono (by omega))).setCell (Nat.le_refl _) _).trans (hB9 _ (by omega))⟩
    obtain ⟨g3, hg3, hc3⟩ := hN3.iat hl
    refine ⟨g3, hg3, fun k hk => ?_⟩
    have hn3 := (hN3.new _ hg3).1
    simp at hn3
    have hf := hF9 ⟨g3, k, none⟩ (by show g3 ≠ w.heap.size + 1; omega)
    exact ⟨(hf.1.trans (World.cell?_setCell_other w3 _ _ _ (by intro e; injection e with e _ _; omega))).trans (hc3 k hk).1, (hf.2.trans (World.frozen?_setCell ..)).trans (hc3 k hk).2⟩
  · rw [right_no hr] at hrt
    clear h hR hr hbig
    subst hn
    go_enter Tryd.func19, Tryd.ntmps19
    go_wp2_with (first
      | (with_reducible refine wpList_boxV (w := w) (by with_unfolding_all rfl) 27 (.tmp 0) (by with_unfolding_all rfl) (hvs (some ⟨g, 0, none⟩) l.length c s z) (by with_unfolding_all rfl) ?_; intro w0 hA0 hB0 hS0)
      | (with_reducible refine wpList_allocV (w := w0) (by with_unfolding_all rfl) 27 (by with_unfolding_all rfl) (hvs none 0 0 ⟨#[]⟩ 0) Tryd.infoH ?_; intro w1 hA1 hB1 hS1; have V1 := hA0.below hB1 (by omega); have B01 : Below w.heap.size w w1 := hB0.trans (hB1.mono (by omega)))
      | (with_reducible refine wpList_loadV (w := w1) (by with_unfolding_all rfl) 27 (.tmp 2) (by with_unfolding_all rfl) w.heap.size (hvs (some ⟨g, 0, none⟩) l.length c s z) (by with_unfolding_all rfl) V1 Tryd.undH 3 Tryd.sizeH (by with_unfolding_all rfl) ?_)
      | (go_at_call 39; refine (hrt w1 (HI.out.below B01)).mono ?_; rintro e w2 ⟨rfl, hB2⟩; have y2 := hB2.size; have V2 := V1.below hB2 (by omega); have B02 : Below w.heap.size w w2 := B01.trans (hB2.mono (by omega)); have p2 := V2.cell (k := 2) rfl; have p0 := (V2.below ((Below.refl _ w2).alloc (Nat.le_refl _) (.cells #[] 2)) (by omega)).cell (k := 0) rfl; have hl2 : w.heap.size < w2.heap.size := (by omega); have R2 : RowV w2 (w.heap.size + 1) (hvs none 0 0 ⟨#[]⟩ 0) := by (rw [← hS0]; exact hA1.below hB2 (by omega)))
      | (at_builtin; refine wpList_append_row rfl _ _ rfl w2.heap.size (.slice (some ⟨w2.heap.size, 0, none⟩) 0 0) rfl (World.ownsRow_made w2 #[] 0 (Nat.le_refl _) (Nat.zero_le _) rfl) g c l.length l rfl rfl ((HI.out.below B02).below ((Below.refl _ _).alloc (Nat.le_refl _) _)) hb (by rw [size_alloc]; omega) ?_; intro a3 c3 w3 hN3 hB3x; have hB3 : Below w2.heap.size w2 w3 := ((Below.refl _ _).alloc (Nat.le_refl _) _).trans hB3x; have V3 := V2.below hB3 (by have := hB2.size; omega); have f0 := V3.frozen (k := 0) (by simp [hvs]); have q0 := V3.cell (k := 0) rfl; have V9 : RowV (w3.setCell ⟨w.heap.size, 0, none⟩ (.slice a3 l.length c3)) w.heap.size (hvs a3 l.length c3 s z) := V3.setAt (k := 0) (by simp [hvs]) rfl; have R9 : RowV (w3.setCell ⟨w.heap.size, 0, none⟩ (.slice a3 l.length c3)) (w.heap.size + 1) (hvs none 0 0 ⟨#[]⟩ 0) := (R2.below hB3 (by omega)).far (by omega))
      | (with_reducible refine wpList_loadV (w := w3.setCell ⟨w.heap.size, 0, none⟩ (.slice a3 l.length c3)) (by with_unfolding_all rfl) 27 (.tmp 2) (by with_unfolding_all rfl) w.heap.size (hvs a3 l.length c3 s z) (by with_unfolding_all rfl) V9 Tryd.undH 3 Tryd.sizeH (by with_unfolding_all rfl) ?_)
      | (with_reducible refine wpList_storeV (w := w3.setCell ⟨w.heap.size, 0, none⟩ (.slice a3 l.length c3)) (by with_unfolding_all rfl) 27 (.tmp 4) (.tmp 25) (by with_unfolding_all rfl) (w.heap.size + 1) (hvs none 0 0 ⟨#[]⟩ 0) (hvs a3 l.length c3 s z) (by with_unfolding_all rfl) (by with_unfolding_all rfl) R9 3 Tryd.sizeH (by with_unfolding_all rfl) (by with_unfolding_all rfl) (hvs_one _ _ _ _ _) ?_; intro w9 hA9 hB9 hF9 hS9))
    have z3 := hB3.size
    refine bodyPost_ret (results_V (t := 27) rfl _ (w.heap.size + 1) _ rfl hA9 Tryd.undH 3 Tryd.sizeH rfl) rfl ⟨a3, c3, rfl, ⟨fun hl => ?_, fun ad e => ⟨by have := (hN3.new ad e).1; omega, by rw [hS9, World.size_setCell]; exact (hN3.new ad e).2⟩⟩, ((B02.trans (hB3.mono (by omega))).setCell (Nat.le_refl _) _).trans (hB9 _ (by omega))⟩
    obtain ⟨g3, hg3, hc3⟩ := hN3.iat hl
    refine ⟨g3, hg3, fun k hk => ?_⟩
    have hn3 := (hN3.new _ hg3).1
    simp at hn3
    have hf := hF9 ⟨g3, k, none⟩ (by show g3 ≠ w.heap.size + 1; omega)
    exact ⟨(hf.1.trans (World.cell?_setCell_other w3 _ _ _ (by intro e; injection e with e _ _; omega))).trans (hc3 k hk).1, (hf.2.trans (World.frozen?_setCell ..)).trans (hc3 k hk).2⟩
end Go.Proofs.YthmlfohgbkkbjaaDoor
