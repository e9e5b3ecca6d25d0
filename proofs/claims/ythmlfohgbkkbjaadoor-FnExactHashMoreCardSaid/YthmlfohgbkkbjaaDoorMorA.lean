/- HashMore of both sides, for every Hash and every text: what they answer. -/
import Derived.Test.YthmlfohgbkkbjaaDoorOwnH
namespace Go.Proofs.YthmlfohgbkkbjaaDoor
open Go.RowKit
set_option linter.unusedVariables false
attribute [local go_sem ↓] Go.wp_at_zero Go.wp_at_succ

structure Ans where
  l : List Int
  s : ByteArray
  z : Int
def moV (l : List Int) (s : ByteArray) (z : Int) (t : ByteArray) : Ans :=
  if 20000 < t.size then ⟨[], ⟨#[]⟩, 0⟩ else if rightB l s z = true ∧ z + t.size ≤ 1099511627776 then ⟨(mst (rOf l) s t).ints, mlf s t, z + t.size⟩ else ⟨l, s, z⟩
theorem moV_big {l : List Int} {s : ByteArray} {z : Int} {t : ByteArray} (h : 20000 < t.size) : moV l s z t = ⟨[], ⟨#[]⟩, 0⟩ := if_pos h
theorem moV_more {l : List Int} {s : ByteArray} {z : Int} {t : ByteArray} (h : ¬ 20000 < t.size) (h2 : Right l s z ∧ z + t.size ≤ 1099511627776) : moV l s z t = ⟨(mst (rOf l) s t).ints, mlf s t, z + t.size⟩ := by unfold moV; rw [if_neg h, if_pos ⟨right_yes h2.1, h2.2⟩]
theorem moV_same {l : List Int} {s : ByteArray} {z : Int} {t : ByteArray} (h : ¬ 20000 < t.size) (h2 : ¬ (Right l s z ∧ z + t.size ≤ 1099511627776)) : moV l s z t = ⟨l, s, z⟩ := by unfold moV; rw [if_neg h, if_neg (fun e => h2 ⟨right_of e.1, e.2⟩)]
theorem moV_len {l : List Int} {s : ByteArray} {z : Int} {t : ByteArray} (h : l.length ≤ 1048576) : (moV l s z t).l.length ≤ 1048576 := by
  unfold moV
  split
  · simp
  · split
    · show (mst (rOf l) s t).ints.length ≤ _; rw [ints_length]; omega
    · exact h
/- The answer's contract. -/
def Told (w : World) (p : Ans) (e : Ending) (w' : World) : Prop := ∃ a2 c2, e = .returned (HVal a2 p.l.length c2 p.s p.z) ∧ New w.heap.size w' a2 p.l ∧ Below w.heap.size w w'

set_option maxRecDepth 100000 in
set_option maxHeartbeats 1000000 in
theorem hashMoreI (g c n : Nat) (l : List Int) (s t : ByteArray) (z : Int) (w : World) (hn : l.length = n) (h : IAt w (some ⟨g, 0, none⟩) l) (hb : n ≤ 1048576) (hs : s.size ≤ maxLen) (ht : t.size ≤ 1048576) (hk : ArrU w 0 keys) (h0 : 0 < w.heap.size) :
    Calls Tryd.prog 13 #[HVal (some ⟨g, 0, none⟩) n c s z, .string t] w fun e w' => Told w (moV l s z t) e w' := by
  have HI : Hid (IAt w (some ⟨g, 0, none⟩) l) := h
  have hrt : ∀ w0, IAt w0 (some ⟨g, 0, none⟩) l → Calls Tryd.prog 14 #[HVal (some ⟨g, 0, none⟩) n c s z] w0 fun e w' => e = .returned (.bool (rightB l s z)) ∧ Below w0.heap.size w0 w' := fun w0 h => rightI_any _ c n l s z w0 hn h (by omega) hs
  by_cases hbig : 20000 < t.size
  · rw [moV_big hbig]
    clear h hrt hk
    go_enter Tryd.func13, Tryd.ntmps13
    go_wp2_with (first
      | (with_reducible refine wpList_boxV (w := w) (by with_unfolding_all rfl) 27 (.tmp 0) (by with_unfolding_all rfl) (hvs (some ⟨g, 0, none⟩) n c s z) (by with_unfolding_all rfl) ?_; intro w0 hA0 hB0 hS0)
      | (with_reducible refine wpList_allocV (w := w0) (by with_unfolding_all rfl) 27 (by with_unfolding_all rfl) (hvs none 0 0 ⟨#[]⟩ 0) Tryd.infoH ?_; intro w1 hA1 hB1 hS1; have V1 := hA0.below hB1 (by omega); have B01 : Below w.heap.size w w1 := hB0.trans (hB1.mono (by omega)))
      | (with_reducible refine wpList_storeV (w := w1) (by with_unfolding_all rfl) 27 (.tmp 4) (.tmp 10) (by with_unfolding_all rfl) (w.heap.size + 1) (hvs none 0 0 ⟨#[]⟩ 0) (hvs none 0 0 ⟨#[]⟩ 0) (by with_unfolding_all rfl) (by with_unfolding_all rfl) (by rw [← hS0]; exact hA1) 3 Tryd.sizeH (by with_unfolding_all rfl) (by with_unfolding_all rfl) (hvs_one _ _ _ _ _) ?_; intro w9 hA9 hB9 hF9 hS9))
    refine bodyPost_ret (results_V (t := 27) rfl _ (w.heap.size + 1) _ rfl hA9 Tryd.undH 3 Tryd.sizeH rfl) rfl ⟨none, 0, rfl, ⟨fun hl => absurd rfl hl, fun ad e => by cases e⟩, B01.trans (hB9 _ (by omega))⟩
  by_cases hR : Right l s z ∧ z + t.size ≤ 1099511627776
  · rw [moV_more hbig hR]
    obtain ⟨Z, rfl, hZ, hsz, hints, h8⟩ := hR.1.nat
    have hR2 := hR.2
    obtain rfl : n = 8 := by omega
    refine (moreI_m g c (rOf l) s t Z w (by rw [hints]; exact h) hsz (by omega) (by omega) hk h0).mono ?_
    rintro e w' ⟨g2, c2, rfl, h1, h2, h3, h4⟩
    exact ⟨some ⟨g2, 0, none⟩, c2, rfl, ⟨h3, fun ad e => by injection e with e; subst e; exact ⟨h1, h2⟩⟩, h4⟩
  rw [moV_same hbig hR]
  have hbig' : (t.size : Int) ≤ 20000 := by omega
  by_cases hr : Right l s z
  · have hz : 1099511627776 < z + t.size := by
      have : ¬ (z + t.size ≤ 1099511627776) := fun e => hR ⟨hr, e⟩
      omega
    rw [right_yes hr] at hrt
    obtain ⟨hr1, hr2⟩ : 0 ≤ z ∧ z ≤ 1099511627776 := ⟨hr.2.1, hr.2.2.1⟩
    have d2 : decide (1099511627776 - (t.size : Int) < z) = true := decide_eq_true (by omega)
    clear h hR hr hbig hk
    subst hn
    go_enter Tryd.func13, Tryd.ntmps13
    go_wp2_with (first
      | (with_reducible refine wpList_boxV (w := w) (by with_unfolding_all rfl) 27 (.tmp 0) (by with_unfolding_all rfl) (hvs (some ⟨g, 0, none⟩) l.length c s z) (by with_unfolding_all rfl) ?_; intro w0 hA0 hB0 hS0)
      | (with_reducible refine wpList_allocV (w := w0) (by with_unfolding_all rfl) 27 (by with_unfolding_all rfl) (hvs none 0 0 ⟨#[]⟩ 0) Tryd.infoH ?_; intro w1 hA1 hB1 hS1; have V1 := hA0.below hB1 (by omega); have B01 : Below w.heap.size w w1 := hB0.trans (hB1.mono (by omega)))
      | (with_reducible refine wpList_loadV (w := w1) (by with_unfolding_all rfl) 27 (.tmp 2) (by with_unfolding_all rfl) w.heap.size (hvs (some ⟨g, 0, none⟩) l.length c s z) (by with_unfolding_all rfl) V1 Tryd.undH 3 Tryd.sizeH (by with_unfolding_all rfl) ?_)
      | (go_at_call 14; refine (hrt w1 (HI.out.below B01)).mono ?_; rintro e w2 ⟨rfl, hB2⟩; have y2 := hB2.size; have V2 := V1.below hB2 (by omega); have B02 : Below w.heap.size w w2 := B01.trans (hB2.mono (by omega)); have p2 := V2.cell (k := 2) rfl; have R2 : RowV w2 (w.heap.size + 1) (hvs none 0 0 ⟨#[]⟩ 0) := by (rw [← hS0]; exact hA1.below hB2 (by omega)))
      | (with_reducible refine wpList_loadV (w := w2) (by with_unfolding_all rfl) 27 (.tmp 2) (by with_unfolding_all rfl) w.heap.size (hvs (some ⟨g, 0, none⟩) l.length c s z) (by with_unfolding_all rfl) V2 Tryd.undH 3 Tryd.sizeH (by with_unfolding_all rfl) ?_)
      | (go_at_call 32; refine (ownHash_any g c l.length l s z w2 rfl (HI.out.below B02) hb).mono ?_; rintro e w3 ⟨a3, c3, rfl, hN3, hB3⟩)
      | (with_reducible refine wpList_storeV (w := w3) (by with_unfolding_all rfl) 27 (.tmp 4) (.tmp 23) (by with_unfolding_all rfl) (w.heap.size + 1) (hvs none 0 0 ⟨#[]⟩ 0) (hvs a3 l.length c3 s z) (by with_unfolding_all rfl) (by with_unfolding_all rfl) (R2.below hB3 (by omega)) 3 Tryd.sizeH (by with_unfolding_all rfl) (by with_unfolding_all rfl) (hvs_one _ _ _ _ _) ?_; intro w9 hA9 hB9 hF9 hS9))
    have z2 := B02.size
    have z22 := hB2.size
    refine bodyPost_ret (results_V (t := 27) rfl _ (w.heap.size + 1) _ rfl hA9 Tryd.undH 3 Tryd.sizeH rfl) rfl ⟨a3, c3, rfl, ⟨fun hl => ?_, fun ad e => ⟨Nat.le_trans z2 (hN3.new ad e).1, by rw [hS9]; exact (hN3.new ad e).2⟩⟩, (B02.trans (hB3.mono z2)).trans (hB9 _ (by omega))⟩
    obtain ⟨g3, hg3, hc3⟩ := hN3.iat hl
    refine ⟨g3, hg3, fun k hk => ?_⟩
    have hf := hF9 ⟨g3, k, none⟩ (by have := (hN3.new _ hg3).1; show g3 ≠ w.heap.size + 1; simp at this; omega)
    exact ⟨hf.1.trans (hc3 k hk).1, hf.2.trans (hc3 k hk).2⟩
  · rw [right_no hr] at hrt
    clear h hR hr hbig hk
    subst hn
    go_enter Tryd.func13, Tryd.ntmps13
    go_wp2_with (first
      | (with_reducible refine wpList_boxV (w := w) (by with_unfolding_all rfl) 27 (.tmp 0) (by with_unfolding_all rfl) (hvs (some ⟨g, 0, none⟩) l.length c s z) (by with_unfolding_all rfl) ?_; intro w0 hA0 hB0 hS0)
      | (with_reducible refine wpList_allocV (w := w0) (by with_unfolding_all rfl) 27 (by with_unfolding_all rfl) (hvs none 0 0 ⟨#[]⟩ 0) Tryd.infoH ?_; intro w1 hA1 hB1 hS1; have V1 := hA0.below hB1 (by omega); have B01 : Below w.heap.size w w1 := hB0.trans (hB1.mono (by omega)))
      | (with_reducible refine wpList_loadV (w := w1) (by with_unfolding_all rfl) 27 (.tmp 2) (by with_unfolding_all rfl) w.heap.size (hvs (some ⟨g, 0, none⟩) l.length c s z) (by with_unfolding_all rfl) V1 Tryd.undH 3 Tryd.sizeH (by with_unfolding_all rfl) ?_)
      | (go_at_call 14; refine (hrt w1 (HI.out.below B01)).mono ?_; rintro e w2 ⟨rfl, hB2⟩; have y2 := hB2.size; have V2 := V1.below hB2 (by omega); have B02 : Below w.heap.size w w2 := B01.trans (hB2.mono (by omega)); have p2 := V2.cell (k := 2) rfl; have R2 : RowV w2 (w.heap.size + 1) (hvs none 0 0 ⟨#[]⟩ 0) := by (rw [← hS0]; exact hA1.below hB2 (by omega)))
      | (with_reducible refine wpList_loadV (w := w2) (by with_unfolding_all rfl) 27 (.tmp 2) (by with_unfolding_all rfl) w.heap.size (hvs (some ⟨g, 0, none⟩) l.length c s z) (by with_unfolding_all rfl) V2 Tryd.undH 3 Tryd.sizeH (by with_unfolding_all rfl) ?_)
      | (go_at_call 32; refine (ownHash_any g c l.length l s z w2 rfl (HI.out.below B02) hb).mono ?_; rintro e w3 ⟨a3, c3, rfl, hN3, hB3⟩)
      | (with_reducible refine wpList_storeV (w := w3) (by with_unfolding_all rfl) 27 (.tmp 4) (.tmp 23) (by with_unfolding_all rfl) (w.heap.size + 1) (hvs none 0 0 ⟨#[]⟩ 0) (hvs a3 l.length c3 s z) (by with_unfolding_all rfl) (by with_unfolding_all rfl) (R2.below hB3 (by omega)) 3 Tryd.sizeH (by with_unfolding_all rfl) (by with_unfolding_all rfl) (hvs_one _ _ _ _ _) ?_; intro w9 hA9 hB9 hF9 hS9))
    have z2 := B02.size
    have z22 := hB2.size
    refine bodyPost_ret (results_V (t := 27) rfl _ (w.heap.size + 1) _ rfl hA9 Tryd.undH 3 Tryd.sizeH rfl) rfl ⟨a3, c3, rfl, ⟨fun hl => ?_, fun ad e => ⟨Nat.le_trans z2 (hN3.new ad e).1, by rw [hS9]; exact (hN3.new ad e).2⟩⟩, (B02.trans (hB3.mono z2)).trans (hB9 _ (by omega))⟩
    obtain ⟨g3, hg3, hc3⟩ := hN3.iat hl
    refine ⟨g3, hg3, fun k hk => ?_⟩
    have hf := hF9 ⟨g3, k, none⟩ (by have := (hN3.new _ hg3).1; show g3 ≠ w.heap.size + 1; simp at this; omega)
    exact ⟨hf.1.trans (hc3 k hk).1, hf.2.trans (hc3 k hk).2⟩
end Go.Proofs.YthmlfohgbkkbjaaDoor
