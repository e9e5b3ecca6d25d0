/- The place above, of the program's walk. -/
import Derived.Test.YtdfglpbappeoaaaGreatDoorJn17
import Derived.Test.YtdfglpbappeoaaaGreatDoorWlkI
namespace Go.Proofs.YtdfglpbappeoaaaGreatDoor
open Go.RowKit
set_option linter.unusedVariables false

theorem nx_up (f s : Nat) : Mer.nx f s = if f = s then ((dn f s).1 / 2, (dn f s).2 / 2) else (f / 2, s / 2) := by
  by_cases h : f = s
  · rw [if_pos h, nx_right (rgt_same h)]
  · rw [if_neg h]
    by_cases ho : f % 2 = 1
    · rw [nx_right (rgt_odd ho), dn_stop (Or.inl ho)]
    · rw [nx_left (rgt_not ho h)]
theorem dn_le : ∀ (n f s : Nat), f ≤ n → (dn f s).1 ≤ f ∧ (dn f s).2 ≤ s
  | 0, f, s, h => by
    have : f = 0 := by omega
    subst this
    rw [dn_stop (Or.inr rfl)]
    exact ⟨Nat.le_refl _, Nat.le_refl _⟩
  | n + 1, f, s, h => by
    by_cases e : f % 2 = 0 ∧ f ≠ 0
    · rw [dn_go e.1 e.2]
      have := dn_le n (f / 2) (s / 2) (by omega)
      omega
    · rw [dn_stop (by omega)]
      exact ⟨Nat.le_refl _, Nat.le_refl _⟩
theorem nx_le (f s : Nat) : (Mer.nx f s).1 ≤ f ∧ (Mer.nx f s).2 ≤ s := by
  rw [nx_up]
  have := dn_le f f s (Nat.le_refl _)
  by_cases h : f = s
  · rw [if_pos h]
    dsimp only
    omega
  · rw [if_neg h]
    dsimp only
    omega
def wm (w : World) (g : Nat) : Nat := (intOf ((w.cell? ⟨g, 0, none⟩).getD undef)).toNat
theorem wm_eq {w : World} {g f s : Nat} (h : RowV w g (wvs f s)) : wm w g = f := by
  unfold wm
  rw [h.wlk.1]
  simp [intOf]
/- What stands while the walk goes up. -/
structure KpW (w : World) (g1 g2 f s : Nat) (w' : World) : Prop where
  below : Below w.heap.size w w'
  v1 : RowV w' g1 (wvs f s)
  v2 : RowV w' g2 (wvs 0 0)
  lo : w.heap.size ≤ g1
  lt : g1 < g2
  up : g2 < w'.heap.size
theorem KpW.call {w w' w2 : World} {g1 g2 f s : Nat} (h : Hid (KpW w g1 g2 f s w')) (hb : Below w'.heap.size w' w2) : Hid (KpW w g1 g2 f s w2) :=
  ⟨h.out.below.trans (hb.mono h.out.below.size), h.out.v1.below hb (by have := h.out.lt; have := h.out.up; omega), h.out.v2.below hb h.out.up, h.out.lo, h.out.lt, Nat.lt_of_lt_of_le h.out.up hb.size⟩
theorem KpW.put {w w' w2 : World} {g1 g2 f s f2 s2 : Nat} (h : Hid (KpW w g1 g2 f s w')) (hv : RowV w2 g1 (wvs f2 s2)) (hb : ∀ B, B ≤ g1 → Below B w' w2) (hf : ∀ x : Addr, x.block ≠ g1 → w2.cell? x = w'.cell? x ∧ w2.frozen? x = w'.frozen? x) (hz : w2.heap.size = w'.heap.size) : Hid (KpW w g1 g2 f2 s2 w2) :=
  ⟨h.out.below.trans (hb _ h.out.lo), hv, h.out.v2.same (fun k => hf ⟨g2, k, none⟩ (by show g2 ≠ g1; have := h.out.lt; omega)), h.out.lo, h.out.lt, by rw [hz]; exact h.out.up⟩
set_option maxRecDepth 100000 in
set_option maxHeartbeats 1000000 in
theorem aboveI (f s : Nat) (w : World) (hf : f ≤ 1099511627776) (hs : s ≤ 1099511627776) :
    Calls Tryz.prog 76 #[.agg #[.int .i64 (f : Int), .int .i64 (s : Int)]] w fun e w' => e = .returned (.agg #[.int .i64 ((Mer.nx f s).1 : Int), .int .i64 ((Mer.nx f s).2 : Int)]) ∧ Below w.heap.size w w' := by
  have hH : ∀ (f s : Nat) w0, f ≤ 1099511627776 → s ≤ 1099511627776 → Calls Tryz.prog 105 #[.agg #[.int .i64 (f : Int), .int .i64 (s : Int)]] w0 fun e w' => e = .returned (.agg #[.int .i64 ((f / 2 : Nat) : Int), .int .i64 ((s / 2 : Nat) : Int)]) ∧ Below w0.heap.size w0 w' := fun f s w0 h1 h2 => halvedI f s w0 h1 h2
  rw [nx_up]
  by_cases hsame : f = s
  · rw [if_pos hsame]
    obtain ⟨F, S, hFS⟩ : ∃ F S, dn f s = (F, S) := ⟨_, _, rfl⟩
    have HD : Hid (dn f s = (F, S)) := hFS
    rw [hFS]
    have d6 : ((f : Int) == (s : Int)) = true := beq_iff_eq.2 (by omega)
    clear hsame hFS
    go_enter Tryz.func76, Tryz.ntmps76
    go_wp2_with (first
      | (with_reducible refine wpList_boxV (w := w) (by with_unfolding_all rfl) 105 (.tmp 0) (by with_unfolding_all rfl) (wvs f s) (by with_unfolding_all rfl) ?_; intro w1 hA1 hB1 hS1; have z1 : w.heap.size < w1.heap.size := (by omega); clear hS1)
      | (with_reducible refine wpList_allocV (w := w1) (by with_unfolding_all rfl) 105 (by with_unfolding_all rfl) (wvs 0 0) Tryz.infoW ?_; intro w2 hA2 hB2 hS2; have z2 : w1.heap.size < w2.heap.size := (by omega); clear hS2; obtain ⟨p0, p1⟩ := (hA1.below hB2 (by omega)).wlk))
    have HW : Hid (KpW w w.heap.size w1.heap.size f s w2) := KpW.mk (hB1.trans (hB2.mono (by omega))) (hA1.below hB2 (by omega)) hA2 (Nat.le_refl _) z1 z2
    generalize w1.heap.size = g2 at *
    clear hA1 hA2 hB1 hB2 p0 p1 z2 d6
    go_loopw [] (fun wr => ∃ (f' s' : Nat), f' ≤ 1099511627776 ∧ s' ≤ 1099511627776 ∧ Hid (dn f' s' = (F, S)) ∧ Hid (KpW w w.heap.size g2 f' s' wr)) (fun wr => wm wr w.heap.size)
    case atStart => exact ⟨f, s, hf, hs, HD, HW⟩
    case round =>
      clear HD HW hf hs
      obtain ⟨f', s', hf', hs', HD', HW'⟩ := hrel
      have hmeas : wm wr w.heap.size = f' := wm_eq HW'.out.v1
      obtain ⟨p0, p1⟩ := HW'.out.v1.wlk
      have hH1 : ∀ w0, Calls Tryz.prog 105 #[.agg #[.int .i64 (f' : Int), .int .i64 (s' : Int)]] w0 fun e w' => e = .returned (.agg #[.int .i64 ((f' / 2 : Nat) : Int), .int .i64 ((s' / 2 : Nat) : Int)]) ∧ Below w0.heap.size w0 w' := fun w0 => hH f' s' w0 hf' hs'
      clear hH
      have HM : Hid (wm wr w.heap.size = f') := hmeas
      clear hmeas
      by_cases e1 : f' % 2 = 0 ∧ f' ≠ 0
      · as_aux_lemma =>
        have t1 : ((f' : Int) % 2 == 0) = true := beq_iff_eq.2 (by omega)
        have t2 : decide ((0 : Int) < (f' : Int)) = true := decide_eq_true (by omega)
        have t3 : decide (0 < f') = true := decide_eq_true (by omega)
        have HE : Hid (dn (f' / 2) (s' / 2) = (F, S)) := by have := HD'.out; rw [dn_go e1.1 e1.2] at this; exact this
        have HP : Hid (0 < f') := Nat.pos_of_ne_zero e1.2
        clear HD' e1
        go_wp2_with (first
          | (go_at_call 105; refine (hH1 _).mono ?_; rintro e w3 ⟨rfl, hB3⟩; have HW3 := KpW.call HW' hB3)
          | (with_reducible refine wpList_storeV (w := w3) (by with_unfolding_all rfl) 105 (.tmp 1) (.tmp 18) (by with_unfolding_all rfl) w.heap.size (wvs f' s') (wvs (f' / 2) (s' / 2)) (by with_unfolding_all rfl) (by with_unfolding_all rfl) HW3.out.v1 2 Tryz.sizeW (by with_unfolding_all rfl) (by with_unfolding_all rfl) (wvs_one _ _) ?_; intro w4 hA4 hB4 hF4 hS4; have HW4 := KpW.put HW3 hA4 hB4 hF4 hS4; clear hS4))
        simp only [Act.put]
        go_roundw
        case rel => exact ⟨f' / 2, s' / 2, by omega, by omega, HE, HW4⟩
        case measure =>
          rw [HM.out, wm_eq HW4.out.v1]
          have := HP.out
          omega
      · as_aux_lemma =>
        have HE : Hid (f' = F ∧ s' = S) := by have := HD'.out; rw [dn_stop (by omega)] at this; injection this with a1 a2; exact ⟨a1, a2⟩
        clear HD' HM
        by_cases e2 : f' % 2 = 0
        · have t1 : ((f' : Int) % 2 == 0) = true := beq_iff_eq.2 (by omega)
          have t2 : decide ((0 : Int) < (f' : Int)) = false := decide_eq_false (by omega)
          have t3 : decide (0 < f') = false := decide_eq_false (by omega)
          clear e1 e2
          go_wp2_with (first
            | (go_at_call 105; refine (hH1 _).mono ?_; rintro e w3 ⟨rfl, hB3⟩; have HW3 := KpW.call HW' hB3)
            | (with_reducible refine wpList_storeV (w := w3) (by with_unfolding_all rfl) 105 (.tmp 2) (.tmp 20) (by with_unfolding_all rfl) g2 (wvs 0 0) (wvs (f' / 2) (s' / 2)) (by with_unfolding_all rfl) (by with_unfolding_all rfl) HW3.out.v2 2 Tryz.sizeW (by with_unfolding_all rfl) (by with_unfolding_all rfl) (wvs_one _ _) ?_; intro w4 hA4 hB4 hF4 hS4; clear hS4))
          refine bodyPost_ret (results_V (t := 105) rfl _ g2 _ (by with_unfolding_all rfl) hA4 Tryz.undW 2 Tryz.sizeW rfl) rfl ⟨?_, HW3.out.below.trans (hB4 _ (by omega))⟩
          rw [← HE.out.1, ← HE.out.2]
          rfl
        · have t1 : ((f' : Int) % 2 == 0) = false := beq_eq_false_iff_ne.2 (by omega)
          clear e1 e2
          go_wp2_with (first
            | (go_at_call 105; refine (hH1 _).mono ?_; rintro e w3 ⟨rfl, hB3⟩; have HW3 := KpW.call HW' hB3)
            | (with_reducible refine wpList_storeV (w := w3) (by with_unfolding_all rfl) 105 (.tmp 2) (.tmp 20) (by with_unfolding_all rfl) g2 (wvs 0 0) (wvs (f' / 2) (s' / 2)) (by with_unfolding_all rfl) (by with_unfolding_all rfl) HW3.out.v2 2 Tryz.sizeW (by with_unfolding_all rfl) (by with_unfolding_all rfl) (wvs_one _ _) ?_; intro w4 hA4 hB4 hF4 hS4; clear hS4))
          refine bodyPost_ret (results_V (t := 105) rfl _ g2 _ (by with_unfolding_all rfl) hA4 Tryz.undW 2 Tryz.sizeW rfl) rfl ⟨?_, HW3.out.below.trans (hB4 _ (by omega))⟩
          rw [← HE.out.1, ← HE.out.2]
          rfl
  · rw [if_neg hsame]
    have d6 : ((f : Int) == (s : Int)) = false := beq_eq_false_iff_ne.2 (by omega)
    have hH1 : ∀ w0, Calls Tryz.prog 105 #[.agg #[.int .i64 (f : Int), .int .i64 (s : Int)]] w0 fun e w' => e = .returned (.agg #[.int .i64 ((f / 2 : Nat) : Int), .int .i64 ((s / 2 : Nat) : Int)]) ∧ Below w0.heap.size w0 w' := fun w0 => hH f s w0 hf hs
    clear hsame hH
    go_enter Tryz.func76, Tryz.ntmps76
    go_wp2_with (first
      | (with_reducible refine wpList_boxV (w := w) (by with_unfolding_all rfl) 105 (.tmp 0) (by with_unfolding_all rfl) (wvs f s) (by with_unfolding_all rfl) ?_; intro w1 hA1 hB1 hS1; have z1 : w.heap.size < w1.heap.size := (by omega); clear hS1)
      | (with_reducible refine wpList_allocV (w := w1) (by with_unfolding_all rfl) 105 (by with_unfolding_all rfl) (wvs 0 0) Tryz.infoW ?_; intro w2 hA2 hB2 hS2; have z2 : w1.heap.size < w2.heap.size := (by omega); clear hS2; obtain ⟨p0, p1⟩ := (hA1.below hB2 (by omega)).wlk)
      | (go_at_call 105; refine (hH1 _).mono ?_; rintro e w3 ⟨rfl, hB3⟩; have V3 := hA2.below hB3 z2)
      | (with_reducible refine wpList_storeV (w := w3) (by with_unfolding_all rfl) 105 (.tmp 2) (.tmp 20) (by with_unfolding_all rfl) w1.heap.size (wvs 0 0) (wvs (f / 2) (s / 2)) (by with_unfolding_all rfl) (by with_unfolding_all rfl) V3 2 Tryz.sizeW (by with_unfolding_all rfl) (by with_unfolding_all rfl) (wvs_one _ _) ?_; intro w4 hA4 hB4 hF4 hS4; clear hS4))
    refine bodyPost_ret (results_V (t := 105) rfl _ w1.heap.size _ (by with_unfolding_all rfl) hA4 Tryz.undW 2 Tryz.sizeW rfl) rfl ⟨rfl, ((hB1.trans (hB2.mono (by omega))).trans (hB3.mono (by omega))).trans (hB4 _ (by omega))⟩
end Go.Proofs.YtdfglpbappeoaaaGreatDoor
