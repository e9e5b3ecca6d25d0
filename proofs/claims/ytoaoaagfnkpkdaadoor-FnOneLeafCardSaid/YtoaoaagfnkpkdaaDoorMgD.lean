/- The program's walk up a tree: its two places, halved; met from the left; the place above. The place above, of the program's walk. InclusionCheck of the program, for every argument. The law on one leaf: two proofs for one place lead to one hash, or two unlike pairs on their ways have one hash. -/
import Derived.Test.YtoaoaagfnkpkdaaDoorSRow
import Derived.Test.YtoaoaagfnkpkdaaDoorIncS
import Derived.Test.YtoaoaagfnkpkdaaDoorTreI
import Derived.Test.YtoaoaagfnkpkdaaDoorLawC
import Derived.Test.YtoaoaagfnkpkdaaDoorMgC
import Derived.Test.YtoaoaagfnkpkdaaDoorMgB
namespace Go.Proofs.YtoaoaagfnkpkdaaDoor
open Go.RowKit
set_option linter.unusedVariables false

def wvs (f s : Nat) : List Value := [.int .i64 (f : Int), .int .i64 (s : Int)]
theorem wvs_one (f s : Nat) : ∀ v ∈ wvs f s, v.oneCell' = true := by
  intro v hv
  simp [wvs] at hv
  rcases hv with h | h <;> (rw [h]; rfl)
theorem wvs_ne (f s : Nat) : wvs f s ≠ [] := by simp [wvs]
theorem RowV.wlk {w : World} {g : Nat} {f s : Nat} (h : RowV w g (wvs f s)) : w.cell? ⟨g, 0, none⟩ = some (.int .i64 (f : Int)) ∧ w.cell? ⟨g, 1, none⟩ = some (.int .i64 (s : Int)) := ⟨h.cell (k := 0) rfl, h.cell (k := 1) rfl⟩
theorem Tryd.infoW : (Tryd.prog.info? 66).map (fun i => i.zero) = some (some (.agg (wvs 0 0).toArray)) := by kernel_rfl
theorem Tryd.undW : ∃ d, Tryd.prog.underlying 66 = some d ∧ d.isRow = true := ⟨_, Tryd.underlying66, rfl⟩
theorem Tryd.sizeW : (Tryd.prog.info? 66).map (·.size) = some 2 := by kernel_rfl

set_option maxRecDepth 100000 in
set_option maxHeartbeats 1000000 in
theorem halvedI (f s : Nat) (w : World) (hf : f ≤ 1099511627776) (hs : s ≤ 1099511627776) :
    Calls Tryd.prog 89 #[.agg #[.int .i64 (f : Int), .int .i64 (s : Int)]] w fun e w' => e = .returned (.agg #[.int .i64 ((f / 2 : Nat) : Int), .int .i64 ((s / 2 : Nat) : Int)]) ∧ Below w.heap.size w w' := by
  go_enter Tryd.func89, Tryd.ntmps89
  go_wp2_with (first
    | (with_reducible refine wpList_boxV (w := w) (by with_unfolding_all rfl) 66 (.tmp 0) (by with_unfolding_all rfl) (wvs f s) (by with_unfolding_all rfl) ?_; intro w1 hA1 hB1 hS1; have z1 : w.heap.size < w1.heap.size := (by omega); clear hS1)
    | (with_reducible refine wpList_allocV (w := w1) (by with_unfolding_all rfl) 66 (by with_unfolding_all rfl) (wvs 0 0) Tryd.infoW ?_; intro w2 hA2 hB2 hS2; clear hS2; obtain ⟨p0, p1⟩ := (hA1.below hB2 (by omega)).wlk)
    | (with_reducible refine wpList_storeV (w := w2) (by with_unfolding_all rfl) 66 (.tmp 2) (.tmp 9) (by with_unfolding_all rfl) w1.heap.size (wvs 0 0) (wvs (f / 2) (s / 2)) (by with_unfolding_all rfl) (by with_unfolding_all rfl) hA2 2 Tryd.sizeW (by with_unfolding_all rfl) (by with_unfolding_all rfl) (wvs_one _ _) ?_; intro w3 hA3 hB3 hF3 hS3))
  refine bodyPost_ret (results_V (t := 66) rfl _ w1.heap.size _ (by with_unfolding_all rfl) hA3 Tryd.undW 2 Tryd.sizeW rfl) rfl ⟨rfl, (hB1.trans (hB2.mono (by omega))).trans ((hB3 w1.heap.size (Nat.le_refl _)).mono (by omega))⟩
def rgB (f s : Nat) : Bool := f % 2 == 1 || f == s
set_option maxRecDepth 100000 in
set_option maxHeartbeats 1000000 in
theorem metI (f s : Nat) (w : World) (hf : f ≤ 1099511627776) (hs : s ≤ 1099511627776) :
    Calls Tryd.prog 58 #[.agg #[.int .i64 (f : Int), .int .i64 (s : Int)]] w fun e w' => e = .returned (.bool (rgB f s)) ∧ Below w.heap.size w w' := by
  by_cases h1 : f % 2 = 1
  · have HR : Hid (rgB f s = true) := by show _ = _; unfold rgB; rw [beq_iff_eq.2 h1]; rfl
    have d5 : ((f : Int) % 2 == 1) = true := beq_iff_eq.2 (by omega)
    clear h1
    go_enter Tryd.func58, Tryd.ntmps58
    go_wp2_with (first
      | (with_reducible refine wpList_boxV (w := w) (by with_unfolding_all rfl) 66 (.tmp 0) (by with_unfolding_all rfl) (wvs f s) (by with_unfolding_all rfl) ?_; intro w1 hA1 hB1 hS1; obtain ⟨p0, p1⟩ := hA1.wlk))
    go_ret
    exact ⟨retY HR.out.symm, hB1⟩
  have d5 : ((f : Int) % 2 == 1) = false := beq_eq_false_iff_ne.2 (by omega)
  by_cases h2 : f = s
  · have HR : Hid (rgB f s = true) := by show _ = _; unfold rgB; rw [beq_iff_eq.2 h2, Bool.or_true]
    have d6 : ((f : Int) == (s : Int)) = true := beq_iff_eq.2 (by omega)
    clear h1 h2
    go_enter Tryd.func58, Tryd.ntmps58
    go_wp2_with (first
      | (with_reducible refine wpList_boxV (w := w) (by with_unfolding_all rfl) 66 (.tmp 0) (by with_unfolding_all rfl) (wvs f s) (by with_unfolding_all rfl) ?_; intro w1 hA1 hB1 hS1; obtain ⟨p0, p1⟩ := hA1.wlk))
    go_ret
    exact ⟨retY HR.out.symm, hB1⟩
  · have HR : Hid (rgB f s = false) := by show _ = _; unfold rgB; rw [beq_eq_false_iff_ne.2 h1, beq_eq_false_iff_ne.2 h2]; rfl
    have d6 : ((f : Int) == (s : Int)) = false := beq_eq_false_iff_ne.2 (by omega)
    clear h1 h2
    go_enter Tryd.func58, Tryd.ntmps58
    go_wp2_with (first
      | (with_reducible refine wpList_boxV (w := w) (by with_unfolding_all rfl) 66 (.tmp 0) (by with_unfolding_all rfl) (wvs f s) (by with_unfolding_all rfl) ?_; intro w1 hA1 hB1 hS1; obtain ⟨p0, p1⟩ := hA1.wlk))
    go_ret
    exact ⟨retY HR.out.symm, hB1⟩
end Go.Proofs.YtoaoaagfnkpkdaaDoor
namespace Go.Proofs.YtoaoaagfnkpkdaaDoor
open Go.RowKit
set_option linter.unusedVariables false

theorem nx_up (f s : Nat) : Mer.nx f s = if f = s then ((dn f s).1 / 2, (dn f s).2 / 2) else (f / 2, s / 2) := by
  by_cases h : f = s
  · rw [if_pos h, nx_right (rgt_same h)]
  · rw [if_neg h]
    by_cases ho : f % 2 = 1
    · rw [nx_right (rgt_odd ho), dn_stop (Or.inl ho)]
    · rw [nx_left (rgt_not ho h)]
theorem dn_le : ∀ (n f s : Nat), f ≤ n → (dn f s).1 ≤ f ∧ (dn f s).2 ≤ s
  | 0, f, s, h => by
    have : f = 0 := by omega
    subst this
    rw [dn_stop (Or.inr rfl)]
    exact ⟨Nat.le_refl _, Nat.le_refl _⟩
  | n + 1, f, s, h => by
    by_cases e : f % 2 = 0 ∧ f ≠ 0
    · rw [dn_go e.1 e.2]
      have := dn_le n (f / 2) (s / 2) (by omega)
      omega
    · rw [dn_stop (by omega)]
      exact ⟨Nat.le_refl _, Nat.le_refl _⟩
theorem nx_le (f s : Nat) : (Mer.nx f s).1 ≤ f ∧ (Mer.nx f s).2 ≤ s := by
  rw [nx_up]
  have := dn_le f f s (Nat.le_refl _)
  by_cases h : f = s
  · rw [if_pos h]
    dsimp only
    omega
  · rw [if_neg h]
    dsimp only
    omega
def wm (w : World) (g : Nat) : Nat := (intOf ((w.cell? ⟨g, 0, none⟩).getD undef)).toNat
theorem wm_eq {w : World} {g f s : Nat} (h : RowV w g (wvs f s)) : wm w g = f := by
  unfold wm
  rw [h.wlk.1]
  simp [intOf]
/- What stands while the walk goes up. -/
structure KpW (w : World) (g1 g2 f s : Nat) (w' : World) : Prop where
  below : Below w.heap.size w w'
  v1 : RowV w' g1 (wvs f s)
  v2 : RowV w' g2 (wvs 0 0)
  lo : w.heap.size ≤ g1
  lt : g1 < g2
  up : g2 < w'.heap.size
theorem KpW.call {w w' w2 : World} {g1 g2 f s : Nat} (h : Hid (KpW w g1 g2 f s w')) (hb : Below w'.heap.size w' w2) : Hid (KpW w g1 g2 f s w2) :=
  ⟨h.out.below.trans (hb.mono h.out.below.size), h.out.v1.below hb (by have := h.out.lt; have := h.out.up; omega), h.out.v2.below hb h.out.up, h.out.lo, h.out.lt, Nat.lt_of_lt_of_le h.out.up hb.size⟩
theorem KpW.put {w w' w2 : World} {g1 g2 f s f2 s2 : Nat} (h : Hid (KpW w g1 g2 f s w')) (hv : RowV w2 g1 (wvs f2 s2)) (hb : ∀ B, B ≤ g1 → Below B w' w2) (hf : ∀ x : Addr, x.block ≠ g1 → w2.cell? x = w'.cell? x ∧ w2.frozen? x = w'.frozen? x) (hz : w2.heap.size = w'.heap.size) : Hid (KpW w g1 g2 f2 s2 w2) :=
  ⟨h.out.below.trans (hb _ h.out.lo), hv, h.out.v2.same (fun k => hf ⟨g2, k, none⟩ (by show g2 ≠ g1; have := h.out.lt; omega)), h.out.lo, h.out.lt, by rw [hz]; exact h.out.up⟩
set_option maxRecDepth 100000 in
set_option maxHeartbeats 1000000 in
theorem aboveI (f s : Nat) (w : World) (hf : f ≤ 1099511627776) (hs : s ≤ 1099511627776) :
    Calls Tryd.prog 59 #[.agg #[.int .i64 (f : Int), .int .i64 (s : Int)]] w fun e w' => e = .returned (.agg #[.int .i64 ((Mer.nx f s).1 : Int), .int .i64 ((Mer.nx f s).2 : Int)]) ∧ Below w.heap.size w w' := by
  have hH : ∀ (f s : Nat) w0, f ≤ 1099511627776 → s ≤ 1099511627776 → Calls Tryd.prog 89 #[.agg #[.int .i64 (f : Int), .int .i64 (s : Int)]] w0 fun e w' => e = .returned (.agg #[.int .i64 ((f / 2 : Nat) : Int), .int .i64 ((s / 2 : Nat) : Int)]) ∧ Below w0.heap.size w0 w' := fun f s w0 h1 h2 => halvedI f s w0 h1 h2
  rw [nx_up]
  by_cases hsame : f = s
  · rw [if_pos hsame]
    obtain ⟨F, S, hFS⟩ : ∃ F S, dn f s = (F, S) := ⟨_, _, rfl⟩
    have HD : Hid (dn f s = (F, S)) := hFS
    rw [hFS]
    have d6 : ((f : Int) == (s : Int)) = true := beq_iff_eq.2 (by omega)
    clear hsame hFS
    go_enter Tryd.func59, Tryd.ntmps59
    go_wp2_with (first
      | (with_reducible refine wpList_boxV (w := w) (by with_unfolding_all rfl) 66 (.tmp 0) (by with_unfolding_all rfl) (wvs f s) (by with_unfolding_all rfl) ?_; intro w1 hA1 hB1 hS1; have z1 : w.heap.size < w1.heap.size := (by omega); clear hS1)
      | (with_reducible refine wpList_allocV (w := w1) (by with_unfolding_all rfl) 66 (by with_unfolding_all rfl) (wvs 0 0) Tryd.infoW ?_; intro w2 hA2 hB2 hS2; have z2 : w1.heap.size < w2.heap.size := (by omega); clear hS2; obtain ⟨p0, p1⟩ := (hA1.below hB2 (by omega)).wlk))
    have HW : Hid (KpW w w.heap.size w1.heap.size f s w2) := KpW.mk (hB1.trans (hB2.mono (by omega))) (hA1.below hB2 (by omega)) hA2 (Nat.le_refl _) z1 z2
    generalize w1.heap.size = g2 at *
    clear hA1 hA2 hB1 hB2 p0 p1 z2 d6
    go_loopw [] (fun wr => ∃ (f' s' : Nat), f' ≤ 1099511627776 ∧ s' ≤ 1099511627776 ∧ Hid (dn f' s' = (F, S)) ∧ Hid (KpW w w.heap.size g2 f' s' wr)) (fun wr => wm wr w.heap.size)
    case atStart => exact ⟨f, s, hf, hs, HD, HW⟩
    case round =>
      clear HD HW hf hs
      obtain ⟨f', s', hf', hs', HD', HW'⟩ := hrel
      have hmeas : wm wr w.heap.size = f' := wm_eq HW'.out.v1
      obtain ⟨p0, p1⟩ := HW'.out.v1.wlk
      have hH1 : ∀ w0, Calls Tryd.prog 89 #[.agg #[.int .i64 (f' : Int), .int .i64 (s' : Int)]] w0 fun e w' => e = .returned (.agg #[.int .i64 ((f' / 2 : Nat) : Int), .int .i64 ((s' / 2 : Nat) : Int)]) ∧ Below w0.heap.size w0 w' := fun w0 => hH f' s' w0 hf' hs'
      clear hH
      have HM : Hid (wm wr w.heap.size = f') := hmeas
      clear hmeas
      by_cases e1 : f' % 2 = 0 ∧ f' ≠ 0
      · as_aux_lemma =>
        have t1 : ((f' : Int) % 2 == 0) = true := beq_iff_eq.2 (by omega)
        have t2 : decide ((0 : Int) < (f' : Int)) = true := decide_eq_true (by omega)
        have t3 : decide (0 < f') = true := decide_eq_true (by omega)
        have HE : Hid (dn (f' / 2) (s' / 2) = (F, S)) := by have := HD'.out; rw [dn_go e1.1 e1.2] at this; exact this
        have HP : Hid (0 < f') := Nat.pos_of_ne_zero e1.2
        clear HD' e1
        go_wp2_with (first
          | (go_at_call 89; refine (hH1 _).mono ?_; rintro e w3 ⟨rfl, hB3⟩; have HW3 := KpW.call HW' hB3)
          | (with_reducible refine wpList_storeV (w := w3) (by with_unfolding_all rfl) 66 (.tmp 1) (.tmp 18) (by with_unfolding_all rfl) w.heap.size (wvs f' s') (wvs (f' / 2) (s' / 2)) (by with_unfolding_all rfl) (by with_unfolding_all rfl) HW3.out.v1 2 Tryd.sizeW (by with_unfolding_all rfl) (by with_unfolding_all rfl) (wvs_one _ _) ?_; intro w4 hA4 hB4 hF4 hS4; have HW4 := KpW.put HW3 hA4 hB4 hF4 hS4; clear hS4))
        simp only [Act.put]
        go_roundw
        case rel => exact ⟨f' / 2, s' / 2, by omega, by omega, HE, HW4⟩
        case measure =>
          rw [HM.out, wm_eq HW4.out.v1]
          have := HP.out
          omega
      · as_aux_lemma =>
        have HE : Hid (f' = F ∧ s' = S) := by have := HD'.out; rw [dn_stop (by omega)] at this; injection this with a1 a2; exact ⟨a1, a2⟩
        clear HD' HM
        by_cases e2 : f' % 2 = 0
        · have t1 : ((f' : Int) % 2 == 0) = true := beq_iff_eq.2 (by omega)
          have t2 : decide ((0 : Int) < (f' : Int)) = false := decide_eq_false (by omega)
          have t3 : decide (0 < f') = false := decide_eq_false (by omega)
          clear e1 e2
          go_wp2_with (first
            | (go_at_call 89; refine (hH1 _).mono ?_; rintro e w3 ⟨rfl, hB3⟩; have HW3 := KpW.call HW' hB3)
            | (with_reducible refine wpList_storeV (w := w3) (by with_unfolding_all rfl) 66 (.tmp 2) (.tmp 20) (by with_unfolding_all rfl) g2 (wvs 0 0) (wvs (f' / 2) (s' / 2)) (by with_unfolding_all rfl) (by with_unfolding_all rfl) HW3.out.v2 2 Tryd.sizeW (by with_unfolding_all rfl) (by with_unfolding_all rfl) (wvs_one _ _) ?_; intro w4 hA4 hB4 hF4 hS4; clear hS4))
          refine bodyPost_ret (results_V (t := 66) rfl _ g2 _ (by with_unfolding_all rfl) hA4 Tryd.undW 2 Tryd.sizeW rfl) rfl ⟨?_, HW3.out.below.trans (hB4 _ (by omega))⟩
          rw [← HE.out.1, ← HE.out.2]
          rfl
        · have t1 : ((f' : Int) % 2 == 0) = false := beq_eq_false_iff_ne.2 (by omega)
          clear e1 e2
          go_wp2_with (first
            | (go_at_call 89; refine (hH1 _).mono ?_; rintro e w3 ⟨rfl, hB3⟩; have HW3 := KpW.call HW' hB3)
            | (with_reducible refine wpList_storeV (w := w3) (by with_unfolding_all rfl) 66 (.tmp 2) (.tmp 20) (by with_unfolding_all rfl) g2 (wvs 0 0) (wvs (f' / 2) (s' / 2)) (by with_unfolding_all rfl) (by with_unfolding_all rfl) HW3.out.v2 2 Tryd.sizeW (by with_unfolding_all rfl) (by with_unfolding_all rfl) (wvs_one _ _) ?_; intro w4 hA4 hB4 hF4 hS4; clear hS4))
          refine bodyPost_ret (results_V (t := 66) rfl _ g2 _ (by with_unfolding_all rfl) hA4 Tryd.undW 2 Tryd.sizeW rfl) rfl ⟨?_, HW3.out.below.trans (hB4 _ (by omega))⟩
          rw [← HE.out.1, ← HE.out.2]
          rfl
  · rw [if_neg hsame]
    have d6 : ((f : Int) == (s : Int)) = false := beq_eq_false_iff_ne.2 (by omega)
    have hH1 : ∀ w0, Calls Tryd.prog 89 #[.agg #[.int .i64 (f : Int), .int .i64 (s : Int)]] w0 fun e w' => e = .returned (.agg #[.int .i64 ((f / 2 : Nat) : Int), .int .i64 ((s / 2 : Nat) : Int)]) ∧ Below w0.heap.size w0 w' := fun w0 => hH f s w0 hf hs
    clear hsame hH
    go_enter Tryd.func59, Tryd.ntmps59
    go_wp2_with (first
      | (with_reducible refine wpList_boxV (w := w) (by with_unfolding_all rfl) 66 (.tmp 0) (by with_unfolding_all rfl) (wvs f s) (by with_unfolding_all rfl) ?_; intro w1 hA1 hB1 hS1; have z1 : w.heap.size < w1.heap.size := (by omega); clear hS1)
      | (with_reducible refine wpList_allocV (w := w1) (by with_unfolding_all rfl) 66 (by with_unfolding_all rfl) (wvs 0 0) Tryd.infoW ?_; intro w2 hA2 hB2 hS2; have z2 : w1.heap.size < w2.heap.size := (by omega); clear hS2; obtain ⟨p0, p1⟩ := (hA1.below hB2 (by omega)).wlk)
      | (go_at_call 89; refine (hH1 _).mono ?_; rintro e w3 ⟨rfl, hB3⟩; have V3 := hA2.below hB3 z2)
      | (with_reducible refine wpList_storeV (w := w3) (by with_unfolding_all rfl) 66 (.tmp 2) (.tmp 20) (by with_unfolding_all rfl) w1.heap.size (wvs 0 0) (wvs (f / 2) (s / 2)) (by with_unfolding_all rfl) (by with_unfolding_all rfl) V3 2 Tryd.sizeW (by with_unfolding_all rfl) (by with_unfolding_all rfl) (wvs_one _ _) ?_; intro w4 hA4 hB4 hF4 hS4; clear hS4))
    refine bodyPost_ret (results_V (t := 66) rfl _ w1.heap.size _ (by with_unfolding_all rfl) hA4 Tryd.undW 2 Tryd.sizeW rfl) rfl ⟨rfl, ((hB1.trans (hB2.mono (by omega))).trans (hB3.mono (by omega))).trans (hB4 _ (by omega))⟩
end Go.Proofs.YtoaoaagfnkpkdaaDoor
namespace Go.Proofs.YtoaoaagfnkpkdaaDoor
open Go.RowKit
set_option linter.unusedVariables false

def okPr (l : List ByteArray) : Bool := decide (l.length ≤ 400) && okHs l
set_option maxRecDepth 100000 in
set_option maxHeartbeats 1000000 in
theorem proofRI (a : Option Addr) (c n : Nat) (l : List ByteArray) (w : World) (hn : l.length = n) (h : SA w a l) (hM : n ≤ 1000000000) (hx : ∀ x ∈ l, x.size ≤ maxLen) :
    Calls Tryd.prog 55 #[.slice a n c] w fun e w' => e = .returned (.bool (okPr l)) ∧ w = w' := by
  have HA : Hid (SA w a l) := h
  have HN : Hid (l.length = n) := hn
  have HX : Hid (∀ x ∈ l, x.size ≤ maxLen) := hx
  clear h hn hx
  by_cases hb : 400 < n
  · have HR : Hid (okPr l = false) := by show _ = _; unfold okPr; rw [decide_eq_false (by have := HN.out; omega), Bool.false_and]
    have d1 : decide ((400 : Int) < n) = true := decide_eq_true (by omega)
    go_enter Tryd.func55, Tryd.ntmps55
    go_wp2
    go_ret
    exact ⟨retY HR.out.symm, rfl⟩
  · have d1 : decide ((400 : Int) < n) = false := decide_eq_false (by omega)
    have HP : Hid (okPr l = okHs l) := by show _ = _; unfold okPr; rw [decide_eq_true (by have := HN.out; omega), Bool.true_and]
    have hH : ∀ (x : ByteArray) w0, x.size = 32 → Calls Tryd.prog 56 #[.string x] w0 fun e w' => e = .returned (.bool true) ∧ w0 = w' := fun x w0 h => ownH32 x w0 h
    have hH' : ∀ (x : ByteArray) w0, ¬ x.size = 32 → x.size ≤ maxLen → Calls Tryd.prog 56 #[.string x] w0 fun e w' => e = .returned (.bool false) ∧ w0 = w' := fun x w0 h hm => ownH32' x w0 h hm
    go_enter Tryd.func55, Tryd.ntmps55
    go_wp2_with fail
    go_loop [10] (fun vi => ∃ k : Nat, vi = .int .i64 (k : Int) ∧ k ≤ n ∧ Hid (∀ x ∈ l.take k, x.size = 32)) (fun vi => n - (intOf vi).toNat)
    case atStart => exact ⟨0, rfl, Nat.zero_le _, fun x h => by simp at h⟩
    case round =>
      obtain ⟨k, rfl, hk, HT⟩ := hrel
      by_cases hlt : k < n
      · have hkl : k < l.length := by have := HN.out; omega
        obtain ⟨b, o, rfl, hc⟩ := HA.out k hkl
        have hxs := HX.out l[k] (List.getElem_mem hkl)
        have HM : Hid (l[k] ∈ l) := List.getElem_mem hkl
        have HT2 : Hid (l[k].size = 32 → ∀ x ∈ l.take (k + 1), x.size = 32) := fun hz x hx => by
          rw [List.take_succ_eq_append_getElem hkl] at hx
          rcases List.mem_append.1 hx with h1 | h1
          · exact HT.out x h1
          · rw [List.mem_singleton.1 h1]; exact hz
        generalize l[k] = x at *
        have lk : (k : Int) < n := by omega
        have l0 : (0 : Int) ≤ k := by omega
        clear hkl HT
        by_cases hz : x.size = 32
        · have HT3 : Hid (∀ x ∈ l.take (k + 1), x.size = 32) := HT2.out hz
          have hH1 : ∀ w0, Calls Tryd.prog 56 #[.string x] w0 fun e w' => e = .returned (.bool true) ∧ w0 = w' := fun w0 => hH x w0 hz
          clear HT2 hz hH hH'
          go_wp2_with (go_at_call 56; refine (hH1 _).mono ?_; rintro e w' ⟨rfl, rfl⟩)
          exact ⟨⟨k + 1, by go_num, hlt, HT3⟩, by simp [intOf]; omega⟩
        · have HR : Hid (okPr l = false) := by show _ = _; rw [HP.out]; exact okHs_no (fun e => hz (e x HM.out))
          have hH1 : ∀ w0, Calls Tryd.prog 56 #[.string x] w0 fun e w' => e = .returned (.bool false) ∧ w0 = w' := fun w0 => hH' x w0 hz hxs
          clear HT2 HM hz hH hH' hxs
          go_wp2_with (go_at_call 56; refine (hH1 _).mono ?_; rintro e w' ⟨rfl, rfl⟩)
          go_ret
          exact ⟨retY HR.out.symm, rfl⟩
      · obtain rfl : k = n := by omega
        have HR : Hid (okPr l = true) := by
          show _ = _
          rw [HP.out]
          exact okHs_yes (by
            have := HT.out
            rw [List.take_of_length_le (by have := HN.out; omega)] at this
            exact this)
        clear HT
        go_wp2
        go_ret
        exact ⟨retY HR.out.symm, rfl⟩
theorem sizeRI (n : Int) (w : World) :
    Calls Tryd.prog 57 #[.int .i64 n] w fun e w' => e = .returned (.bool (decide (1 ≤ n ∧ n ≤ 1099511627776))) ∧ w = w' := by
  by_cases h1 : 1 ≤ n
  · have d1 : decide (1 ≤ n) = true := decide_eq_true h1
    by_cases h2 : n ≤ 1099511627776
    · have d2 : decide (n ≤ 1099511627776) = true := decide_eq_true h2
      rw [decide_eq_true ⟨h1, h2⟩]
      go_enter Tryd.func57, Tryd.ntmps57
      go_wp2
      go_ret
      exact ⟨rfl, rfl⟩
    · have d2 : decide (n ≤ 1099511627776) = false := decide_eq_false h2
      rw [decide_eq_false (fun h => h2 h.2)]
      go_enter Tryd.func57, Tryd.ntmps57
      go_wp2
      go_ret
      exact ⟨rfl, rfl⟩
  · have d1 : decide (1 ≤ n) = false := decide_eq_false h1
    rw [decide_eq_false (fun h => h1 h.1)]
    go_enter Tryd.func57, Tryd.ntmps57
    go_wp2
    go_ret
    exact ⟨rfl, rfl⟩
/- What stands at the head of a round of the check: the walk's places, the proof, the table of rounds. -/
structure KpC (w : World) (a : Option Addr) (ps : List ByteArray) (f s : Nat) (w' : World) : Prop where
  below : Below w.heap.size w w'
  v : RowV w' w.heap.size (wvs f s)
  sa : SA w' a ps
  arr : ArrU w' 0 keys
  pos : 0 < w'.heap.size
  up : w.heap.size < w'.heap.size
theorem KpC.call {w w' w2 : World} {a : Option Addr} {ps : List ByteArray} {f s : Nat} (h : Hid (KpC w a ps f s w')) (hb : Below w'.heap.size w' w2) : Hid (KpC w a ps f s w2) :=
  ⟨h.out.below.trans (hb.mono h.out.below.size), h.out.v.below hb h.out.up, h.out.sa.below hb, h.out.arr.below hb h.out.pos, Nat.lt_of_lt_of_le h.out.pos hb.size, Nat.lt_of_lt_of_le h.out.up hb.size⟩
theorem SA.old {w w' w2 : World} {a : Option Addr} {l : List ByteArray} (h : SA w a l) (hb : Below w.heap.size w w') : SA w' a l := h.below hb
theorem KpC.put {w w' w2 : World} {a : Option Addr} {ps : List ByteArray} {f s f2 s2 : Nat} (h : Hid (KpC w a ps f s w')) (hA : Hid (SA w a ps)) (hk : Hid (ArrU w 0 keys)) (h0 : 0 < w.heap.size) (hv : RowV w2 w.heap.size (wvs f2 s2)) (hb : ∀ B, B ≤ w.heap.size → Below B w' w2) (hz : w2.heap.size = w'.heap.size) : Hid (KpC w a ps f2 s2 w2) := by
  have b : Below w.heap.size w w2 := h.out.below.trans (hb _ (Nat.le_refl _))
  exact ⟨b, hv, hA.out.below b, hk.out.below b h0, by rw [hz]; exact h.out.pos, by rw [hz]; exact h.out.up⟩
theorem IncAt.rightN {leaf root r p : ByteArray} {i n : Int} {ps : List ByteArray} {k f s : Nat} (h : IncAt leaf root i n ps k f s r) (hk : k < ps.length) (hp : ps[k] = p) (hs : s ≠ 0) (hr : Mer.rgt f s = true) : IncAt leaf root i n ps (k + 1) (Mer.nx f s).1 (Mer.nx f s).2 (nodeD p r) := by
  have := h.right hk hp hs hr
  rw [nx_right hr]
  exact this
theorem IncAt.leftN {leaf root r p : ByteArray} {i n : Int} {ps : List ByteArray} {k f s : Nat} (h : IncAt leaf root i n ps k f s r) (hk : k < ps.length) (hp : ps[k] = p) (hs : s ≠ 0) (hr : Mer.rgt f s = false) : IncAt leaf root i n ps (k + 1) (Mer.nx f s).1 (Mer.nx f s).2 (nodeD r p) := by
  have := h.left hk hp hs hr
  rw [nx_left hr]
  exact this
set_option maxRecDepth 100000 in
set_option maxHeartbeats 2000000 in
theorem incI0 (leaf root : ByteArray) (i n : Int) (a : Option Addr) (c m : Nat) (ps : List ByteArray) (w : World) (hm : ps.length = m) (hA : SA w a ps)
    (h : leaf.size = 32 ∧ root.size = 32 ∧ ps.length ≤ 400 ∧ okHs ps = true ∧ 1 ≤ n ∧ n ≤ 1099511627776 ∧ 0 ≤ i ∧ i < n) (hk : ArrU w 0 keys) (h0 : 0 < w.heap.size) :
    Calls Tryd.prog 20 #[.string leaf, .int .i64 i, .int .i64 n, .slice a m c, .string root] w fun e w' => e = .returned (.bool (incB leaf i n ps root)) ∧ Below w.heap.size w w' := by
  have hst : IncAt leaf root i n ps 0 i.toNat (n.toNat - 1) leaf := ⟨by rw [incB_yes h]; rfl, h.1⟩
  obtain ⟨h1, h2, h3, h4, h5, h6, h7, h8⟩ := h
  have hH1 : ∀ w0, Calls Tryd.prog 56 #[.string leaf] w0 fun e w' => e = .returned (.bool true) ∧ w0 = w' := fun w0 => ownH32 leaf w0 h1
  have hH2 : ∀ w0, Calls Tryd.prog 56 #[.string root] w0 fun e w' => e = .returned (.bool true) ∧ w0 = w' := fun w0 => ownH32 root w0 h2
  have HH3 : Hid (Calls Tryd.prog 55 #[.slice a m c] w fun e w' => e = .returned (.bool true) ∧ w = w') := by
    have := proofRI a c m ps w hm hA (by omega) (fun x hx => by rw [okHs_of h4 x hx]; decide)
    rw [show okPr ps = true by unfold okPr; rw [decide_eq_true h3, h4]; rfl] at this
    exact this
  have hH4 : ∀ w0, Calls Tryd.prog 57 #[.int .i64 n] w0 fun e w' => e = .returned (.bool true) ∧ w0 = w' := fun w0 => by
    have := sizeRI n w0
    rw [decide_eq_true ⟨h5, h6⟩] at this
    exact this
  have HP : Hid (∀ k (hk : k < ps.length), ps[k].size = 32) := fun k hk => okHs_of h4 _ (List.getElem_mem hk)
  have HA : Hid (SA w a ps) := hA
  have HM : Hid (ps.length = m) := hm
  have HK : Hid (ArrU w 0 keys) := hk
  have hmb : m ≤ 400 := by omega
  obtain ⟨f0, rfl⟩ := Int.eq_ofNat_of_zero_le h7
  obtain ⟨n0, rfl⟩ := Int.eq_ofNat_of_zero_le (show 0 ≤ n by omega)
  have HS : Hid (IncAt leaf root f0 n0 ps 0 f0 (n0 - 1) leaf) := hst
  have es : (n0 : Int) - 1 = ((n0 - 1 : Nat) : Int) := by omega
  obtain ⟨n1, hn1⟩ : ∃ n1, n0 - 1 = n1 := ⟨_, rfl⟩
  rw [hn1] at HS es
  have hn1' : n1 ≤ 1099511627776 := by omega
  obtain ⟨R, hR⟩ : ∃ R, incB leaf f0 n0 ps root = R := ⟨_, rfl⟩
  rw [hR]
  have HR : Hid (incB leaf f0 n0 ps root = R) := hR
  have hf0 : f0 ≤ 1099511627776 := by omega
  clear hst hA hm h3 h4 hR hk hn1
  have g3 : decide ((f0 : Int) < 0) = false := decide_eq_false (by omega)
  have g4 : decide (n0 ≤ f0) = false := decide_eq_false (by omega)
  have g5 : decide ((n0 : Int) ≤ (f0 : Int)) = false := decide_eq_false (by omega)
  go_enter Tryd.func20, Tryd.ntmps20
  go_wp2_with (first
    | (go_at_call 55; refine Calls.mono HH3.out ?_; rintro e w' ⟨rfl, rfl⟩)
    | (go_at_call 56; with_reducible refine (hH1 _).mono ?_; rintro e w' ⟨rfl, rfl⟩)
    | (go_at_call 56; with_reducible refine (hH2 _).mono ?_; rintro e w' ⟨rfl, rfl⟩)
    | (go_at_call 57; refine (hH4 _).mono ?_; rintro e w' ⟨rfl, rfl⟩)
    | (with_reducible refine wpList_allocV (w := w) (by with_unfolding_all rfl) 66 (by with_unfolding_all rfl) (wvs 0 0) Tryd.infoW ?_; intro w1 hA1 hB1 hS1; have z1 : w.heap.size < w1.heap.size := (by omega); clear hS1)
    | (with_reducible refine wpList_storeV (w := w1) (by with_unfolding_all rfl) 66 (.tmp 11) (.tmp 43) (by with_unfolding_all rfl) w.heap.size (wvs 0 0) (wvs f0 n1) (by with_unfolding_all rfl) (by with_unfolding_all rfl) hA1 2 Tryd.sizeW (by with_unfolding_all rfl) (by with_unfolding_all rfl) (wvs_one _ _) ?_; intro w2 hA2 hB2 hF2 hS2))
  have HC : Hid (KpC w a ps f0 n1 w2) := by
    have b : Below w.heap.size w w2 := hB1.trans (hB2 _ (Nat.le_refl _))
    exact ⟨b, hA2, HA.out.below b, HK.out.below b h0, by omega, by omega⟩
  clear hA1 hB1 z1 hA2 hB2 hF2 hS2 es HH3 hH1 hH2 hH4 g3 g4 g5
  go_loopw [12, 47] (fun vr vi wr => ∃ (k f s : Nat) (r : ByteArray), vi = .int .i64 (k : Int) ∧ vr = .string r ∧ k ≤ m ∧ f ≤ 1099511627776 ∧ s ≤ 1099511627776 ∧ Hid (IncAt leaf root f0 n0 ps k f s r) ∧ Hid (KpC w a ps f s wr)) (fun _ vi _ => m - (intOf vi).toNat)
  case atStart => exact ⟨0, f0, n1, leaf, rfl, rfl, Nat.zero_le _, hf0, hn1', HS, HC⟩
  case round =>
    clear HS HC hf0 hn1'
    obtain ⟨k, f, s, r, rfl, rfl, hk, hf, hs, HI, HC⟩ := hrel
    have hrs := HI.out.rs
    obtain ⟨p0, p1⟩ := HC.out.v.wlk
    by_cases hlt : k < m
    · have hkl : k < ps.length := by have := HM.out; omega
      obtain ⟨b, o, rfl, hc⟩ := HC.out.sa k hkl
      have hps := HP.out k hkl
      have HI2 : Hid (∀ (e1 : s ≠ 0) (e2 : Mer.rgt f s = true), IncAt leaf root f0 n0 ps (k + 1) (Mer.nx f s).1 (Mer.nx f s).2 (nodeD ps[k] r)) := fun e1 e2 => HI.out.rightN hkl rfl e1 e2
      have HI3 : Hid (∀ (e1 : s ≠ 0) (e2 : Mer.rgt f s = false), IncAt leaf root f0 n0 ps (k + 1) (Mer.nx f s).1 (Mer.nx f s).2 (nodeD r ps[k])) := fun e1 e2 => HI.out.leftN hkl rfl e1 e2
      have HI4 : Hid (s = 0 → incB leaf f0 n0 ps root = false) := fun e => by have := HI.out; rw [e] at this; exact this.stop hkl
      generalize ps[k] = p at *
      have lk : (k : Int) < m := by omega
      have l0 : (0 : Int) ≤ k := by omega
      clear hkl HI
      by_cases hs0 : s = 0
      · as_aux_lemma =>
        have HF : Hid (R = false) := by show _ = _; rw [← HR.out]; exact HI4.out hs0
        subst hs0
        clear HI2 HI3 HI4
        go_wp2
        go_ret
        exact ⟨retY HF.out.symm, HC.out.below⟩
      have d0 : ((s : Int) == 0) = false := beq_eq_false_iff_ne.2 (by omega)
      cases hr : Mer.rgt f s
      · as_aux_lemma =>
        have HI5 : Hid (IncAt leaf root f0 n0 ps (k + 1) (Mer.nx f s).1 (Mer.nx f s).2 (nodeD r p)) := HI3.out hs0 hr
        have hM : ∀ w0, Calls Tryd.prog 58 #[.agg #[.int .i64 (f : Int), .int .i64 (s : Int)]] w0 fun e w' => e = .returned (.bool false) ∧ Below w0.heap.size w0 w' := fun w0 => by
          have := metI f s w0 hf hs
          rw [show rgB f s = false from hr] at this
          exact this
        have hN : ∀ w0, Hid (KpC w (some ⟨b, o, none⟩) ps f s w0) → Calls Tryd.prog 33 #[.string r, .string p] w0 fun e w' => e = .returned (.string (nodeD r p)) ∧ Below w0.heap.size w0 w' := fun w0 h => nodeI32 r p w0 hrs hps h.out.arr h.out.pos
        have hU : ∀ w0, Calls Tryd.prog 59 #[.agg #[.int .i64 (f : Int), .int .i64 (s : Int)]] w0 fun e w' => e = .returned (.agg #[.int .i64 ((Mer.nx f s).1 : Int), .int .i64 ((Mer.nx f s).2 : Int)]) ∧ Below w0.heap.size w0 w' := fun w0 => aboveI f s w0 hf hs
        have hle := nx_le f s
        generalize (Mer.nx f s).1 = f2 at *
        generalize (Mer.nx f s).2 = s2 at *
        generalize nodeD r p = q at *
        clear HI2 HI3 HI4 hr hs0
        go_wp2_with (first
          | (go_at_call 58; refine (hM _).mono ?_; rintro e w3 ⟨rfl, hB3⟩; have HC3 := KpC.call HC hB3)
          | (go_at_call 33; refine (hN _ HC3).mono ?_; rintro e w4 ⟨rfl, hB4⟩; have HC4 := KpC.call HC3 hB4; obtain ⟨q0, q1⟩ := HC4.out.v.wlk)
          | (go_at_call 59; refine (hU _).mono ?_; rintro e w5 ⟨rfl, hB5⟩; have HC5 := KpC.call HC4 hB5)
          | (with_reducible refine wpList_storeV (w := w5) (by with_unfolding_all rfl) 66 (.tmp 11) (.tmp 63) (by with_unfolding_all rfl) w.heap.size (wvs f s) (wvs f2 s2) (by with_unfolding_all rfl) (by with_unfolding_all rfl) HC5.out.v 2 Tryd.sizeW (by with_unfolding_all rfl) (by with_unfolding_all rfl) (wvs_one _ _) ?_; intro w6 hA6 hB6 hF6 hS6; have HC6 := KpC.put HC5 HA HK h0 hA6 hB6 hS6; clear hS6))
        go_roundw
        case rel => exact ⟨k + 1, f2, s2, q, by go_num, rfl, hlt, by omega, by omega, HI5, HC6⟩
        case measure => simp [intOf]; omega
      · as_aux_lemma =>
        have HI5 : Hid (IncAt leaf root f0 n0 ps (k + 1) (Mer.nx f s).1 (Mer.nx f s).2 (nodeD p r)) := HI2.out hs0 hr
        have hM : ∀ w0, Calls Tryd.prog 58 #[.agg #[.int .i64 (f : Int), .int .i64 (s : Int)]] w0 fun e w' => e = .returned (.bool true) ∧ Below w0.heap.size w0 w' := fun w0 => by
          have := metI f s w0 hf hs
          rw [show rgB f s = true from hr] at this
          exact this
        have hN : ∀ w0, Hid (KpC w (some ⟨b, o, none⟩) ps f s w0) → Calls Tryd.prog 33 #[.string p, .string r] w0 fun e w' => e = .returned (.string (nodeD p r)) ∧ Below w0.heap.size w0 w' := fun w0 h => nodeI32 p r w0 hps hrs h.out.arr h.out.pos
        have hU : ∀ w0, Calls Tryd.prog 59 #[.agg #[.int .i64 (f : Int), .int .i64 (s : Int)]] w0 fun e w' => e = .returned (.agg #[.int .i64 ((Mer.nx f s).1 : Int), .int .i64 ((Mer.nx f s).2 : Int)]) ∧ Below w0.heap.size w0 w' := fun w0 => aboveI f s w0 hf hs
        have hle := nx_le f s
        generalize (Mer.nx f s).1 = f2 at *
        generalize (Mer.nx f s).2 = s2 at *
        generalize nodeD p r = q at *
        clear HI2 HI3 HI4 hr hs0
        go_wp2_with (first
          | (go_at_call 58; refine (hM _).mono ?_; rintro e w3 ⟨rfl, hB3⟩; have HC3 := KpC.call HC hB3)
          | (go_at_call 33; refine (hN _ HC3).mono ?_; rintro e w4 ⟨rfl, hB4⟩; have HC4 := KpC.call HC3 hB4; obtain ⟨q0, q1⟩ := HC4.out.v.wlk)
          | (go_at_call 59; refine (hU _).mono ?_; rintro e w5 ⟨rfl, hB5⟩; have HC5 := KpC.call HC4 hB5)
          | (with_reducible refine wpList_storeV (w := w5) (by with_unfolding_all rfl) 66 (.tmp 11) (.tmp 63) (by with_unfolding_all rfl) w.heap.size (wvs f s) (wvs f2 s2) (by with_unfolding_all rfl) (by with_unfolding_all rfl) HC5.out.v 2 Tryd.sizeW (by with_unfolding_all rfl) (by with_unfolding_all rfl) (wvs_one _ _) ?_; intro w6 hA6 hB6 hF6 hS6; have HC6 := KpC.put HC5 HA HK h0 hA6 hB6 hS6; clear hS6))
        go_roundw
        case rel => exact ⟨k + 1, f2, s2, q, by go_num, rfl, hlt, by omega, by omega, HI5, HC6⟩
        case measure => simp [intOf]; omega
    · obtain rfl : k = m := by omega
      have HF : Hid (R = (s == 0 && decide (r = root))) := by
        show _ = _
        have := HI.out
        rw [← HM.out] at this
        rw [← HR.out]
        exact this.done
      clear HI
      by_cases hs0 : s = 0
      · subst hs0
        by_cases hrr : r = root
        · have HF2 : Hid (R = true) := by show _ = _; rw [HF.out, decide_eq_true hrr]; rfl
          have t1 : (r.toList == root.toList) = true := by rw [hrr]; exact txt_eq _
          clear HF hrr
          go_wp2
          go_ret
          exact ⟨retY HF2.out.symm, HC.out.below⟩
        · have HF2 : Hid (R = false) := by show _ = _; rw [HF.out, decide_eq_false hrr]; rfl
          have t1 : (r.toList == root.toList) = false := txt_ne hrr
          clear HF hrr
          go_wp2
          go_ret
          exact ⟨retY HF2.out.symm, HC.out.below⟩
      · have HF2 : Hid (R = false) := by show _ = _; rw [HF.out, beq_eq_false_iff_ne.2 hs0, Bool.false_and]
        have d0 : ((s : Int) == 0) = false := beq_eq_false_iff_ne.2 (by omega)
        clear HF hs0
        go_wp2
        go_ret
        exact ⟨retY HF2.out.symm, HC.out.below⟩

set_option maxRecDepth 100000 in
set_option maxHeartbeats 1000000 in
theorem incI : IncI := by
  intro leaf root i n a c m ps w hm hc hA hl hr hM hx wi wn hk h0
  by_cases hok : leaf.size = 32 ∧ root.size = 32 ∧ ps.length ≤ 400 ∧ okHs ps = true ∧ 1 ≤ n ∧ n ≤ 1099511627776 ∧ 0 ≤ i ∧ i < n
  · exact incI0 leaf root i n a c m ps w hm hA hok hk h0
  have HR : Hid (incB leaf i n ps root = false) := incB_no hok
  have HH3 : Hid (Calls Tryd.prog 55 #[.slice a m c] w fun e w' => e = .returned (.bool (okPr ps)) ∧ w = w') := proofRI a c m ps w hm hA (by omega) hx
  have hH1 : ∀ w0, Calls Tryd.prog 56 #[.string leaf] w0 fun e w' => e = .returned (.bool (decide (leaf.size = 32))) ∧ w0 = w' := fun w0 => ownH32B leaf w0 hl
  have hH2 : ∀ w0, Calls Tryd.prog 56 #[.string root] w0 fun e w' => e = .returned (.bool (decide (root.size = 32))) ∧ w0 = w' := fun w0 => ownH32B root w0 hr
  have hH4 : ∀ w0, Calls Tryd.prog 57 #[.int .i64 n] w0 fun e w' => e = .returned (.bool (decide (1 ≤ n ∧ n ≤ 1099511627776))) ∧ w0 = w' := fun w0 => sizeRI n w0
  have HO : Hid (okPr ps = true → leaf.size = 32 → root.size = 32 → (1 ≤ n ∧ n ≤ 1099511627776) → 0 ≤ i → i < n → False) := fun e1 e2 e3 e4 e5 e6 => by
    unfold okPr at e1
    rw [Bool.and_eq_true, decide_eq_true_eq] at e1
    exact hok ⟨e2, e3, e1.1, e1.2, e4.1, e4.2, e5, e6⟩
  clear hok hA hx hk
  cases q0 : okPr ps with
  | false =>
    rw [q0] at HH3
    clear q0
    clear HO
    go_enter Tryd.func20, Tryd.ntmps20
    go_wp2_with (first
      | (go_at_call 55; refine Calls.mono HH3.out ?_; rintro e w' ⟨rfl, rfl⟩)
      | (go_at_call 56; with_reducible refine (hH1 _).mono ?_; rintro e w' ⟨rfl, rfl⟩)
      | (go_at_call 56; with_reducible refine (hH2 _).mono ?_; rintro e w' ⟨rfl, rfl⟩)
      | (go_at_call 57; refine (hH4 _).mono ?_; rintro e w' ⟨rfl, rfl⟩))
    go_ret
    exact ⟨retY HR.out.symm, Below.refl _ _⟩
  | true =>
  rw [q0] at HH3
  by_cases q1 : leaf.size = 32
  case neg =>
    rw [decide_eq_false q1] at hH1
    clear HO
    go_enter Tryd.func20, Tryd.ntmps20
    go_wp2_with (first
      | (go_at_call 55; refine Calls.mono HH3.out ?_; rintro e w' ⟨rfl, rfl⟩)
      | (go_at_call 56; with_reducible refine (hH1 _).mono ?_; rintro e w' ⟨rfl, rfl⟩)
      | (go_at_call 56; with_reducible refine (hH2 _).mono ?_; rintro e w' ⟨rfl, rfl⟩)
      | (go_at_call 57; refine (hH4 _).mono ?_; rintro e w' ⟨rfl, rfl⟩))
    go_ret
    exact ⟨retY HR.out.symm, Below.refl _ _⟩
  rw [decide_eq_true q1] at hH1
  by_cases q2 : root.size = 32
  case neg =>
    rw [decide_eq_false q2] at hH2
    clear HO
    go_enter Tryd.func20, Tryd.ntmps20
    go_wp2_with (first
      | (go_at_call 55; refine Calls.mono HH3.out ?_; rintro e w' ⟨rfl, rfl⟩)
      | (go_at_call 56; with_reducible refine (hH1 _).mono ?_; rintro e w' ⟨rfl, rfl⟩)
      | (go_at_call 56; with_reducible refine (hH2 _).mono ?_; rintro e w' ⟨rfl, rfl⟩)
      | (go_at_call 57; refine (hH4 _).mono ?_; rintro e w' ⟨rfl, rfl⟩))
    go_ret
    exact ⟨retY HR.out.symm, Below.refl _ _⟩
  rw [decide_eq_true q2] at hH2
  by_cases q3 : 1 ≤ n ∧ n ≤ 1099511627776
  case neg =>
    rw [decide_eq_false q3] at hH4
    clear HO
    go_enter Tryd.func20, Tryd.ntmps20
    go_wp2_with (first
      | (go_at_call 55; refine Calls.mono HH3.out ?_; rintro e w' ⟨rfl, rfl⟩)
      | (go_at_call 56; with_reducible refine (hH1 _).mono ?_; rintro e w' ⟨rfl, rfl⟩)
      | (go_at_call 56; with_reducible refine (hH2 _).mono ?_; rintro e w' ⟨rfl, rfl⟩)
      | (go_at_call 57; refine (hH4 _).mono ?_; rintro e w' ⟨rfl, rfl⟩))
    go_ret
    exact ⟨retY HR.out.symm, Below.refl _ _⟩
  rw [decide_eq_true q3] at hH4
  by_cases c2 : i < 0
  · have e2 : decide (i < 0) = true := decide_eq_true c2
    clear HO
    go_enter Tryd.func20, Tryd.ntmps20
    go_wp2_with (first
      | (go_at_call 55; refine Calls.mono HH3.out ?_; rintro e w' ⟨rfl, rfl⟩)
      | (go_at_call 56; with_reducible refine (hH1 _).mono ?_; rintro e w' ⟨rfl, rfl⟩)
      | (go_at_call 56; with_reducible refine (hH2 _).mono ?_; rintro e w' ⟨rfl, rfl⟩)
      | (go_at_call 57; refine (hH4 _).mono ?_; rintro e w' ⟨rfl, rfl⟩))
    go_ret
    exact ⟨retY HR.out.symm, Below.refl _ _⟩
  have e2 : decide (i < 0) = false := decide_eq_false c2
  by_cases c3 : n ≤ i
  · have e3 : decide (n ≤ i) = true := decide_eq_true c3
    clear HO
    go_enter Tryd.func20, Tryd.ntmps20
    go_wp2_with (first
      | (go_at_call 55; refine Calls.mono HH3.out ?_; rintro e w' ⟨rfl, rfl⟩)
      | (go_at_call 56; with_reducible refine (hH1 _).mono ?_; rintro e w' ⟨rfl, rfl⟩)
      | (go_at_call 56; with_reducible refine (hH2 _).mono ?_; rintro e w' ⟨rfl, rfl⟩)
      | (go_at_call 57; refine (hH4 _).mono ?_; rintro e w' ⟨rfl, rfl⟩))
    go_ret
    exact ⟨retY HR.out.symm, Below.refl _ _⟩
  exact absurd (HO.out q0 q1 q2 q3 (by omega) (by omega)) id
end Go.Proofs.YtoaoaagfnkpkdaaDoor
namespace Go.Proofs.YtoaoaagfnkpkdaaDoor
open Go.RowKit
set_option linter.unusedVariables false

theorem wayT_hs : ∀ (ps : List ByteArray) (f s : Nat) (b : ByteArray), b.size = 32 → (∀ x ∈ ps, x.size = 32) → ∀ x ∈ wayT ps f s b, x.1.size = 32 ∧ x.2.size = 32
  | [], f, s, b, hb, h, x, hx => by simp [wayT, Mer.way] at hx
  | p :: ps, f, s, b, hb, h, x, hx => by
    have hp := h p (by simp)
    have hx' : x = (if Mer.rgt f s then (p, b) else (b, p)) ∨ x ∈ wayT ps (Mer.nx f s).1 (Mer.nx f s).2 (if Mer.rgt f s then nodeD p b else nodeD b p) := List.mem_cons.1 hx
    rcases hx' with rfl | hx'
    · cases Mer.rgt f s
      · exact ⟨hb, hp⟩
      · exact ⟨hp, hb⟩
    · refine wayT_hs ps _ _ _ ?_ (fun y hy => h y (List.mem_cons_of_mem _ hy)) x hx'
      cases Mer.rgt f s <;> exact nodeD_size _ _
theorem incB_ok {leaf root : ByteArray} {i n : Int} {ps : List ByteArray} (h : incB leaf i n ps root = true) : (leaf.size = 32 ∧ root.size = 32 ∧ ps.length ≤ 400 ∧ okHs ps = true ∧ 1 ≤ n ∧ n ≤ 1099511627776 ∧ 0 ≤ i ∧ i < n) ∧ chkI root ps i.toNat (n.toNat - 1) leaf = true := by
  unfold incB at h
  rw [Bool.and_eq_true, decide_eq_true_eq] at h
  exact h
/- The mathematics: two ways to one root. -/
theorem one_leaf {leaf other root : ByteArray} {i n : Int} {ps qs : List ByteArray} (h1 : incB leaf i n ps root = true) (h2 : incB other i n qs root = true) (hne : ¬ leaf = other) : Mer.Clash nodeD (wayT ps i.toNat (n.toNat - 1) leaf ++ wayT qs i.toNat (n.toNat - 1) other) := by
  have c1 := (chkI_run root ps _ _ leaf).1 (incB_ok h1).2
  have c2 := (chkI_run root qs _ _ other).1 (incB_ok h2).2
  rcases Mer.two_ways nodeD ps qs _ _ leaf other c1.1 c1.2.1 c2.1 c2.2.1 (c1.2.2.trans c2.2.2.symm) with h | h
  · exact absurd h.1 hne
  · exact h
theorem wpList_append_pairs_g {W : World} {ops : Array Oper} {rest : List Oper} {o : Oper} {a : Act} {Q : Exit → Act → World → Prop} (hw : Region.wanted o (yielded ops a.tmps) = true) (s x : Operand) (ho : o.op = .call { callee := .builtin .append, args := #[s, x], argTypes := #[37, 37] })
    (base : Nat) (v : Value) (n m : Nat) (l1 l2 : List Pair) (hs : a.eval s = v) (hown : OwnP W base v n l1) (g p c : Nat) (hx : a.eval x = .slice (some ⟨g, p, none⟩) m c) (hl2 : l2.length = m) (hA : PA W g p l2) (hn : n + m ≤ 1000000) (hbase : base ≤ W.heap.size)
    (h : ∀ v' w', OwnP w' base v' (n + m) (l1 ++ l2) → Below base W w' → (v ≠ .slice none 0 0 → v' ≠ .slice none 0 0) → wpList Tryd.prog ops Q rest (a.put o.dst v') w') : wpList Tryd.prog ops Q (o :: rest) a W :=
  wpList_step fun K hK => by
    rw [if_pos hw]
    exact wp_append_pairs s x ho base v n m l1 l2 hs hown g p c hx hl2 hA hn hbase (fun v' w' k1 k2 k3 => hK _ _ (h v' w' k1 k2 k3))
/- What stands while the law runs. -/
structure KpO (w : World) (a1 a2 : Option Addr) (ps qs : List ByteArray) (w' : World) : Prop where
  below : Below w.heap.size w w'
  s1 : SA w' a1 ps
  s2 : SA w' a2 qs
  arr : ArrU w' 0 keys
  pos : 0 < w'.heap.size
theorem KpO.call {w w' w2 : World} {a1 a2 : Option Addr} {ps qs : List ByteArray} (h : Hid (KpO w a1 a2 ps qs w')) (hb : Below w'.heap.size w' w2) : Hid (KpO w a1 a2 ps qs w2) :=
  ⟨h.out.below.trans (hb.mono h.out.below.size), h.out.s1.below hb, h.out.s2.below hb, h.out.arr.below hb h.out.pos, Nat.lt_of_lt_of_le h.out.pos hb.size⟩
set_option maxRecDepth 100000 in
set_option maxHeartbeats 4000000 in
theorem lawOneLeaf (l0 c0 l1 c1 : Nat) (a0 a1 : Option Addr) (w : World) (hb0 : Bytes w a0 l0) (hs0 : l0 ≤ 9223372036854775807)
    (hb1 : Bytes w a1 l1) (hs1 : l1 ≤ 9223372036854775807) (hk : ArrU w 0 keys) (h0 : 0 < w.heap.size) :
    Calls Tryd.prog 4 #[.slice a0 l0 c0, .slice a1 l1 c1] w fun e w' => e = .returned (.bool true) ∧ Below w.heap.size w w' := by
  have HK : Hid (ArrU w 0 keys) := hk
  by_cases hbig : 1048576 < l0
  · clear hb0 hb1 hk
    go_enter Tryd.func4, Tryd.ntmps4
    go_wp2_with fail
    go_ret
    exact ⟨rfl, Below.refl _ _⟩
  by_cases hbig1 : 1048576 < l1
  · clear hb0 hb1 hk
    go_enter Tryd.func4, Tryd.ntmps4
    go_wp2_with fail
    go_ret
    exact ⟨rfl, Below.refl _ _⟩
  have HD0 : Hid _ := drawInc l0 c0 a0 w hb0 hs0
  have HD1 : Hid (∀ w1, Below w.heap.size w w1 → Calls Tryd.prog 23 #[.slice a1 l1 c1] w1 fun e w' => ∃ (x y : ByteArray) (i n : Int) (u : Value) (ps : List ByteArray), e = .returned (.tuple #[.string x, .int .i64 i, .int .i64 n, u, .string y]) ∧ x.size ≤ 1000 ∧ y.size ≤ 1000 ∧ I64 i ∧ I64 n ∧ Few ps 401 ∧ MayS w' u ps ∧ Below w1.heap.size w1 w') := fun w1 h => drawInc l1 c1 a1 w1 (hb1.later h) hs1
  clear hb0 hb1 hk
  go_enter Tryd.func4, Tryd.ntmps4
  go_wp2_with fail
  refine Calls.mono HD0.out ?_
  rintro e w1 ⟨leaf, root, i, n, u1, ps, rfl, hx1, hy1, hi1, hn1, hf1, hm1, hB1⟩
  have HM1 : Hid (MayS w1 u1 ps) := hm1
  have HB1 : Hid (Below w.heap.size w w1) := hB1
  have HF1 : Hid (Few ps 401) := hf1
  clear HD0 hB1 hm1 hf1
  go_wp2_with fail
  refine (HD1.out w1 HB1.out).mono ?_
  rintro e w2 ⟨other, y2, i2, n2, u2, qs, rfl, hx2, hy2, hi2, hn2, hf2, hm2, hB2⟩
  obtain ⟨b2, d2, rfl, hc2, hA2⟩ := hm2.sa
  obtain ⟨b1, d1, rfl, hc1, hA1⟩ := HM1.out.sa
  have hbb : Below w.heap.size w w2 := HB1.out.trans (hB2.mono HB1.out.size)
  have HS : Hid (KpO w b1 b2 ps qs w2) := ⟨hbb, hA1.below hB2, hA2, HK.out.below hbb h0, Nat.lt_of_lt_of_le h0 hbb.size⟩
  have HF2 : Hid (Few qs 401) := hf2
  clear HD1 hB2 hm2 hf2 hbb hA1 hA2 HM1 HB1
  have hl1 := HF1.out.len
  have hl2 := HF2.out.len
  obtain ⟨m1, hm1⟩ : ∃ m, ps.length = m := ⟨_, rfl⟩
  obtain ⟨m2, hm2⟩ : ∃ m, qs.length = m := ⟨_, rfl⟩
  rw [hm1] at hc1 hl1
  rw [hm2] at hc2 hl2
  simp only [hm1, hm2]
  have HL1 : Hid (ps.length = m1) := hm1
  have HL2 : Hid (qs.length = m2) := hm2
  have hI1 : ∀ w0, Hid (KpO w b1 b2 ps qs w0) → Calls Tryd.prog 20 #[.string leaf, .int .i64 i, .int .i64 n, .slice b1 m1 d1, .string root] w0 fun e w' => e = .returned (.bool (incB leaf i n ps root)) ∧ Below w0.heap.size w0 w' := fun w0 h => incI leaf root i n b1 d1 m1 ps w0 HL1.out hc1 h.out.s1 (by unfold maxLen; omega) (by unfold maxLen; omega) (by omega) (fun x hx => by have := HF1.out.small x hx; unfold maxLen; omega) hi1 hn1 h.out.arr h.out.pos
  have hS1 : ∀ w0, Hid (KpO w b1 b2 ps qs w0) → Calls Tryd.prog 24 #[.string leaf, .int .i64 i, .int .i64 n, .slice b1 m1 d1, .string root] w0 fun e w' => e = .returned (.bool (incB leaf i n ps root)) ∧ Below w0.heap.size w0 w' := fun w0 h => specInc leaf root i n b1 d1 m1 ps w0 HL1.out h.out.s1 (by unfold maxLen; omega) (by unfold maxLen; omega) (by omega) (fun x hx => by have := HF1.out.small x hx; unfold maxLen; omega)
  have hI2 : ∀ w0, Hid (KpO w b1 b2 ps qs w0) → Calls Tryd.prog 20 #[.string other, .int .i64 i, .int .i64 n, .slice b2 m2 d2, .string root] w0 fun e w' => e = .returned (.bool (incB other i n qs root)) ∧ Below w0.heap.size w0 w' := fun w0 h => incI other root i n b2 d2 m2 qs w0 HL2.out hc2 h.out.s2 (by unfold maxLen; omega) (by unfold maxLen; omega) (by omega) (fun x hx => by have := HF2.out.small x hx; unfold maxLen; omega) hi1 hn1 h.out.arr h.out.pos
  clear hm1 hm2 hi2 hn2 hx1 hy1 hx2 hy2 HF1 HF2 HK
  cases hR1 : incB leaf i n ps root with
  | false =>
    rw [hR1] at hI1 hS1
    clear hI2 hR1
    go_wp2_with (first
      | (go_at_call 20; refine (hI1 _ HS).mono ?_; rintro e w3 ⟨rfl, hB3⟩; have HS3 := KpO.call HS hB3)
      | (go_at_call 24; with_reducible refine (hS1 _ HS3).mono ?_; rintro e w4 ⟨rfl, hB4⟩; have HS4 := KpO.call HS3 hB4; clear HS3)
      | (go_at_call 24; with_reducible refine (hS1 _ HS4).mono ?_; rintro e w5 ⟨rfl, hB5⟩; have HS5 := KpO.call HS4 hB5))
    go_ret
    exact ⟨rfl, HS5.out.below⟩
  | true =>
  rw [hR1] at hI1 hS1
  cases hR2 : incB other i n qs root with
  | false =>
    rw [hR2] at hI2
    clear hR1 hR2
    go_wp2_with (first
      | (go_at_call 20; with_reducible refine (hI1 _ HS).mono ?_; rintro e w3 ⟨rfl, hB3⟩; have HS3 := KpO.call HS hB3; clear hI1)
      | (go_at_call 24; with_reducible refine (hS1 _ HS3).mono ?_; rintro e w4 ⟨rfl, hB4⟩; have HS4 := KpO.call HS3 hB4; clear HS3)
      | (go_at_call 24; with_reducible refine (hS1 _ HS4).mono ?_; rintro e w5 ⟨rfl, hB5⟩; have HS5 := KpO.call HS4 hB5)
      | (go_at_call 20; with_reducible refine (hI2 _ HS5).mono ?_; rintro e w6 ⟨rfl, hB6⟩; have HS6 := KpO.call HS5 hB6))
    go_ret
    exact ⟨rfl, HS6.out.below⟩
  | true =>
  rw [hR2] at hI2
  by_cases hlo : leaf = other
  · have tl : (leaf.toList == other.toList) = true := by rw [hlo]; exact txt_eq _
    clear hR1 hR2 hlo
    go_wp2_with (first
      | (go_at_call 20; with_reducible refine (hI1 _ HS).mono ?_; rintro e w3 ⟨rfl, hB3⟩; have HS3 := KpO.call HS hB3; clear hI1)
      | (go_at_call 24; with_reducible refine (hS1 _ HS3).mono ?_; rintro e w4 ⟨rfl, hB4⟩; have HS4 := KpO.call HS3 hB4; clear HS3)
      | (go_at_call 24; with_reducible refine (hS1 _ HS4).mono ?_; rintro e w5 ⟨rfl, hB5⟩; have HS5 := KpO.call HS4 hB5)
      | (go_at_call 20; with_reducible refine (hI2 _ HS5).mono ?_; rintro e w6 ⟨rfl, hB6⟩; have HS6 := KpO.call HS5 hB6))
    go_ret
    exact ⟨rfl, HS6.out.below⟩
  have tl := txt_ne hlo
  have HCl : Hid _ := one_leaf hR1 hR2 hlo
  obtain ⟨⟨q1, q2, q3, q4, q5, q6, q7, q8⟩, -⟩ := incB_ok hR1
  obtain ⟨⟨r1, r2, r3, r4, -, -, -, -⟩, -⟩ := incB_ok hR2
  obtain ⟨i0, rfl⟩ := Int.eq_ofNat_of_zero_le q7
  obtain ⟨n0, rfl⟩ := Int.eq_ofNat_of_zero_le (show 0 ≤ n by omega)
  rw [Int.toNat_natCast, Int.toNat_natCast] at HCl
  have hW1 : ∀ w0, Hid (KpO w b1 b2 ps qs w0) → Calls Tryd.prog 26 #[.string leaf, .int .i64 (i0 : Int), .int .i64 (n0 : Int), .slice b1 m1 d1] w0 fun e w' => ∃ v, e = .returned v ∧ v ≠ .slice none 0 0 ∧ OwnP w' w0.heap.size v m1 (wayT ps i0 (n0 - 1) leaf) ∧ Below w0.heap.size w0 w' := fun w0 h => lwWay_any leaf i0 n0 b1 d1 m1 ps w0 HL1.out h.out.s1 q1 (okHs_of q4) (by omega) (by omega) (by omega) (by omega)
  have hW2 : ∀ w0, Hid (KpO w b1 b2 ps qs w0) → Calls Tryd.prog 26 #[.string other, .int .i64 (i0 : Int), .int .i64 (n0 : Int), .slice b2 m2 d2] w0 fun e w' => ∃ v, e = .returned v ∧ v ≠ .slice none 0 0 ∧ OwnP w' w0.heap.size v m2 (wayT qs i0 (n0 - 1) other) ∧ Below w0.heap.size w0 w' := fun w0 h => lwWay_any other i0 n0 b2 d2 m2 qs w0 HL2.out h.out.s2 r1 (okHs_of r4) (by omega) (by omega) (by omega) (by omega)
  have HH : Hid (∀ x ∈ wayT ps i0 (n0 - 1) leaf ++ wayT qs i0 (n0 - 1) other, x.1.size = 32 ∧ x.2.size = 32) := fun x hx => by
    rcases List.mem_append.1 hx with h | h
    · exact wayT_hs ps _ _ _ q1 (okHs_of q4) x h
    · exact wayT_hs qs _ _ _ r1 (okHs_of r4) x h
  have hE1 : (wayT ps i0 (n0 - 1) leaf).length = m1 := by rw [wayT_len]; exact HL1.out
  have hE2 : (wayT qs i0 (n0 - 1) other).length = m2 := by rw [wayT_len]; exact HL2.out
  generalize wayT ps i0 (n0 - 1) leaf = W1 at *
  generalize wayT qs i0 (n0 - 1) other = W2 at *
  have HE2 : Hid (W2.length = m2) := hE2
  have HZ : Hid (∀ (g c : Nat) w0, PA w0 g 0 (W1 ++ W2) → Calls Tryd.prog 25 #[.slice (some ⟨g, 0, none⟩) (m1 + m2) c] w0 fun e w' => e = .returned (.bool true) ∧ Below w0.heap.size w0 w') := fun g c w0 h => lwClash_any g c (m1 + m2) (W1 ++ W2) w0 (by rw [List.length_append, hE1, hE2]) h HH.out (by omega) HCl.out
  clear hR1 hR2 hlo q1 q2 q3 q4 q5 q6 q7 q8 r1 r2 r3 r4 hE1 hE2 HCl HH
  go_wp2_with (first
    | (go_at_call 20; with_reducible refine (hI1 _ HS).mono ?_; rintro e w3 ⟨rfl, hB3⟩; have HS3 := KpO.call HS hB3; clear hI1)
    | (go_at_call 24; with_reducible refine (hS1 _ HS3).mono ?_; rintro e w4 ⟨rfl, hB4⟩; have HS4 := KpO.call HS3 hB4; clear HS3)
    | (go_at_call 24; with_reducible refine (hS1 _ HS4).mono ?_; rintro e w5 ⟨rfl, hB5⟩; have HS5 := KpO.call HS4 hB5)
    | (go_at_call 20; with_reducible refine (hI2 _ HS5).mono ?_; rintro e w6 ⟨rfl, hB6⟩; have HS6 := KpO.call HS5 hB6)
    | (go_at_call 26; with_reducible refine (hW1 _ HS6).mono ?_; rintro e w7 ⟨v7, rfl, hv7, hO7, hB7⟩; have HS7 := KpO.call HS6 hB7)
    | (go_at_call 26; with_reducible refine (hW2 _ HS7).mono ?_; rintro e w8 ⟨v8, rfl, hv8, hO8, hB8⟩; have HS8 := KpO.call HS7 hB8; have hO7' := ownP_below hO7 hB8; obtain ⟨g8, c8, rfl, hg8, hn8, hm8, hp8, hl8⟩ := ownP_some hO8 hv8)
    | (at_builtin; refine wpList_append_pairs_g (by rfl) _ _ rfl w6.heap.size v7 m1 m2 W1 W2 rfl hO7' g8 0 c8 rfl HE2.out hp8 (by omega) (Nat.le_trans hB7.size hB8.size) ?_; intro v9 w9 hO9 hB9 hv9; obtain ⟨g9, c9, rfl, hg9, hn9, hm9, hp9, hl9⟩ := ownP_some hO9 (hv9 hv7); have B9 : Below w.heap.size w w9 := HS8.out.below.trans (hB9.mono HS6.out.below.size))
    | (go_at_call 25; refine (HZ.out g9 c9 _ hp9).mono ?_; rintro e w10 ⟨rfl, hB10⟩))
  go_ret
  exact ⟨rfl, B9.trans (hB10.mono B9.size)⟩
end Go.Proofs.YtoaoaagfnkpkdaaDoor
