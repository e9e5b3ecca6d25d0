/- InclusionProof and ConsistencyProof of the specification: the proof that is told is none, or lies in a block. -/
import Derived.Test.YtdfglpbappeoaabDoorPrf
import Derived.Test.YtdfglpbappeoaabDoorDrwP
namespace Go.Proofs.YtdfglpbappeoaabDoor
open Go.RowKit
set_option linter.unusedVariables false

def NewM (w : World) (base : Nat) (u : Value) (l : List ByteArray) : Prop := (u = .slice none 0 0 ∧ l = []) ∨ ∃ b c, u = .slice (some ⟨b, 0, none⟩) l.length c ∧ base ≤ b ∧ l.length ≤ c ∧ SA w (some ⟨b, 0, none⟩) l
set_option maxRecDepth 100000 in
theorem NewM.nil (w : World) (base : Nat) : NewM w base (.slice none 0 0) [] := .inl ⟨rfl, rfl⟩
theorem NewM.may {w : World} {base : Nat} {u : Value} {l : List ByteArray} (h : NewM w base u l) : MayS w u l := by
  rcases h with h | ⟨b, c, h1, h2, h3, h4⟩
  · exact .inl h
  · exact .inr ⟨b, 0, c, h1, h3, h4⟩
set_option maxRecDepth 100000 in
theorem NewM.below {w w' : World} {base : Nat} {u : Value} {l : List ByteArray} (h : NewM w base u l) (hb : Below w.heap.size w w') : NewM w' base u l := by
  rcases h with h | ⟨b, c, h1, h2, h3, h4⟩
  · exact .inl h
  · exact .inr ⟨b, c, h1, h2, h3, h4.below hb⟩
set_option maxRecDepth 100000 in
theorem NewM.grown {w w' : World} {base g : Nat} {u : Value} {l : List ByteArray} (h : NewM w base u l) (hg : w.grownBy w' (some g)) (hb : g < base) : NewM w' base u l := by
  rcases h with h | ⟨b, c, h1, h2, h3, h4⟩
  · exact .inl h
  · refine .inr ⟨b, c, h1, h2, h3, fun k hk => ?_⟩
    obtain ⟨b', o', e, hc⟩ := h4 k hk
    injection e with e
    injection e with e1 e2
    subst e1 e2
    exact ⟨b, 0, rfl, hg.cell hc (by intro e; injection e with e; have : b = g := e; omega)⟩
set_option maxRecDepth 100000 in
theorem NewM.own {w : World} {base e : Nat} {v : Value} {l : List ByteArray} (h : w.ownsRow base e 1 v l.length (svl l)) : NewM w base v l := by
  by_cases hv : v = .slice none 0 0
  · subst hv
    rcases h.2 with ⟨_, h0⟩ | ⟨g, cap, cur, h1, _⟩
    · exact .inl ⟨rfl, List.length_eq_zero_iff.1 h0⟩
    · simp at h1
  · obtain ⟨g, c, h1, h2, h3, h4, h5, h6⟩ := own_some h hv
    exact .inr ⟨g, c, h1, h3, h4, h6⟩
set_option maxRecDepth 100000 in
theorem NewM.far {w w' : World} {g e : Nat} {v : Value} {l : List ByteArray} (h : w.ownsRow (g + 1) e 1 v l.length (svl l)) (hf : ∀ x : Addr, x.block ≠ g → w'.cell? x = w.cell? x ∧ w'.frozen? x = w.frozen? x) : NewM w' g v l := by
  by_cases hv : v = .slice none 0 0
  · subst hv
    rcases h.2 with ⟨_, h0⟩ | ⟨g, cap, cur, h1, _⟩
    · exact .inl ⟨rfl, List.length_eq_zero_iff.1 h0⟩
    · simp at h1
  · obtain ⟨g', c, h1, h2, h3, h4, h5, h6⟩ := own_some h hv
    refine .inr ⟨g', c, h1, by omega, h4, fun k hk => ?_⟩
    obtain ⟨b, o, e1, e2⟩ := h6 k hk
    injection e1 with e1
    injection e1 with e3 e4
    subst e3 e4
    exact ⟨g', 0, rfl, by rw [(hf ⟨g', 0 + k, none⟩ (by show g' ≠ g; omega)).1]; exact e2⟩
set_option maxRecDepth 100000 in
theorem MayS.sa {w : World} {u : Value} {l : List ByteArray} (h : MayS w u l) : ∃ a c, u = .slice a l.length c ∧ l.length ≤ c ∧ SA w a l := by
  rcases h with ⟨rfl, rfl⟩ | ⟨b, o, c, h1, h2, h3⟩
  · exact ⟨none, 0, rfl, Nat.le_refl _, SA.nil _ _⟩
  · exact ⟨_, c, h1, h2, h3⟩
set_option maxRecDepth 100000 in
set_option maxHeartbeats 1000000 in
theorem specIncM (a : Option Addr) (c n : Nat) (i : Int) (l : List ByteArray) (w : World) (hn : l.length = n) (hc : n ≤ c) (h : SA w a l) (hM : n ≤ 1000000000) (hcM : c ≤ 9223372036854775807) (hx : ∀ x ∈ l, x.size ≤ maxLen) :
    Calls Tryd.prog 53 #[.slice a n c, .int .i64 i] w fun e w' => ∃ v, e = .returned (.agg (pvs v (prfC l 0 i)).toArray) ∧ NewM w' w.heap.size v (incL l i) ∧ Below w.heap.size w w' := by
  by_cases hb : 400 < n
  · have hcd : prfC l 0 i = 2 := prfC_big (by omega)
    have HL : Hid (incL l i = []) := by show _ = _; unfold incL; rw [hcd, if_neg (by decide)]
    have d1 : decide ((400 : Int) < n) = true := decide_eq_true (by omega)
    rw [hcd]
    clear h hx hcd
    go_enter Tryd.func53, Tryd.ntmps53
    go_wp2_with (first
      | (with_reducible refine wpList_allocV (w := w) (by with_unfolding_all rfl) 29 (by with_unfolding_all rfl) (pvs (.slice none 0 0) 0) Tryd.infoP ?_; intro w1 hA1 hB1 hS1)
      | (with_reducible refine wpList_storeV (w := w1) (by with_unfolding_all rfl) 29 (.tmp 4) (.tmp 8) (by with_unfolding_all rfl) w.heap.size (pvs (.slice none 0 0) 0) (pvs (.slice none 0 0) 2) (by with_unfolding_all rfl) (by with_unfolding_all rfl) hA1 2 Tryd.sizeP (by with_unfolding_all rfl) (by with_unfolding_all rfl) (pvs_one _ _ _ _) ?_; intro w5 hA5 hB5 hF5 hS5))
    refine bodyPost_ret (results_V (t := 29) rfl _ w.heap.size _ rfl hA5 Tryd.undP 2 Tryd.sizeP rfl) rfl ⟨_, rfl, ?_, hB1.trans (hB5 _ (Nat.le_refl _))⟩
    rw [HL.out]
    exact NewM.nil _ _
  have d1 : decide ((400 : Int) < n) = false := decide_eq_false (by omega)
  have hR : ∀ w0, Hid (SA w0 a l) → Calls Tryd.prog 36 #[.slice a n c] w0 fun e w' => e = .returned (.bool (okLv l)) ∧ w0 = w' := fun w0 h0 => (specRight a c n l w0 hn h0.out hM hx).mono fun e w' h => ⟨h.1, h.2.symm⟩
  have HA : Hid (SA w a l) := h
  by_cases ho : okLv l = true
  case neg =>
    have hof : okLv l = false := by simpa using ho
    have hcd : prfC l 0 i = 1 := prfC_form (by omega) hof
    have HL : Hid (incL l i = []) := by show _ = _; unfold incL; rw [hcd, if_neg (by decide)]
    rw [hcd]
    rw [hof] at hR
    clear h hx hcd ho hof
    go_enter Tryd.func53, Tryd.ntmps53
    go_wp2_with (first
      | (with_reducible refine wpList_allocV (w := w) (by with_unfolding_all rfl) 29 (by with_unfolding_all rfl) (pvs (.slice none 0 0) 0) Tryd.infoP ?_; intro w1 hA1 hB1 hS1)
      | (go_at_call 36; refine (hR _ (HA.out.below hB1)).mono ?_; rintro e w' ⟨rfl, rfl⟩)
      | (with_reducible refine wpList_storeV (w := w1) (by with_unfolding_all rfl) 29 (.tmp 4) (.tmp 12) (by with_unfolding_all rfl) w.heap.size (pvs (.slice none 0 0) 0) (pvs (.slice none 0 0) 1) (by with_unfolding_all rfl) (by with_unfolding_all rfl) hA1 2 Tryd.sizeP (by with_unfolding_all rfl) (by with_unfolding_all rfl) (pvs_one _ _ _ _) ?_; intro w5 hA5 hB5 hF5 hS5))
    refine bodyPost_ret (results_V (t := 29) rfl _ w.heap.size _ rfl hA5 Tryd.undP 2 Tryd.sizeP rfl) rfl ⟨_, rfl, ?_, hB1.trans (hB5 _ (Nat.le_refl _))⟩
    rw [HL.out]
    exact NewM.nil _ _
  have ho' := okLv_of ho
  rw [ho] at hR
  by_cases hi : i < 0
  · have e1 : decide (i < 0) = true := decide_eq_true hi
    have hcd : prfC l 0 i = 9 := prfC_none (by omega) ho (by omega)
    have HL : Hid (incL l i = []) := by show _ = _; unfold incL; rw [hcd, if_neg (by decide)]
    rw [hcd]
    clear h hx hcd ho ho'
    go_enter Tryd.func53, Tryd.ntmps53
    go_wp2_with (first
      | (with_reducible refine wpList_allocV (w := w) (by with_unfolding_all rfl) 29 (by with_unfolding_all rfl) (pvs (.slice none 0 0) 0) Tryd.infoP ?_; intro w1 hA1 hB1 hS1)
      | (go_at_call 36; refine (hR _ (HA.out.below hB1)).mono ?_; rintro e w' ⟨rfl, rfl⟩)
      | (with_reducible refine wpList_storeV (w := w1) (by with_unfolding_all rfl) 29 (.tmp 4) (.tmp 21) (by with_unfolding_all rfl) w.heap.size (pvs (.slice none 0 0) 0) (pvs (.slice none 0 0) 9) (by with_unfolding_all rfl) (by with_unfolding_all rfl) hA1 2 Tryd.sizeP (by with_unfolding_all rfl) (by with_unfolding_all rfl) (pvs_one _ _ _ _) ?_; intro w5 hA5 hB5 hF5 hS5))
    refine bodyPost_ret (results_V (t := 29) rfl _ w.heap.size _ rfl hA5 Tryd.undP 2 Tryd.sizeP rfl) rfl ⟨_, rfl, ?_, hB1.trans (hB5 _ (Nat.le_refl _))⟩
    rw [HL.out]
    exact NewM.nil _ _
  have e1 : decide (i < 0) = false := decide_eq_false hi
  by_cases hi2 : (n : Int) ≤ i
  · have e2 : decide ((n : Int) ≤ i) = true := decide_eq_true hi2
    have hcd : prfC l 0 i = 9 := prfC_none (by omega) ho (by omega)
    have HL : Hid (incL l i = []) := by show _ = _; unfold incL; rw [hcd, if_neg (by decide)]
    rw [hcd]
    clear h hx hcd ho ho'
    go_enter Tryd.func53, Tryd.ntmps53
    go_wp2_with (first
      | (with_reducible refine wpList_allocV (w := w) (by with_unfolding_all rfl) 29 (by with_unfolding_all rfl) (pvs (.slice none 0 0) 0) Tryd.infoP ?_; intro w1 hA1 hB1 hS1)
      | (go_at_call 36; refine (hR _ (HA.out.below hB1)).mono ?_; rintro e w' ⟨rfl, rfl⟩)
      | (with_reducible refine wpList_storeV (w := w1) (by with_unfolding_all rfl) 29 (.tmp 4) (.tmp 21) (by with_unfolding_all rfl) w.heap.size (pvs (.slice none 0 0) 0) (pvs (.slice none 0 0) 9) (by with_unfolding_all rfl) (by with_unfolding_all rfl) hA1 2 Tryd.sizeP (by with_unfolding_all rfl) (by with_unfolding_all rfl) (pvs_one _ _ _ _) ?_; intro w5 hA5 hB5 hF5 hS5))
    refine bodyPost_ret (results_V (t := 29) rfl _ w.heap.size _ rfl hA5 Tryd.undP 2 Tryd.sizeP rfl) rfl ⟨_, rfl, ?_, hB1.trans (hB5 _ (Nat.le_refl _))⟩
    rw [HL.out]
    exact NewM.nil _ _
  have e2 : decide ((n : Int) ≤ i) = false := decide_eq_false hi2
  have hcd : prfC l 0 i = 0 := prfC_ok (by omega) ho (by omega)
  obtain ⟨k, rfl⟩ := Int.eq_ofNat_of_zero_le (show 0 ≤ i by omega)
  have hL : incL l k = pthT l k := by unfold incL; rw [hcd, if_pos rfl]; rfl
  rw [hcd, hL]
  have hP : ∀ w0, Hid (SA w0 a l) → Calls Tryd.prog 101 #[.slice a n c, .int .i64 (k : Int)] w0 fun e w' => ∃ v, e = .returned v ∧ w'.ownsRow w0.heap.size 9 1 v (pthT l k).length (svl (pthT l k)) ∧ Below w0.heap.size w0 w' := fun w0 h0 => specPath n a c n k l w0 (by omega) hn (by omega) (by omega) hc h0.out (by have := ho'.1; omega) hcM ho'.2
  generalize pthT l k = P at *
  clear h hx hcd ho ho' hL
  go_enter Tryd.func53, Tryd.ntmps53
  go_wp2_with (first
    | (with_reducible refine wpList_allocV (w := w) (by with_unfolding_all rfl) 29 (by with_unfolding_all rfl) (pvs (.slice none 0 0) 0) Tryd.infoP ?_; intro w1 hA1 hB1 hS1)
    | (go_at_call 36; refine (hR _ (HA.out.below hB1)).mono ?_; rintro e w' ⟨rfl, rfl⟩)
    | (go_at_call 101; refine (hP _ (HA.out.below hB1)).mono ?_; rintro e w2 ⟨v2, rfl, hO2, hB2⟩; obtain ⟨a2, c2, rfl, hl2, hc2, hm2, hsa2⟩ := own_sa hO2; have V2 := hA1.below hB2 (by omega))
    | (with_reducible refine wpList_storeV (w := w2) (by with_unfolding_all rfl) 29 (.tmp 4) (.tmp 25) (by with_unfolding_all rfl) w.heap.size (pvs (.slice none 0 0) 0) (pvs (.slice a2 P.length c2) 0) (by with_unfolding_all rfl) (by with_unfolding_all rfl) V2 2 Tryd.sizeP (by with_unfolding_all rfl) (by with_unfolding_all rfl) (pvs_one _ _ _ _) ?_; intro w5 hA5 hB5 hF5 hS5))
  have hO1 : w2.ownsRow (w.heap.size + 1) 9 1 (.slice a2 P.length c2) P.length (svl P) := by rw [← hS1]; exact hO2
  refine bodyPost_ret (results_V (t := 29) rfl _ w.heap.size _ rfl hA5 Tryd.undP 2 Tryd.sizeP rfl) rfl ⟨_, rfl, ?_, (hB1.trans (hB2.mono (by omega))).trans (hB5 _ (Nat.le_refl _))⟩
  exact NewM.far hO1 hF5
set_option maxRecDepth 100000 in
set_option maxHeartbeats 1000000 in
theorem specConM (a : Option Addr) (c n : Nat) (i : Int) (l : List ByteArray) (w : World) (hn : l.length = n) (hc : n ≤ c) (h : SA w a l) (hM : n ≤ 1000000000) (hcM : c ≤ 9223372036854775807) (hx : ∀ x ∈ l, x.size ≤ maxLen) :
    Calls Tryd.prog 63 #[.slice a n c, .int .i64 i] w fun e w' => ∃ v, e = .returned (.agg (pvs v (prfC l 1 i)).toArray) ∧ NewM w' w.heap.size v (conL l i) ∧ Below w.heap.size w w' := by
  by_cases hb : 400 < n
  · have hcd : prfC l 1 i = 2 := prfC_big (by omega)
    have HL : Hid (conL l i = []) := by show _ = _; unfold conL; rw [hcd, if_neg (by decide)]
    have d1 : decide ((400 : Int) < n) = true := decide_eq_true (by omega)
    rw [hcd]
    clear h hx hcd
    go_enter Tryd.func63, Tryd.ntmps63
    go_wp2_with (first
      | (with_reducible refine wpList_allocV (w := w) (by with_unfolding_all rfl) 29 (by with_unfolding_all rfl) (pvs (.slice none 0 0) 0) Tryd.infoP ?_; intro w1 hA1 hB1 hS1)
      | (with_reducible refine wpList_storeV (w := w1) (by with_unfolding_all rfl) 29 (.tmp 4) (.tmp 8) (by with_unfolding_all rfl) w.heap.size (pvs (.slice none 0 0) 0) (pvs (.slice none 0 0) 2) (by with_unfolding_all rfl) (by with_unfolding_all rfl) hA1 2 Tryd.sizeP (by with_unfolding_all rfl) (by with_unfolding_all rfl) (pvs_one _ _ _ _) ?_; intro w5 hA5 hB5 hF5 hS5))
    refine bodyPost_ret (results_V (t := 29) rfl _ w.heap.size _ rfl hA5 Tryd.undP 2 Tryd.sizeP rfl) rfl ⟨_, rfl, ?_, hB1.trans (hB5 _ (Nat.le_refl _))⟩
    rw [HL.out]
    exact NewM.nil _ _
  have d1 : decide ((400 : Int) < n) = false := decide_eq_false (by omega)
  have hR : ∀ w0, Hid (SA w0 a l) → Calls Tryd.prog 36 #[.slice a n c] w0 fun e w' => e = .returned (.bool (okLv l)) ∧ w0 = w' := fun w0 h0 => (specRight a c n l w0 hn h0.out hM hx).mono fun e w' h => ⟨h.1, h.2.symm⟩
  have HA : Hid (SA w a l) := h
  by_cases ho : okLv l = true
  case neg =>
    have hof : okLv l = false := by simpa using ho
    have hcd : prfC l 1 i = 1 := prfC_form (by omega) hof
    have HL : Hid (conL l i = []) := by show _ = _; unfold conL; rw [hcd, if_neg (by decide)]
    rw [hcd]
    rw [hof] at hR
    clear h hx hcd ho hof
    go_enter Tryd.func63, Tryd.ntmps63
    go_wp2_with (first
      | (with_reducible refine wpList_allocV (w := w) (by with_unfolding_all rfl) 29 (by with_unfolding_all rfl) (pvs (.slice none 0 0) 0) Tryd.infoP ?_; intro w1 hA1 hB1 hS1)
      | (go_at_call 36; refine (hR _ (HA.out.below hB1)).mono ?_; rintro e w' ⟨rfl, rfl⟩)
      | (with_reducible refine wpList_storeV (w := w1) (by with_unfolding_all rfl) 29 (.tmp 4) (.tmp 12) (by with_unfolding_all rfl) w.heap.size (pvs (.slice none 0 0) 0) (pvs (.slice none 0 0) 1) (by with_unfolding_all rfl) (by with_unfolding_all rfl) hA1 2 Tryd.sizeP (by with_unfolding_all rfl) (by with_unfolding_all rfl) (pvs_one _ _ _ _) ?_; intro w5 hA5 hB5 hF5 hS5))
    refine bodyPost_ret (results_V (t := 29) rfl _ w.heap.size _ rfl hA5 Tryd.undP 2 Tryd.sizeP rfl) rfl ⟨_, rfl, ?_, hB1.trans (hB5 _ (Nat.le_refl _))⟩
    rw [HL.out]
    exact NewM.nil _ _
  have ho' := okLv_of ho
  rw [ho] at hR
  by_cases hi : i < 1
  · have e1 : decide (i < 1) = true := decide_eq_true hi
    have hcd : prfC l 1 i = 9 := prfC_none (by omega) ho (by omega)
    have HL : Hid (conL l i = []) := by show _ = _; unfold conL; rw [hcd, if_neg (by decide)]
    rw [hcd]
    clear h hx hcd ho ho'
    go_enter Tryd.func63, Tryd.ntmps63
    go_wp2_with (first
      | (with_reducible refine wpList_allocV (w := w) (by with_unfolding_all rfl) 29 (by with_unfolding_all rfl) (pvs (.slice none 0 0) 0) Tryd.infoP ?_; intro w1 hA1 hB1 hS1)
      | (go_at_call 36; refine (hR _ (HA.out.below hB1)).mono ?_; rintro e w' ⟨rfl, rfl⟩)
      | (with_reducible refine wpList_storeV (w := w1) (by with_unfolding_all rfl) 29 (.tmp 4) (.tmp 21) (by with_unfolding_all rfl) w.heap.size (pvs (.slice none 0 0) 0) (pvs (.slice none 0 0) 9) (by with_unfolding_all rfl) (by with_unfolding_all rfl) hA1 2 Tryd.sizeP (by with_unfolding_all rfl) (by with_unfolding_all rfl) (pvs_one _ _ _ _) ?_; intro w5 hA5 hB5 hF5 hS5))
    refine bodyPost_ret (results_V (t := 29) rfl _ w.heap.size _ rfl hA5 Tryd.undP 2 Tryd.sizeP rfl) rfl ⟨_, rfl, ?_, hB1.trans (hB5 _ (Nat.le_refl _))⟩
    rw [HL.out]
    exact NewM.nil _ _
  have e1 : decide (i < 1) = false := decide_eq_false hi
  by_cases hi2 : (n : Int) < i
  · have e2 : decide ((n : Int) < i) = true := decide_eq_true hi2
    have hcd : prfC l 1 i = 9 := prfC_none (by omega) ho (by omega)
    have HL : Hid (conL l i = []) := by show _ = _; unfold conL; rw [hcd, if_neg (by decide)]
    rw [hcd]
    clear h hx hcd ho ho'
    go_enter Tryd.func63, Tryd.ntmps63
    go_wp2_with (first
      | (with_reducible refine wpList_allocV (w := w) (by with_unfolding_all rfl) 29 (by with_unfolding_all rfl) (pvs (.slice none 0 0) 0) Tryd.infoP ?_; intro w1 hA1 hB1 hS1)
      | (go_at_call 36; refine (hR _ (HA.out.below hB1)).mono ?_; rintro e w' ⟨rfl, rfl⟩)
      | (with_reducible refine wpList_storeV (w := w1) (by with_unfolding_all rfl) 29 (.tmp 4) (.tmp 21) (by with_unfolding_all rfl) w.heap.size (pvs (.slice none 0 0) 0) (pvs (.slice none 0 0) 9) (by with_unfolding_all rfl) (by with_unfolding_all rfl) hA1 2 Tryd.sizeP (by with_unfolding_all rfl) (by with_unfolding_all rfl) (pvs_one _ _ _ _) ?_; intro w5 hA5 hB5 hF5 hS5))
    refine bodyPost_ret (results_V (t := 29) rfl _ w.heap.size _ rfl hA5 Tryd.undP 2 Tryd.sizeP rfl) rfl ⟨_, rfl, ?_, hB1.trans (hB5 _ (Nat.le_refl _))⟩
    rw [HL.out]
    exact NewM.nil _ _
  have e2 : decide ((n : Int) < i) = false := decide_eq_false hi2
  have hcd : prfC l 1 i = 0 := prfC_ok (by omega) ho (by omega)
  obtain ⟨k, rfl⟩ := Int.eq_ofNat_of_zero_le (show 0 ≤ i by omega)
  have hL : conL l k = prT l k true := by unfold conL; rw [hcd, if_pos rfl]; rfl
  rw [hcd, hL]
  have hP : ∀ w0, Hid (SA w0 a l) → Calls Tryd.prog 102 #[.slice a n c, .int .i64 (k : Int), .bool true] w0 fun e w' => ∃ v, e = .returned v ∧ w'.ownsRow w0.heap.size 9 1 v (prT l k true).length (svl (prT l k true)) ∧ Below w0.heap.size w0 w' := fun w0 h0 => specProof n a c n k true l w0 (by omega) hn (by omega) (by omega) hc h0.out (by have := ho'.1; omega) hcM ho'.2
  generalize prT l k true = P at *
  clear h hx hcd ho ho' hL
  go_enter Tryd.func63, Tryd.ntmps63
  go_wp2_with (first
    | (with_reducible refine wpList_allocV (w := w) (by with_unfolding_all rfl) 29 (by with_unfolding_all rfl) (pvs (.slice none 0 0) 0) Tryd.infoP ?_; intro w1 hA1 hB1 hS1)
    | (go_at_call 36; refine (hR _ (HA.out.below hB1)).mono ?_; rintro e w' ⟨rfl, rfl⟩)
    | (go_at_call 102; refine (hP _ (HA.out.below hB1)).mono ?_; rintro e w2 ⟨v2, rfl, hO2, hB2⟩; obtain ⟨a2, c2, rfl, hl2, hc2, hm2, hsa2⟩ := own_sa hO2; have V2 := hA1.below hB2 (by omega))
    | (with_reducible refine wpList_storeV (w := w2) (by with_unfolding_all rfl) 29 (.tmp 4) (.tmp 25) (by with_unfolding_all rfl) w.heap.size (pvs (.slice none 0 0) 0) (pvs (.slice a2 P.length c2) 0) (by with_unfolding_all rfl) (by with_unfolding_all rfl) V2 2 Tryd.sizeP (by with_unfolding_all rfl) (by with_unfolding_all rfl) (pvs_one _ _ _ _) ?_; intro w5 hA5 hB5 hF5 hS5))
  have hO1 : w2.ownsRow (w.heap.size + 1) 9 1 (.slice a2 P.length c2) P.length (svl P) := by rw [← hS1]; exact hO2
  refine bodyPost_ret (results_V (t := 29) rfl _ w.heap.size _ rfl hA5 Tryd.undP 2 Tryd.sizeP rfl) rfl ⟨_, rfl, ?_, (hB1.trans (hB2.mono (by omega))).trans (hB5 _ (Nat.le_refl _))⟩
  exact NewM.far hO1 hF5
end Go.Proofs.YtdfglpbappeoaabDoor
