/- InclusionProof and ConsistencyProof of the program, for every argument. -/
import Derived.Test.YtoaoaagfnkpkdaaDoorPthI
import Derived.Test.YtoaoaagfnkpkdaaDoorLawP
namespace Go.Proofs.YtoaoaagfnkpkdaaDoor
open Go.RowKit
set_option linter.unusedVariables false

theorem store_func {P : Program} (w : World) (a : Addr) (m : Mode) (f : Fn) (x y : Array Value) : Sem.run P (store a (.func f x y) m) w = stored P w a (.func f x y) m := by
  rw [run_store P w a _ m rfl]
  rfl
theorem fun_cell (w : World) (v : Value) (t : TypeId) : (w.alloc (.cells #[v] t)).cell? ⟨w.heap.size, 0, none⟩ = some v := by simp
theorem fun_below (w : World) (v : Value) (t : TypeId) : Below w.heap.size w (w.alloc (.cells #[v] t)) := (Below.refl _ _).alloc (Nat.le_refl _) _
theorem prfC_lv {l : List ByteArray} {lo i : Int} (h : lvC l ≠ 0) : prfC l lo i = lvC l := by
  unfold prfC lvC at *
  by_cases h1 : 400 < l.length
  · rw [if_pos h1, if_pos h1]
  · rw [if_neg h1] at h
    rw [if_neg h1, if_neg h1]
    by_cases h2 : okLv l = false
    · rw [if_pos h2, if_pos h2]
    · rw [if_neg h2] at h
      exact absurd rfl h
theorem lvC_ok {l : List ByteArray} (h : lvC l = 0) : ¬ 400 < l.length ∧ okLv l = true := by
  unfold lvC at h
  by_cases h1 : 400 < l.length
  · rw [if_pos h1] at h; cases h
  · rw [if_neg h1] at h
    by_cases h2 : okLv l = false
    · rw [if_pos h2] at h; cases h
    · exact ⟨h1, by simpa using h2⟩
set_option maxRecDepth 100000 in
set_option maxHeartbeats 1000000 in
theorem ownPath (a : Option Addr) (c n i : Nat) (l : List ByteArray) (w : World) (hn : l.length = n) (hn1 : 1 ≤ n) (hin : i < n) (hc : n ≤ c) (hA : SA w a l) (hM : n ≤ 1000) (hcM : c ≤ 9223372036854775807) (hx : ∀ x ∈ l, x.size < 20000) (hk : ArrU w 0 keys) (h0 : 0 < w.heap.size) :
    Calls Tryd.prog 53 #[.slice a n c, .int .i64 (i : Int)] w fun e w' => ∃ v, e = .returned v ∧ w'.ownsRow w.heap.size 9 1 v (pthT l i).length (svl (pthT l i)) ∧ Below w.heap.size w w' := by
  have hmf : ∀ (fn : Fn) (first cap : Array Value) (w : World), (Instr.makeFunc fn first cap).run Tryd.prog w = .ok (.func fn first cap) w := fun _ _ _ _ => rfl
  have HP : Hid (∀ w0, Below w.heap.size w w0 → w0.cell? ⟨w.heap.size, 0, none⟩ = some (.func (.func 87) #[] #[.pointer (some ⟨w.heap.size, 0, none⟩)]) → Calls Tryd.prog 87 #[.slice a n c, .int .i64 (i : Int), .pointer (some ⟨w.heap.size, 0, none⟩)] w0 fun e w' => ∃ v, e = .returned v ∧ w'.ownsRow w0.heap.size 9 1 v (pthT l i).length (svl (pthT l i)) ∧ Below w0.heap.size w0 w') := fun w0 hb hcl =>
    pathI n a c n i l w0 w.heap.size (by omega) hn hn1 hin hc (hA.below hb) hM hcM hx (hk.below hb h0) (Nat.lt_of_lt_of_le h0 hb.size) hcl
  have hsf : ∀ (w : World) (a : Addr) (m : Mode) (f : Fn) (x y : Array Value), Sem.run Tryd.prog (store a (.func f x y) m) w = stored Tryd.prog w a (.func f x y) m := store_func
  generalize pthT l i = P at *
  clear hA hx hk
  go_enter Tryd.func53, Tryd.ntmps53
  go_wp2_with fail
  refine (HP.out _ (fun_below w _ _) (fun_cell w _ _)).mono ?_
  rintro e w1 ⟨v, rfl, hO, hB⟩
  have HO : Hid (w1.ownsRow w.heap.size 9 1 v P.length (svl P)) := own_from hO (fun_below w _ _).size
  have HB : Hid (Below w.heap.size w w1) := (fun_below w _ _).trans (hB.mono (fun_below w _ _).size)
  clear hO hB HP
  go_wp2
  go_ret
  exact ⟨v, rfl, HO.out, HB.out⟩
set_option maxRecDepth 100000 in
set_option maxHeartbeats 1000000 in
theorem ownProof (a : Option Addr) (c n i : Nat) (l : List ByteArray) (w : World) (hn : l.length = n) (hi1 : 1 ≤ i) (hin : i ≤ n) (hc : n ≤ c) (hA : SA w a l) (hM : n ≤ 1000) (hcM : c ≤ 9223372036854775807) (hx : ∀ x ∈ l, x.size < 20000) (hk : ArrU w 0 keys) (h0 : 0 < w.heap.size) :
    Calls Tryd.prog 54 #[.slice a n c, .int .i64 (i : Int)] w fun e w' => ∃ v, e = .returned v ∧ w'.ownsRow w.heap.size 9 1 v (prT l i true).length (svl (prT l i true)) ∧ Below w.heap.size w w' := by
  have hmf : ∀ (fn : Fn) (first cap : Array Value) (w : World), (Instr.makeFunc fn first cap).run Tryd.prog w = .ok (.func fn first cap) w := fun _ _ _ _ => rfl
  have HP : Hid (∀ w0, Below w.heap.size w w0 → w0.cell? ⟨w.heap.size, 0, none⟩ = some (.func (.func 88) #[] #[.pointer (some ⟨w.heap.size, 0, none⟩)]) → Calls Tryd.prog 88 #[.slice a n c, .int .i64 (i : Int), .bool true, .pointer (some ⟨w.heap.size, 0, none⟩)] w0 fun e w' => ∃ v, e = .returned v ∧ w'.ownsRow w0.heap.size 9 1 v (prT l i true).length (svl (prT l i true)) ∧ Below w0.heap.size w0 w') := fun w0 hb hcl =>
    proofI n a c n i true l w0 w.heap.size (by omega) hn hi1 hin hc (hA.below hb) hM hcM hx (hk.below hb h0) (Nat.lt_of_lt_of_le h0 hb.size) hcl
  have hsf : ∀ (w : World) (a : Addr) (m : Mode) (f : Fn) (x y : Array Value), Sem.run Tryd.prog (store a (.func f x y) m) w = stored Tryd.prog w a (.func f x y) m := store_func
  generalize prT l i true = P at *
  clear hA hx hk
  go_enter Tryd.func54, Tryd.ntmps54
  go_wp2_with fail
  refine (HP.out _ (fun_below w _ _) (fun_cell w _ _)).mono ?_
  rintro e w1 ⟨v, rfl, hO, hB⟩
  have HO : Hid (w1.ownsRow w.heap.size 9 1 v P.length (svl P)) := own_from hO (fun_below w _ _).size
  have HB : Hid (Below w.heap.size w w1) := (fun_below w _ _).trans (hB.mono (fun_below w _ _).size)
  clear hO hB HP
  go_wp2
  go_ret
  exact ⟨v, rfl, HO.out, HB.out⟩
set_option maxRecDepth 100000 in
set_option maxHeartbeats 1000000 in
theorem incPI : IncPI := by
  intro a c n i l w hn hc h hM hcM hx wi hk h0
  have hC : ∀ w0, Hid (SA w0 a l) → Calls Tryd.prog 52 #[.slice a n c] w0 fun e w' => e = .returned (.int .i64 (lvC l)) ∧ w0 = w' := fun w0 h0 => codeLI a c n l w0 hn h0.out (by omega) hx
  have HA : Hid (SA w a l) := h
  by_cases hz : lvC l = 0
  case neg =>
    have hcd : prfC l 0 i = lvC l := prfC_lv hz
    have HL : Hid (incL l i = []) := by show _ = _; unfold incL; rw [hcd, if_neg hz]
    rw [hcd]
    have t1 : (lvC l != 0) = true := by simpa using hz
    clear hcd hz
    generalize lvC l = z at *
    clear h hx hk
    go_enter Tryd.func18, Tryd.ntmps18
    go_wp2_with (first
          | (with_reducible refine wpList_allocV (w := w) (by with_unfolding_all rfl) 29 (by with_unfolding_all rfl) (pvs (.slice none 0 0) 0) Tryd.infoP ?_; intro w1 hA1 hB1 hS1)
          | (go_at_call 52; refine (hC _ (HA.out.below hB1)).mono ?_; rintro e w' ⟨rfl, rfl⟩)
          | (with_reducible refine wpList_storeV (w := w1) (by with_unfolding_all rfl) 29 (.tmp 4) (.tmp 11) (by with_unfolding_all rfl) w.heap.size (pvs (.slice none 0 0) 0) (pvs (.slice none 0 0) z) (by with_unfolding_all rfl) (by with_unfolding_all rfl) hA1 2 Tryd.sizeP (by with_unfolding_all rfl) (by with_unfolding_all rfl) (pvs_one _ _ _ _) ?_; intro w5 hA5 hB5 hF5 hS5))
    refine bodyPost_ret (results_V (t := 29) rfl _ w.heap.size _ rfl hA5 Tryd.undP 2 Tryd.sizeP rfl) rfl ⟨_, rfl, ?_, hB1.trans (hB5 _ (Nat.le_refl _))⟩
    rw [HL.out]
    exact NewS.nil _ _
  obtain ⟨hn4, ho⟩ := lvC_ok hz
  rw [hz] at hC
  have ho' := okLv_of ho
  by_cases hi : i < 0
  · have e1 : decide (i < 0) = true := decide_eq_true hi
    have hcd : prfC l 0 i = 9 := prfC_none (by omega) ho (by omega)
    have HL : Hid (incL l i = []) := by show _ = _; unfold incL; rw [hcd, if_neg (by decide)]
    rw [hcd]
    clear hcd ho ho' hz
    clear h hx hk
    go_enter Tryd.func18, Tryd.ntmps18
    go_wp2_with (first
          | (with_reducible refine wpList_allocV (w := w) (by with_unfolding_all rfl) 29 (by with_unfolding_all rfl) (pvs (.slice none 0 0) 0) Tryd.infoP ?_; intro w1 hA1 hB1 hS1)
          | (go_at_call 52; refine (hC _ (HA.out.below hB1)).mono ?_; rintro e w' ⟨rfl, rfl⟩)
          | (with_reducible refine wpList_storeV (w := w1) (by with_unfolding_all rfl) 29 (.tmp 4) (.tmp 20) (by with_unfolding_all rfl) w.heap.size (pvs (.slice none 0 0) 0) (pvs (.slice none 0 0) 9) (by with_unfolding_all rfl) (by with_unfolding_all rfl) hA1 2 Tryd.sizeP (by with_unfolding_all rfl) (by with_unfolding_all rfl) (pvs_one _ _ _ _) ?_; intro w5 hA5 hB5 hF5 hS5))
    refine bodyPost_ret (results_V (t := 29) rfl _ w.heap.size _ rfl hA5 Tryd.undP 2 Tryd.sizeP rfl) rfl ⟨_, rfl, ?_, hB1.trans (hB5 _ (Nat.le_refl _))⟩
    rw [HL.out]
    exact NewS.nil _ _
  have e1 : decide (i < 0) = false := decide_eq_false hi
  by_cases hi2 : (n : Int) ≤ i
  · have e2 : decide ((n : Int) ≤ i) = true := decide_eq_true hi2
    have hcd : prfC l 0 i = 9 := prfC_none (by omega) ho (by omega)
    have HL : Hid (incL l i = []) := by show _ = _; unfold incL; rw [hcd, if_neg (by decide)]
    rw [hcd]
    clear hcd ho ho' hz
    clear h hx hk
    go_enter Tryd.func18, Tryd.ntmps18
    go_wp2_with (first
          | (with_reducible refine wpList_allocV (w := w) (by with_unfolding_all rfl) 29 (by with_unfolding_all rfl) (pvs (.slice none 0 0) 0) Tryd.infoP ?_; intro w1 hA1 hB1 hS1)
          | (go_at_call 52; refine (hC _ (HA.out.below hB1)).mono ?_; rintro e w' ⟨rfl, rfl⟩)
          | (with_reducible refine wpList_storeV (w := w1) (by with_unfolding_all rfl) 29 (.tmp 4) (.tmp 20) (by with_unfolding_all rfl) w.heap.size (pvs (.slice none 0 0) 0) (pvs (.slice none 0 0) 9) (by with_unfolding_all rfl) (by with_unfolding_all rfl) hA1 2 Tryd.sizeP (by with_unfolding_all rfl) (by with_unfolding_all rfl) (pvs_one _ _ _ _) ?_; intro w5 hA5 hB5 hF5 hS5))
    refine bodyPost_ret (results_V (t := 29) rfl _ w.heap.size _ rfl hA5 Tryd.undP 2 Tryd.sizeP rfl) rfl ⟨_, rfl, ?_, hB1.trans (hB5 _ (Nat.le_refl _))⟩
    rw [HL.out]
    exact NewS.nil _ _
  have e2 : decide ((n : Int) ≤ i) = false := decide_eq_false hi2
  have hcd : prfC l 0 i = 0 := prfC_ok (by omega) ho (by omega)
  obtain ⟨k, rfl⟩ := Int.eq_ofNat_of_zero_le (show 0 ≤ i by omega)
  have e3 : decide (n ≤ k) = false := decide_eq_false (by omega)
  have hL : incL l k = pthT l k := by unfold incL; rw [hcd, if_pos rfl]; rfl
  rw [hcd, hL]
  have hP : ∀ w0, Hid (SA w0 a l) → Hid (ArrU w0 0 keys) → 0 < w0.heap.size → Calls Tryd.prog 53 #[.slice a n c, .int .i64 (k : Int)] w0 fun e w' => ∃ v, e = .returned v ∧ w'.ownsRow w0.heap.size 9 1 v (pthT l k).length (svl (pthT l k)) ∧ Below w0.heap.size w0 w' := fun w0 h0 k1 k2 => ownPath a c n k l w0 hn (by omega) (by omega) hc h0.out (by have := ho'.1; omega) hcM ho'.2 k1.out k2
  have HK : Hid (ArrU w 0 keys) := hk
  generalize pthT l k = P at *
  clear h hx hcd ho ho' hL hz hk
  go_enter Tryd.func18, Tryd.ntmps18
  go_wp2_with (first
      | (with_reducible refine wpList_allocV (w := w) (by with_unfolding_all rfl) 29 (by with_unfolding_all rfl) (pvs (.slice none 0 0) 0) Tryd.infoP ?_; intro w1 hA1 hB1 hS1)
      | (go_at_call 52; refine (hC _ (HA.out.below hB1)).mono ?_; rintro e w' ⟨rfl, rfl⟩)
      | (go_at_call 53; refine (hP _ (HA.out.below hB1) (HK.out.below hB1 h0) (by omega)).mono ?_; rintro e w2 ⟨v2, rfl, hO2, hB2⟩; obtain ⟨a2, c2, rfl, hl2, hc2, hm2, hsa2⟩ := own_sa hO2; have V2 := hA1.below hB2 (by omega))
      | (with_reducible refine wpList_storeV (w := w2) (by with_unfolding_all rfl) 29 (.tmp 4) (.tmp 24) (by with_unfolding_all rfl) w.heap.size (pvs (.slice none 0 0) 0) (pvs (.slice a2 P.length c2) 0) (by with_unfolding_all rfl) (by with_unfolding_all rfl) V2 2 Tryd.sizeP (by with_unfolding_all rfl) (by with_unfolding_all rfl) (pvs_one _ _ _ _) ?_; intro w5 hA5 hB5 hF5 hS5))
  have hO1 : NewS w2 (w.heap.size + 1) (.slice a2 P.length c2) P := by rw [← hS1]; exact NewS.of_own hO2
  refine bodyPost_ret (results_V (t := 29) rfl _ w.heap.size _ rfl hA5 Tryd.undP 2 Tryd.sizeP rfl) rfl ⟨_, rfl, ?_, (hB1.trans (hB2.mono (by omega))).trans (hB5 _ (Nat.le_refl _))⟩
  exact hO1.far hF5
set_option maxRecDepth 100000 in
set_option maxHeartbeats 1000000 in
theorem conPI : ConPI := by
  intro a c n i l w hn hc h hM hcM hx wi hk h0
  have hC : ∀ w0, Hid (SA w0 a l) → Calls Tryd.prog 52 #[.slice a n c] w0 fun e w' => e = .returned (.int .i64 (lvC l)) ∧ w0 = w' := fun w0 h0 => codeLI a c n l w0 hn h0.out (by omega) hx
  have HA : Hid (SA w a l) := h
  by_cases hz : lvC l = 0
  case neg =>
    have hcd : prfC l 1 i = lvC l := prfC_lv hz
    have HL : Hid (conL l i = []) := by show _ = _; unfold conL; rw [hcd, if_neg hz]
    rw [hcd]
    have t1 : (lvC l != 0) = true := by simpa using hz
    clear hcd hz
    generalize lvC l = z at *
    clear h hx hk
    go_enter Tryd.func19, Tryd.ntmps19
    go_wp2_with (first
          | (with_reducible refine wpList_allocV (w := w) (by with_unfolding_all rfl) 29 (by with_unfolding_all rfl) (pvs (.slice none 0 0) 0) Tryd.infoP ?_; intro w1 hA1 hB1 hS1)
          | (go_at_call 52; refine (hC _ (HA.out.below hB1)).mono ?_; rintro e w' ⟨rfl, rfl⟩)
          | (with_reducible refine wpList_storeV (w := w1) (by with_unfolding_all rfl) 29 (.tmp 4) (.tmp 11) (by with_unfolding_all rfl) w.heap.size (pvs (.slice none 0 0) 0) (pvs (.slice none 0 0) z) (by with_unfolding_all rfl) (by with_unfolding_all rfl) hA1 2 Tryd.sizeP (by with_unfolding_all rfl) (by with_unfolding_all rfl) (pvs_one _ _ _ _) ?_; intro w5 hA5 hB5 hF5 hS5))
    refine bodyPost_ret (results_V (t := 29) rfl _ w.heap.size _ rfl hA5 Tryd.undP 2 Tryd.sizeP rfl) rfl ⟨_, rfl, ?_, hB1.trans (hB5 _ (Nat.le_refl _))⟩
    rw [HL.out]
    exact NewS.nil _ _
  obtain ⟨hn4, ho⟩ := lvC_ok hz
  rw [hz] at hC
  have ho' := okLv_of ho
  by_cases hi : i < 1
  · have e1 : decide (i < 1) = true := decide_eq_true hi
    have hcd : prfC l 1 i = 9 := prfC_none (by omega) ho (by omega)
    have HL : Hid (conL l i = []) := by show _ = _; unfold conL; rw [hcd, if_neg (by decide)]
    rw [hcd]
    clear hcd ho ho' hz
    clear h hx hk
    go_enter Tryd.func19, Tryd.ntmps19
    go_wp2_with (first
          | (with_reducible refine wpList_allocV (w := w) (by with_unfolding_all rfl) 29 (by with_unfolding_all rfl) (pvs (.slice none 0 0) 0) Tryd.infoP ?_; intro w1 hA1 hB1 hS1)
          | (go_at_call 52; refine (hC _ (HA.out.below hB1)).mono ?_; rintro e w' ⟨rfl, rfl⟩)
          | (with_reducible refine wpList_storeV (w := w1) (by with_unfolding_all rfl) 29 (.tmp 4) (.tmp 20) (by with_unfolding_all rfl) w.heap.size (pvs (.slice none 0 0) 0) (pvs (.slice none 0 0) 9) (by with_unfolding_all rfl) (by with_unfolding_all rfl) hA1 2 Tryd.sizeP (by with_unfolding_all rfl) (by with_unfolding_all rfl) (pvs_one _ _ _ _) ?_; intro w5 hA5 hB5 hF5 hS5))
    refine bodyPost_ret (results_V (t := 29) rfl _ w.heap.size _ rfl hA5 Tryd.undP 2 Tryd.sizeP rfl) rfl ⟨_, rfl, ?_, hB1.trans (hB5 _ (Nat.le_refl _))⟩
    rw [HL.out]
    exact NewS.nil _ _
  have e1 : decide (i < 1) = false := decide_eq_false hi
  by_cases hi2 : (n : Int) < i
  · have e2 : decide ((n : Int) < i) = true := decide_eq_true hi2
    have hcd : prfC l 1 i = 9 := prfC_none (by omega) ho (by omega)
    have HL : Hid (conL l i = []) := by show _ = _; unfold conL; rw [hcd, if_neg (by decide)]
    rw [hcd]
    clear hcd ho ho' hz
    clear h hx hk
    go_enter Tryd.func19, Tryd.ntmps19
    go_wp2_with (first
          | (with_reducible refine wpList_allocV (w := w) (by with_unfolding_all rfl) 29 (by with_unfolding_all rfl) (pvs (.slice none 0 0) 0) Tryd.infoP ?_; intro w1 hA1 hB1 hS1)
          | (go_at_call 52; refine (hC _ (HA.out.below hB1)).mono ?_; rintro e w' ⟨rfl, rfl⟩)
          | (with_reducible refine wpList_storeV (w := w1) (by with_unfolding_all rfl) 29 (.tmp 4) (.tmp 20) (by with_unfolding_all rfl) w.heap.size (pvs (.slice none 0 0) 0) (pvs (.slice none 0 0) 9) (by with_unfolding_all rfl) (by with_unfolding_all rfl) hA1 2 Tryd.sizeP (by with_unfolding_all rfl) (by with_unfolding_all rfl) (pvs_one _ _ _ _) ?_; intro w5 hA5 hB5 hF5 hS5))
    refine bodyPost_ret (results_V (t := 29) rfl _ w.heap.size _ rfl hA5 Tryd.undP 2 Tryd.sizeP rfl) rfl ⟨_, rfl, ?_, hB1.trans (hB5 _ (Nat.le_refl _))⟩
    rw [HL.out]
    exact NewS.nil _ _
  have e2 : decide ((n : Int) < i) = false := decide_eq_false hi2
  have hcd : prfC l 1 i = 0 := prfC_ok (by omega) ho (by omega)
  obtain ⟨k, rfl⟩ := Int.eq_ofNat_of_zero_le (show 0 ≤ i by omega)
  have e3 : decide (n < k) = false := decide_eq_false (by omega)
  have hL : conL l k = prT l k true := by unfold conL; rw [hcd, if_pos rfl]; rfl
  rw [hcd, hL]
  have hP : ∀ w0, Hid (SA w0 a l) → Hid (ArrU w0 0 keys) → 0 < w0.heap.size → Calls Tryd.prog 54 #[.slice a n c, .int .i64 (k : Int)] w0 fun e w' => ∃ v, e = .returned v ∧ w'.ownsRow w0.heap.size 9 1 v (prT l k true).length (svl (prT l k true)) ∧ Below w0.heap.size w0 w' := fun w0 h0 k1 k2 => ownProof a c n k l w0 hn (by omega) (by omega) hc h0.out (by have := ho'.1; omega) hcM ho'.2 k1.out k2
  have HK : Hid (ArrU w 0 keys) := hk
  generalize prT l k true = P at *
  clear h hx hcd ho ho' hL hz hk
  go_enter Tryd.func19, Tryd.ntmps19
  go_wp2_with (first
      | (with_reducible refine wpList_allocV (w := w) (by with_unfolding_all rfl) 29 (by with_unfolding_all rfl) (pvs (.slice none 0 0) 0) Tryd.infoP ?_; intro w1 hA1 hB1 hS1)
      | (go_at_call 52; refine (hC _ (HA.out.below hB1)).mono ?_; rintro e w' ⟨rfl, rfl⟩)
      | (go_at_call 54; refine (hP _ (HA.out.below hB1) (HK.out.below hB1 h0) (by omega)).mono ?_; rintro e w2 ⟨v2, rfl, hO2, hB2⟩; obtain ⟨a2, c2, rfl, hl2, hc2, hm2, hsa2⟩ := own_sa hO2; have V2 := hA1.below hB2 (by omega))
      | (with_reducible refine wpList_storeV (w := w2) (by with_unfolding_all rfl) 29 (.tmp 4) (.tmp 24) (by with_unfolding_all rfl) w.heap.size (pvs (.slice none 0 0) 0) (pvs (.slice a2 P.length c2) 0) (by with_unfolding_all rfl) (by with_unfolding_all rfl) V2 2 Tryd.sizeP (by with_unfolding_all rfl) (by with_unfolding_all rfl) (pvs_one _ _ _ _) ?_; intro w5 hA5 hB5 hF5 hS5))
  have hO1 : NewS w2 (w.heap.size + 1) (.slice a2 P.length c2) P := by rw [← hS1]; exact NewS.of_own hO2
  refine bodyPost_ret (results_V (t := 29) rfl _ w.heap.size _ rfl hA5 Tryd.undP 2 Tryd.sizeP rfl) rfl ⟨_, rfl, ?_, (hB1.trans (hB2.mono (by omega))).trans (hB5 _ (Nat.le_refl _))⟩
  exact hO1.far hF5
end Go.Proofs.YtoaoaagfnkpkdaaDoor
