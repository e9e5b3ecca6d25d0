/- Paths and proofs of the specification, walked. InclusionProof and ConsistencyProof of the specification, for every argument. InclusionProof and ConsistencyProof of the specification: the proof that is told is none, or lies in a block. The draws for InclusionCheck and ConsistencyCheck: what is told, and that nothing that was there changes. The draw for ConsistencyCheck: what is told, and that nothing that was there changes. -/
import Derived.Test.YtoaoaagfnkpkdaaDoorInc
import Derived.Test.YtoaoaagfnkpkdaaDoorOwnS
import Derived.Test.YtoaoaagfnkpkdaaDoorDrwP
namespace Go.Proofs.YtoaoaagfnkpkdaaDoor
open Go.RowKit
set_option linter.unusedVariables false

def pthT (l : List ByteArray) (i : Nat) : List ByteArray := Mer.pth nodeD emptyD (l.map leafD) i
theorem pthT_one {l : List ByteArray} (h : l.length ≤ 1) (i : Nat) : pthT l i = [] := Mer.pth_one nodeD emptyD (by rw [List.length_map]; exact h) i
theorem pthT_lo {l : List ByteArray} {i : Nat} (h : 2 ≤ l.length) (hi : i < Mer.half l.length) : pthT l i = pthT (l.take (Mer.half l.length)) i ++ [rtT (l.drop (Mer.half l.length))] := by
  unfold pthT rtT
  rw [Mer.pth_lo nodeD emptyD (by rw [List.length_map]; exact h) (by rw [List.length_map]; exact hi), List.length_map, List.map_take, List.map_drop]
theorem pthT_hi {l : List ByteArray} {i : Nat} (h : 2 ≤ l.length) (hi : Mer.half l.length ≤ i) : pthT l i = pthT (l.drop (Mer.half l.length)) (i - Mer.half l.length) ++ [rtT (l.take (Mer.half l.length))] := by
  unfold pthT rtT
  rw [Mer.pth_hi nodeD emptyD (by rw [List.length_map]; exact h) (by rw [List.length_map]; exact hi), List.length_map, List.map_take, List.map_drop]
theorem pthT_len {l : List ByteArray} (h : l.length ≤ 1024) (i : Nat) : (pthT l i).length ≤ 10 := Mer.pth_len nodeD emptyD 10 _ i (by rw [List.length_map]; exact h)
attribute [local go_sem ↓] Go.wp_at_zero Go.wp_at_succ

set_option maxRecDepth 100000 in
set_option maxHeartbeats 2000000 in
theorem specPath : ∀ (m : Nat) (a : Option Addr) (c n i : Nat) (l : List ByteArray) (w : World), l.length ≤ m → l.length = n → 1 ≤ n → i < n → n ≤ c → SA w a l → n ≤ 1000 → c ≤ 9223372036854775807 → (∀ x ∈ l, x.size < 20000) →
    Calls Tryd.prog 72 #[.slice a n c, .int .i64 (i : Int)] w fun e w' => ∃ v, e = .returned v ∧ w'.ownsRow w.heap.size 9 1 v (pthT l i).length (svl (pthT l i)) ∧ Below w.heap.size w w'
  | m, a, c, n, i, l, w, hm, hn, hn1, hin, hc, hA, hM, hcM, hx => by
    by_cases h1 : n = 1
    · have HP : Hid (pthT l i = []) := pthT_one (by omega) i
      subst h1
      clear hA hx
      go_enter Tryd.func72, Tryd.ntmps72
      go_wp2
      go_ret
      refine ⟨_, rfl, ?_, (Below.refl _ _).alloc (Nat.le_refl _) _⟩
      rw [HP.out]
      exact World.ownsRow_made w #[] 0 (Nat.le_refl _) (Nat.zero_le _) rfl
    have d1 : ((n : Int) == 1) = false := beq_eq_false_iff_ne.2 (by omega)
    have h2 : 2 ≤ n := by omega
    match m, hm with
    | 0, hm => omega
    | m + 1, hm =>
    have hl := Mer.half_lt h2
    have hp := Mer.half_pos n
    obtain ⟨b, o, rfl⟩ := hA.base (by omega)
    have l1 : (l.take (Mer.half n)).length = Mer.half n := by rw [List.length_take]; omega
    have l2 : (l.drop (Mer.half n)).length = n - Mer.half n := by rw [List.length_drop]; omega
    have hH : ∀ w0, Calls Tryd.prog 79 #[.int .i64 (n : Int)] w0 fun e w' => e = .returned (.int .i64 (Mer.half n : Int)) ∧ w0 = w' := fun w0 => (specHalf n w0 h2 (by omega)).mono fun e w' h => ⟨h.1, h.2.symm⟩
    have HS0 : Hid (KpR w (some ⟨b, o, none⟩) l w) := KpR.mk (Below.refl _ _) hA
    by_cases hik : i < Mer.half n
    · have hR1 : ∀ w0, Hid (KpR w (some ⟨b, o, none⟩) l w0) → Calls Tryd.prog 72 #[.slice (some ⟨b, o, none⟩) (Mer.half n) c, .int .i64 (i : Int)] w0 fun e w' => ∃ v, e = .returned v ∧ w'.ownsRow w0.heap.size 9 1 v (pthT (l.take (Mer.half n)) i).length (svl (pthT (l.take (Mer.half n)) i)) ∧ Below w0.heap.size w0 w' := fun w0 h =>
        specPath m (some ⟨b, o, none⟩) c (Mer.half n) i (l.take (Mer.half n)) w0 (by omega) l1 (by omega) hik (by omega) (h.out.sa.take _) (by omega) hcM (fun x hx' => hx x (List.mem_of_mem_take hx'))
      have hR2 : ∀ w0, Hid (KpR w (some ⟨b, o, none⟩) l w0) → Calls Tryd.prog 48 #[.slice (some ⟨b, o + Mer.half n, none⟩) (n - Mer.half n) (c - Mer.half n)] w0 fun e w' => e = .returned (.string (rtT (l.drop (Mer.half n)))) ∧ Below w0.heap.size w0 w' := fun w0 h =>
        specRoot n (some ⟨b, o + Mer.half n, none⟩) (c - Mer.half n) (n - Mer.half n) (l.drop (Mer.half n)) w0 (by omega) l2 (by omega) (h.out.sa.drop _) (by omega) (by omega) (fun x hx' => hx x (List.mem_of_mem_drop hx'))
      have HE : Hid (pthT l i = pthT (l.take (Mer.half n)) i ++ [rtT (l.drop (Mer.half n))]) := by show _ = _; rw [pthT_lo (by omega) (by rw [hn]; exact hik), hn]
      have hP1 : (pthT (l.take (Mer.half n)) i).length ≤ 1000000 := by have := pthT_len (l := l.take (Mer.half n)) (by omega) i; omega
      generalize pthT (l.take (Mer.half n)) i = P1 at *
      generalize rtT (l.drop (Mer.half n)) = T2 at *
      generalize Mer.half n = k at *
      have s1 := Tryd.sliceLo b o n c k (by omega)
      have s2 := Tryd.sliceHi b o n c k (by omega) (by omega)
      have hik' : (i : Int) < (k : Int) := by omega
      clear hA hx l1 l2
      go_enter Tryd.func72, Tryd.ntmps72
      go_wp2_with (first
        | (go_at_call 79; refine (hH _).mono ?_; rintro e w' ⟨rfl, rfl⟩))
      have HS : Hid (KpR w (some ⟨b, o, none⟩) l w.drew) := KpR.drew HS0
      clear HS0 hH
      refine wp_region_held_drew (S := fun w' => Below w.heap.size w w') (by kernel_rfl) HS.out.below (fun hHeld => ?_)
      refine wpAnyH_take (i := 0) (oi := ⟨_, _, _, _, _, _⟩) (v := .slice (some ⟨b, o, none⟩) n c) rfl (by kernel_rfl) (by kernel_rfl) (by kernel_rfl) (fun _ _ _ h => h) (Or.inl ⟨wn' rfl, fun w' hSw => ?_⟩) hHeld ?_
      · go_simp
      simp only [Act.put, List.setIfInBounds_toArray, List.set_cons_zero, List.set_cons_succ]
      refine wpAnyH_take (i := 1) (oi := ⟨_, _, _, _, _, _⟩) (v := .int .i64 (k : Int)) rfl (by kernel_rfl) (by kernel_rfl) (by kernel_rfl) (fun _ _ _ h => h) (Or.inl ⟨wn' rfl, fun w' hSw => ?_⟩) hHeld ?_
      · go_simp
      simp only [Act.put, List.setIfInBounds_toArray, List.set_cons_zero, List.set_cons_succ]
      refine wpAnyH_take (i := 2) (oi := ⟨_, _, _, _, _, _⟩) (v := .slice (some ⟨b, o, none⟩) k c) rfl (by kernel_rfl) (by kernel_rfl) (by kernel_rfl) (fun _ _ _ h => h) (Or.inl ⟨wn' rfl, fun w' hSw => ?_⟩) hHeld ?_
      · go_simp
      simp only [Act.put, List.setIfInBounds_toArray, List.set_cons_zero, List.set_cons_succ]
      refine wpAnyH_take (i := 3) (oi := ⟨_, _, _, _, _, _⟩) (v := .int .i64 (i : Int)) rfl (by kernel_rfl) (by kernel_rfl) (by kernel_rfl) (fun _ _ _ h => h) (Or.inl ⟨wn' rfl, fun w' hSw => ?_⟩) hHeld ?_
      · go_simp
      simp only [Act.put, List.setIfInBounds_toArray, List.set_cons_zero, List.set_cons_succ]
      refine wpAnyH_take (i := 5) (oi := ⟨_, _, _, _, _, _⟩) (v := .slice (some ⟨b, o, none⟩) n c) rfl (by kernel_rfl) (by kernel_rfl) (by kernel_rfl) (fun _ _ _ h => h) (Or.inl ⟨wn' rfl, fun w' hSw => ?_⟩) hHeld ?_
      · go_simp
      simp only [Act.put, List.setIfInBounds_toArray, List.set_cons_zero, List.set_cons_succ]
      refine wpAnyH_take (i := 6) (oi := ⟨_, _, _, _, _, _⟩) (v := .int .i64 (k : Int)) rfl (by kernel_rfl) (by kernel_rfl) (by kernel_rfl) (fun _ _ _ h => h) (Or.inl ⟨wn' rfl, fun w' hSw => ?_⟩) hHeld ?_
      · go_simp
      simp only [Act.put, List.setIfInBounds_toArray, List.set_cons_zero, List.set_cons_succ]
      refine wpAnyH_take (i := 7) (oi := ⟨_, _, _, _, _, _⟩) (v := .slice (some ⟨b, o + k, none⟩) (n - k) (c - k)) rfl (by kernel_rfl) (by kernel_rfl) (by kernel_rfl) (fun _ _ _ h => h) (Or.inl ⟨wn' rfl, fun w' hSw => ?_⟩) hHeld ?_
      · go_simp
      simp only [Act.put, List.setIfInBounds_toArray, List.set_cons_zero, List.set_cons_succ]
      refine wpAnyH_ready (rs := [4]) (by kernel_rfl) (by simp) (AllReadyH.cons (o := ⟨_, _, _, _, _, _⟩) rfl (fun K hK => ?_) AllReadyH.nil)
      rewrite [if_pos (wn' rfl)]
      go_simp
      refine (hR1 _ HS).mono ?_
      rintro e w1 ⟨v1, rfl, hO1, hB1⟩
      go_wp2_with fail
      have HS1 : Hid (KpR w (some ⟨b, o, none⟩) l w1) := KpR.hid HS hB1
      refine hK.out _ _ HS1.out.below (fun _ => ?_)
      clear hK K
      try simp only [Act.put, List.setIfInBounds_toArray, List.set_cons_zero, List.set_cons_succ]
      refine wpAnyH_ready (rs := [8]) (by kernel_rfl) (by simp) (AllReadyH.cons (o := ⟨_, _, _, _, _, _⟩) rfl (fun K hK => ?_) AllReadyH.nil)
      rewrite [if_pos (wn' rfl)]
      go_simp
      refine (hR2 _ HS1).mono ?_
      rintro e w2 ⟨rfl, hB2⟩
      go_wp2_with fail
      have HS2 : Hid (KpR w (some ⟨b, o, none⟩) l w2) := KpR.hid HS1 hB2
      have hO2 := own_below hO1 hB2
      refine hK.out _ _ HS2.out.below (fun _ => ?_)
      clear hK K
      try simp only [Act.put, List.setIfInBounds_toArray, List.set_cons_zero, List.set_cons_succ]
      refine wpAnyH_ready (rs := [9]) (by kernel_rfl) (by simp) (AllReadyH.cons (o := ⟨_, _, _, _, _, _⟩) rfl (fun K hK => ?_) AllReadyH.nil)
      rewrite [if_pos (wn' rfl)]
      go_wp2_with fail
      have B3 : Below w.heap.size w (w2.alloc (.cells #[.string T2] 9)) := HS2.out.below.alloc HS2.out.below.size _
      have hO3 : (w2.alloc (.cells #[.string T2] 9)).ownsRow w.heap.size 9 1 v1 P1.length (svl P1) := hO2.alloc (.cells #[.string T2] 9)
      have hc3 : (w2.alloc (.cells #[.string T2] 9)).cell? ⟨w2.heap.size, 0, none⟩ = some (.string T2) := by simp
      have z3 : (w2.alloc (.cells #[.string T2] 9)).heap.size = w2.heap.size + 1 := Array.size_push _
      refine hK.out _ _ B3 (fun _ => ?_)
      clear hK K
      try simp only [Act.put, List.setIfInBounds_toArray, List.set_cons_zero, List.set_cons_succ]
      generalize w2.alloc (.cells #[.string T2] 9) = w3 at *
      refine wpAnyH_ready (rs := [10]) (by kernel_rfl) (by simp) (AllReadyH.cons (o := ⟨_, _, _, _, _, _⟩) rfl (fun K hK => ?_) AllReadyH.nil)
      rewrite [if_pos (wn' rfl)]
      with_reducible refine wp_append_str (.tmp 20) (.tmp 25) (by with_unfolding_all rfl) w.heap.size v1 P1.length P1 (by with_unfolding_all rfl) hO3 w2.heap.size 1 T2 (by with_unfolding_all rfl) hc3 hP1 B3.size ?_
      intro v4 w4 hO4 hB4
      have B4 : Below w.heap.size w w4 := B3.trans hB4
      refine hK.out _ _ B4 (fun _ => ?_)
      clear hK K
      try simp only [Act.put, List.setIfInBounds_toArray, List.set_cons_zero, List.set_cons_succ]
      refine wpAnyH_take (i := 11) (oi := ⟨_, _, _, _, _, _⟩) (v := v4) rfl (by kernel_rfl) (by kernel_rfl) (by kernel_rfl) (fun _ _ _ h => h) (Or.inl ⟨wn' rfl, fun w' hSw => ?_⟩) B4 ?_
      · go_simp
      simp only [Act.put, List.setIfInBounds_toArray, List.set_cons_zero, List.set_cons_succ]
      refine wpAnyH_done (by kernel_rfl) ?_ _
      clear HS HS1 HS2 hO1 hO2 hO3 hc3 hHeld hB1 hB2 hB4 B3
      go_wp2
      go_ret
      refine ⟨v4, rfl, ?_, B4⟩
      rw [HE.out, List.length_append]
      exact hO4
    · have hR1 : ∀ w0, Hid (KpR w (some ⟨b, o, none⟩) l w0) → Calls Tryd.prog 72 #[.slice (some ⟨b, o + Mer.half n, none⟩) (n - Mer.half n) (c - Mer.half n), .int .i64 ((i - Mer.half n : Nat) : Int)] w0 fun e w' => ∃ v, e = .returned v ∧ w'.ownsRow w0.heap.size 9 1 v (pthT (l.drop (Mer.half n)) (i - Mer.half n)).length (svl (pthT (l.drop (Mer.half n)) (i - Mer.half n))) ∧ Below w0.heap.size w0 w' := fun w0 h =>
        specPath m (some ⟨b, o + Mer.half n, none⟩) (c - Mer.half n) (n - Mer.half n) (i - Mer.half n) (l.drop (Mer.half n)) w0 (by omega) l2 (by omega) (by omega) (by omega) (h.out.sa.drop _) (by omega) (by omega) (fun x hx' => hx x (List.mem_of_mem_drop hx'))
      have hR2 : ∀ w0, Hid (KpR w (some ⟨b, o, none⟩) l w0) → Calls Tryd.prog 48 #[.slice (some ⟨b, o, none⟩) (Mer.half n) c] w0 fun e w' => e = .returned (.string (rtT (l.take (Mer.half n)))) ∧ Below w0.heap.size w0 w' := fun w0 h =>
        specRoot n (some ⟨b, o, none⟩) c (Mer.half n) (l.take (Mer.half n)) w0 (by omega) l1 (by omega) (h.out.sa.take _) (by omega) hcM (fun x hx' => hx x (List.mem_of_mem_take hx'))
      have HE : Hid (pthT l i = pthT (l.drop (Mer.half n)) (i - Mer.half n) ++ [rtT (l.take (Mer.half n))]) := by show _ = _; rw [pthT_hi (by omega) (by rw [hn]; omega), hn]
      have hP1 : (pthT (l.drop (Mer.half n)) (i - Mer.half n)).length ≤ 1000000 := by have := pthT_len (l := l.drop (Mer.half n)) (by omega) (i - Mer.half n); omega
      generalize pthT (l.drop (Mer.half n)) (i - Mer.half n) = P1 at *
      generalize rtT (l.take (Mer.half n)) = T2 at *
      generalize Mer.half n = k at *
      have s1 := Tryd.sliceLo b o n c k (by omega)
      have s2 := Tryd.sliceHi b o n c k (by omega) (by omega)
      have hik' : ¬ (i : Int) < (k : Int) := by omega
      obtain ⟨j, hj⟩ : ∃ j : Nat, i - k = j := ⟨_, rfl⟩
      have es : IntKind.i64.wrap ((i : Int) - (k : Int)) = (j : Int) := by rw [IntKind.wrap_i64]; omega
      rw [hj] at hR1
      clear hA hx l1 l2 hj
      go_enter Tryd.func72, Tryd.ntmps72
      go_wp2_with (first
        | (go_at_call 79; refine (hH _).mono ?_; rintro e w' ⟨rfl, rfl⟩))
      have HS : Hid (KpR w (some ⟨b, o, none⟩) l w.drew) := KpR.drew HS0
      clear HS0 hH
      refine wp_region_held_drew (S := fun w' => Below w.heap.size w w') (by kernel_rfl) HS.out.below (fun hHeld => ?_)
      refine wpAnyH_take (i := 0) (oi := ⟨_, _, _, _, _, _⟩) (v := .slice (some ⟨b, o, none⟩) n c) rfl (by kernel_rfl) (by kernel_rfl) (by kernel_rfl) (fun _ _ _ h => h) (Or.inl ⟨wn' rfl, fun w' hSw => ?_⟩) hHeld ?_
      · go_simp
      simp only [Act.put, List.setIfInBounds_toArray, List.set_cons_zero, List.set_cons_succ]
      refine wpAnyH_take (i := 1) (oi := ⟨_, _, _, _, _, _⟩) (v := .int .i64 (k : Int)) rfl (by kernel_rfl) (by kernel_rfl) (by kernel_rfl) (fun _ _ _ h => h) (Or.inl ⟨wn' rfl, fun w' hSw => ?_⟩) hHeld ?_
      · go_simp
      simp only [Act.put, List.setIfInBounds_toArray, List.set_cons_zero, List.set_cons_succ]
      refine wpAnyH_take (i := 2) (oi := ⟨_, _, _, _, _, _⟩) (v := .slice (some ⟨b, o + k, none⟩) (n - k) (c - k)) rfl (by kernel_rfl) (by kernel_rfl) (by kernel_rfl) (fun _ _ _ h => h) (Or.inl ⟨wn' rfl, fun w' hSw => ?_⟩) hHeld ?_
      · go_simp
      simp only [Act.put, List.setIfInBounds_toArray, List.set_cons_zero, List.set_cons_succ]
      refine wpAnyH_take (i := 3) (oi := ⟨_, _, _, _, _, _⟩) (v := .int .i64 (i : Int)) rfl (by kernel_rfl) (by kernel_rfl) (by kernel_rfl) (fun _ _ _ h => h) (Or.inl ⟨wn' rfl, fun w' hSw => ?_⟩) hHeld ?_
      · go_simp
      simp only [Act.put, List.setIfInBounds_toArray, List.set_cons_zero, List.set_cons_succ]
      refine wpAnyH_take (i := 4) (oi := ⟨_, _, _, _, _, _⟩) (v := .int .i64 (k : Int)) rfl (by kernel_rfl) (by kernel_rfl) (by kernel_rfl) (fun _ _ _ h => h) (Or.inl ⟨wn' rfl, fun w' hSw => ?_⟩) hHeld ?_
      · go_simp
      simp only [Act.put, List.setIfInBounds_toArray, List.set_cons_zero, List.set_cons_succ]
      refine wpAnyH_take (i := 5) (oi := ⟨_, _, _, _, _, _⟩) (v := .int .i64 (j : Int)) rfl (by kernel_rfl) (by kernel_rfl) (by kernel_rfl) (fun _ _ _ h => h) (Or.inl ⟨wn' rfl, fun w' hSw => ?_⟩) hHeld ?_
      · go_simp
      simp only [Act.put, List.setIfInBounds_toArray, List.set_cons_zero, List.set_cons_succ]
      refine wpAnyH_take (i := 7) (oi := ⟨_, _, _, _, _, _⟩) (v := .slice (some ⟨b, o, none⟩) n c) rfl (by kernel_rfl) (by kernel_rfl) (by kernel_rfl) (fun _ _ _ h => h) (Or.inl ⟨wn' rfl, fun w' hSw => ?_⟩) hHeld ?_
      · go_simp
      simp only [Act.put, List.setIfInBounds_toArray, List.set_cons_zero, List.set_cons_succ]
      refine wpAnyH_take (i := 8) (oi := ⟨_, _, _, _, _, _⟩) (v := .int .i64 (k : Int)) rfl (by kernel_rfl) (by kernel_rfl) (by kernel_rfl) (fun _ _ _ h => h) (Or.inl ⟨wn' rfl, fun w' hSw => ?_⟩) hHeld ?_
      · go_simp
      simp only [Act.put, List.setIfInBounds_toArray, List.set_cons_zero, List.set_cons_succ]
      refine wpAnyH_take (i := 9) (oi := ⟨_, _, _, _, _, _⟩) (v := .slice (some ⟨b, o, none⟩) k c) rfl (by kernel_rfl) (by kernel_rfl) (by kernel_rfl) (fun _ _ _ h => h) (Or.inl ⟨wn' rfl, fun w' hSw => ?_⟩) hHeld ?_
      · go_simp
      simp only [Act.put, List.setIfInBounds_toArray, List.set_cons_zero, List.set_cons_succ]
      refine wpAnyH_ready (rs := [6]) (by kernel_rfl) (by simp) (AllReadyH.cons (o := ⟨_, _, _, _, _, _⟩) rfl (fun K hK => ?_) AllReadyH.nil)
      rewrite [if_pos (wn' rfl)]
      go_simp
      refine (hR1 _ HS).mono ?_
      rintro e w1 ⟨v1, rfl, hO1, hB1⟩
      go_wp2_with fail
      have HS1 : Hid (KpR w (some ⟨b, o, none⟩) l w1) := KpR.hid HS hB1
      refine hK.out _ _ HS1.out.below (fun _ => ?_)
      clear hK K
      try simp only [Act.put, List.setIfInBounds_toArray, List.set_cons_zero, List.set_cons_succ]
      refine wpAnyH_ready (rs := [10]) (by kernel_rfl) (by simp) (AllReadyH.cons (o := ⟨_, _, _, _, _, _⟩) rfl (fun K hK => ?_) AllReadyH.nil)
      rewrite [if_pos (wn' rfl)]
      go_simp
      refine (hR2 _ HS1).mono ?_
      rintro e w2 ⟨rfl, hB2⟩
      go_wp2_with fail
      have HS2 : Hid (KpR w (some ⟨b, o, none⟩) l w2) := KpR.hid HS1 hB2
      have hO2 := own_below hO1 hB2
      refine hK.out _ _ HS2.out.below (fun _ => ?_)
      clear hK K
      try simp only [Act.put, List.setIfInBounds_toArray, List.set_cons_zero, List.set_cons_succ]
      refine wpAnyH_ready (rs := [11]) (by kernel_rfl) (by simp) (AllReadyH.cons (o := ⟨_, _, _, _, _, _⟩) rfl (fun K hK => ?_) AllReadyH.nil)
      rewrite [if_pos (wn' rfl)]
      go_wp2_with fail
      have B3 : Below w.heap.size w (w2.alloc (.cells #[.string T2] 9)) := HS2.out.below.alloc HS2.out.below.size _
      have hO3 : (w2.alloc (.cells #[.string T2] 9)).ownsRow w.heap.size 9 1 v1 P1.length (svl P1) := hO2.alloc (.cells #[.string T2] 9)
      have hc3 : (w2.alloc (.cells #[.string T2] 9)).cell? ⟨w2.heap.size, 0, none⟩ = some (.string T2) := by simp
      have z3 : (w2.alloc (.cells #[.string T2] 9)).heap.size = w2.heap.size + 1 := Array.size_push _
      refine hK.out _ _ B3 (fun _ => ?_)
      clear hK K
      try simp only [Act.put, List.setIfInBounds_toArray, List.set_cons_zero, List.set_cons_succ]
      generalize w2.alloc (.cells #[.string T2] 9) = w3 at *
      refine wpAnyH_ready (rs := [12]) (by kernel_rfl) (by simp) (AllReadyH.cons (o := ⟨_, _, _, _, _, _⟩) rfl (fun K hK => ?_) AllReadyH.nil)
      rewrite [if_pos (wn' rfl)]
      with_reducible refine wp_append_str (.tmp 33) (.tmp 38) (by with_unfolding_all rfl) w.heap.size v1 P1.length P1 (by with_unfolding_all rfl) hO3 w2.heap.size 1 T2 (by with_unfolding_all rfl) hc3 hP1 B3.size ?_
      intro v4 w4 hO4 hB4
      have B4 : Below w.heap.size w w4 := B3.trans hB4
      refine hK.out _ _ B4 (fun _ => ?_)
      clear hK K
      try simp only [Act.put, List.setIfInBounds_toArray, List.set_cons_zero, List.set_cons_succ]
      refine wpAnyH_take (i := 13) (oi := ⟨_, _, _, _, _, _⟩) (v := v4) rfl (by kernel_rfl) (by kernel_rfl) (by kernel_rfl) (fun _ _ _ h => h) (Or.inl ⟨wn' rfl, fun w' hSw => ?_⟩) B4 ?_
      · go_simp
      simp only [Act.put, List.setIfInBounds_toArray, List.set_cons_zero, List.set_cons_succ]
      refine wpAnyH_done (by kernel_rfl) ?_ _
      clear HS HS1 HS2 hO1 hO2 hO3 hc3 hHeld hB1 hB2 hB4 B3
      go_wp2
      go_ret
      refine ⟨v4, rfl, ?_, B4⟩
      rw [HE.out, List.length_append]
      exact hO4

def prT (l : List ByteArray) (k : Nat) (kn : Bool) : List ByteArray := Mer.pr nodeD emptyD (l.map leafD) k kn
theorem prT_all {l : List ByteArray} (h : 1 ≤ l.length) (kn : Bool) : prT l l.length kn = if kn then [] else [rtT l] := by
  have := Mer.pr_all nodeD emptyD (l := l.map leafD) (by rw [List.length_map]; exact h) kn
  rw [List.length_map] at this
  exact this
theorem prT_lo {l : List ByteArray} {k : Nat} (h1 : 1 ≤ k) (h2 : k < l.length) (hk : k ≤ Mer.half l.length) (kn : Bool) : prT l k kn = prT (l.take (Mer.half l.length)) k kn ++ [rtT (l.drop (Mer.half l.length))] := by
  unfold prT rtT
  rw [Mer.pr_lo nodeD emptyD h1 (by rw [List.length_map]; exact h2) (by rw [List.length_map]; exact hk), List.length_map, List.map_take, List.map_drop]
theorem prT_hi {l : List ByteArray} {k : Nat} (h1 : 1 ≤ k) (h2 : k < l.length) (hk : Mer.half l.length < k) (kn : Bool) : prT l k kn = prT (l.drop (Mer.half l.length)) (k - Mer.half l.length) false ++ [rtT (l.take (Mer.half l.length))] := by
  unfold prT rtT
  rw [Mer.pr_hi nodeD emptyD h1 (by rw [List.length_map]; exact h2) (by rw [List.length_map]; exact hk), List.length_map, List.map_take, List.map_drop]
theorem prT_len {l : List ByteArray} (h : l.length ≤ 1024) {k : Nat} (h1 : 1 ≤ k) (h2 : k ≤ l.length) (kn : Bool) : (prT l k kn).length ≤ 11 := Mer.pr_len nodeD emptyD 10 _ k kn h1 (by rw [List.length_map]; exact h2) (by rw [List.length_map]; exact h)

set_option maxRecDepth 100000 in
set_option maxHeartbeats 2000000 in
theorem specProof : ∀ (m : Nat) (a : Option Addr) (c n i : Nat) (kn : Bool) (l : List ByteArray) (w : World), l.length ≤ m → l.length = n → 1 ≤ i → i ≤ n → n ≤ c → SA w a l → n ≤ 1000 → c ≤ 9223372036854775807 → (∀ x ∈ l, x.size < 20000) →
    Calls Tryd.prog 75 #[.slice a n c, .int .i64 (i : Int), .bool kn] w fun e w' => ∃ v, e = .returned v ∧ w'.ownsRow w.heap.size 9 1 v (prT l i kn).length (svl (prT l i kn)) ∧ Below w.heap.size w w'
  | m, a, c, n, i, kn, l, w, hm, hn, hi1, hin, hc, hA, hM, hcM, hx => by
    by_cases h1 : i = n
    · have d1 : ((i : Int) == (n : Int)) = true := beq_iff_eq.2 (by omega)
      have HP : Hid (prT l i kn = if kn then [] else [rtT l]) := by show _ = _; rw [h1, ← hn]; exact prT_all (by omega) kn
      have hR : Calls Tryd.prog 48 #[.slice a n c] w fun e w' => e = .returned (.string (rtT l)) ∧ Below w.heap.size w w' := specRoot n a c n l w (by omega) hn hc hA (by omega) hcM hx
      have HR : Hid _ := hR
      clear hA hx hR h1
      generalize rtT l = T at *
      cases kn
      · go_enter Tryd.func75, Tryd.ntmps75
        go_wp2_with (go_at_call 48; refine Calls.mono HR.out ?_; rintro e w1 ⟨rfl, hB1⟩)
        go_ret
        have z1 := hB1.size
        refine ⟨_, rfl, ?_, hB1.alloc z1 _⟩
        rw [HP.out]
        exact World.ownsRow_lit w1 #[.string T] 1 z1 (by unfold maxLen; omega) rfl
      · clear HR
        go_enter Tryd.func75, Tryd.ntmps75
        go_wp2
        go_ret
        refine ⟨_, rfl, ?_, (Below.refl _ _).alloc (Nat.le_refl _) _⟩
        rw [HP.out]
        exact World.ownsRow_made w #[] 0 (Nat.le_refl _) (Nat.zero_le _) rfl
    have d1 : ((i : Int) == (n : Int)) = false := beq_eq_false_iff_ne.2 (by omega)
    have h2 : 2 ≤ n := by omega
    match m, hm with
    | 0, hm => omega
    | m + 1, hm =>
    have hl := Mer.half_lt h2
    have hp := Mer.half_pos n
    obtain ⟨b, o, rfl⟩ := hA.base (by omega)
    have l1 : (l.take (Mer.half n)).length = Mer.half n := by rw [List.length_take]; omega
    have l2 : (l.drop (Mer.half n)).length = n - Mer.half n := by rw [List.length_drop]; omega
    have hH : ∀ w0, Calls Tryd.prog 79 #[.int .i64 (n : Int)] w0 fun e w' => e = .returned (.int .i64 (Mer.half n : Int)) ∧ w0 = w' := fun w0 => (specHalf n w0 h2 (by omega)).mono fun e w' h => ⟨h.1, h.2.symm⟩
    have HS0 : Hid (KpR w (some ⟨b, o, none⟩) l w) := KpR.mk (Below.refl _ _) hA
    by_cases hik : i ≤ Mer.half n
    · have hR1 : ∀ w0, Hid (KpR w (some ⟨b, o, none⟩) l w0) → Calls Tryd.prog 75 #[.slice (some ⟨b, o, none⟩) (Mer.half n) c, .int .i64 (i : Int), .bool kn] w0 fun e w' => ∃ v, e = .returned v ∧ w'.ownsRow w0.heap.size 9 1 v (prT (l.take (Mer.half n)) i kn).length (svl (prT (l.take (Mer.half n)) i kn)) ∧ Below w0.heap.size w0 w' := fun w0 h =>
        specProof m (some ⟨b, o, none⟩) c (Mer.half n) i kn (l.take (Mer.half n)) w0 (by omega) l1 hi1 hik (by omega) (h.out.sa.take _) (by omega) hcM (fun x hx' => hx x (List.mem_of_mem_take hx'))
      have hR2 : ∀ w0, Hid (KpR w (some ⟨b, o, none⟩) l w0) → Calls Tryd.prog 48 #[.slice (some ⟨b, o + Mer.half n, none⟩) (n - Mer.half n) (c - Mer.half n)] w0 fun e w' => e = .returned (.string (rtT (l.drop (Mer.half n)))) ∧ Below w0.heap.size w0 w' := fun w0 h =>
        specRoot n (some ⟨b, o + Mer.half n, none⟩) (c - Mer.half n) (n - Mer.half n) (l.drop (Mer.half n)) w0 (by omega) l2 (by omega) (h.out.sa.drop _) (by omega) (by omega) (fun x hx' => hx x (List.mem_of_mem_drop hx'))
      have HE : Hid (prT l i kn = prT (l.take (Mer.half n)) i kn ++ [rtT (l.drop (Mer.half n))]) := by show _ = _; rw [prT_lo hi1 (by omega) (by rw [hn]; exact hik), hn]
      have hP1 : (prT (l.take (Mer.half n)) i kn).length ≤ 1000000 := by have := prT_len (l := l.take (Mer.half n)) (by omega) hi1 (by omega) kn; omega
      generalize prT (l.take (Mer.half n)) i kn = P1 at *
      generalize rtT (l.drop (Mer.half n)) = T2 at *
      generalize Mer.half n = k at *
      have s1 := Tryd.sliceLo b o n c k (by omega)
      have s2 := Tryd.sliceHi b o n c k (by omega) (by omega)
      have hik' : (i : Int) ≤ (k : Int) := by omega
      clear hA hx l1 l2
      go_enter Tryd.func75, Tryd.ntmps75
      go_wp2_with (first
        | (go_at_call 79; refine (hH _).mono ?_; rintro e w' ⟨rfl, rfl⟩))
      have HS : Hid (KpR w (some ⟨b, o, none⟩) l w.drew) := KpR.drew HS0
      clear HS0 hH
      refine wp_region_held_drew (S := fun w' => Below w.heap.size w w') (by kernel_rfl) HS.out.below (fun hHeld => ?_)
      refine wpAnyH_take (i := 0) (oi := ⟨_, _, _, _, _, _⟩) (v := .slice (some ⟨b, o, none⟩) n c) rfl (by kernel_rfl) (by kernel_rfl) (by kernel_rfl) (fun _ _ _ h => h) (Or.inl ⟨wn' rfl, fun w' hSw => ?_⟩) hHeld ?_
      · go_simp
      simp only [Act.put, List.setIfInBounds_toArray, List.set_cons_zero, List.set_cons_succ]
      refine wpAnyH_take (i := 1) (oi := ⟨_, _, _, _, _, _⟩) (v := .int .i64 (k : Int)) rfl (by kernel_rfl) (by kernel_rfl) (by kernel_rfl) (fun _ _ _ h => h) (Or.inl ⟨wn' rfl, fun w' hSw => ?_⟩) hHeld ?_
      · go_simp
      simp only [Act.put, List.setIfInBounds_toArray, List.set_cons_zero, List.set_cons_succ]
      refine wpAnyH_take (i := 2) (oi := ⟨_, _, _, _, _, _⟩) (v := .slice (some ⟨b, o, none⟩) k c) rfl (by kernel_rfl) (by kernel_rfl) (by kernel_rfl) (fun _ _ _ h => h) (Or.inl ⟨wn' rfl, fun w' hSw => ?_⟩) hHeld ?_
      · go_simp
      simp only [Act.put, List.setIfInBounds_toArray, List.set_cons_zero, List.set_cons_succ]
      refine wpAnyH_take (i := 3) (oi := ⟨_, _, _, _, _, _⟩) (v := .int .i64 (i : Int)) rfl (by kernel_rfl) (by kernel_rfl) (by kernel_rfl) (fun _ _ _ h => h) (Or.inl ⟨wn' rfl, fun w' hSw => ?_⟩) hHeld ?_
      · go_simp
      simp only [Act.put, List.setIfInBounds_toArray, List.set_cons_zero, List.set_cons_succ]
      refine wpAnyH_take (i := 4) (oi := ⟨_, _, _, _, _, _⟩) (v := .bool kn) rfl (by kernel_rfl) (by kernel_rfl) (by kernel_rfl) (fun _ _ _ h => h) (Or.inl ⟨wn' rfl, fun w' hSw => ?_⟩) hHeld ?_
      · go_simp
      simp only [Act.put, List.setIfInBounds_toArray, List.set_cons_zero, List.set_cons_succ]
      refine wpAnyH_take (i := 6) (oi := ⟨_, _, _, _, _, _⟩) (v := .slice (some ⟨b, o, none⟩) n c) rfl (by kernel_rfl) (by kernel_rfl) (by kernel_rfl) (fun _ _ _ h => h) (Or.inl ⟨wn' rfl, fun w' hSw => ?_⟩) hHeld ?_
      · go_simp
      simp only [Act.put, List.setIfInBounds_toArray, List.set_cons_zero, List.set_cons_succ]
      refine wpAnyH_take (i := 7) (oi := ⟨_, _, _, _, _, _⟩) (v := .int .i64 (k : Int)) rfl (by kernel_rfl) (by kernel_rfl) (by kernel_rfl) (fun _ _ _ h => h) (Or.inl ⟨wn' rfl, fun w' hSw => ?_⟩) hHeld ?_
      · go_simp
      simp only [Act.put, List.setIfInBounds_toArray, List.set_cons_zero, List.set_cons_succ]
      refine wpAnyH_take (i := 8) (oi := ⟨_, _, _, _, _, _⟩) (v := .slice (some ⟨b, o + k, none⟩) (n - k) (c - k)) rfl (by kernel_rfl) (by kernel_rfl) (by kernel_rfl) (fun _ _ _ h => h) (Or.inl ⟨wn' rfl, fun w' hSw => ?_⟩) hHeld ?_
      · go_simp
      simp only [Act.put, List.setIfInBounds_toArray, List.set_cons_zero, List.set_cons_succ]
      refine wpAnyH_ready (rs := [5]) (by kernel_rfl) (by simp) (AllReadyH.cons (o := ⟨_, _, _, _, _, _⟩) rfl (fun K hK => ?_) AllReadyH.nil)
      rewrite [if_pos (wn' rfl)]
      go_simp
      refine (hR1 _ HS).mono ?_
      rintro e w1 ⟨v1, rfl, hO1, hB1⟩
      go_wp2_with fail
      have HS1 : Hid (KpR w (some ⟨b, o, none⟩) l w1) := KpR.hid HS hB1
      refine hK.out _ _ HS1.out.below (fun _ => ?_)
      clear hK K
      try simp only [Act.put, List.setIfInBounds_toArray, List.set_cons_zero, List.set_cons_succ]
      refine wpAnyH_ready (rs := [9]) (by kernel_rfl) (by simp) (AllReadyH.cons (o := ⟨_, _, _, _, _, _⟩) rfl (fun K hK => ?_) AllReadyH.nil)
      rewrite [if_pos (wn' rfl)]
      go_simp
      refine (hR2 _ HS1).mono ?_
      rintro e w2 ⟨rfl, hB2⟩
      go_wp2_with fail
      have HS2 : Hid (KpR w (some ⟨b, o, none⟩) l w2) := KpR.hid HS1 hB2
      have hO2 := own_below hO1 hB2
      refine hK.out _ _ HS2.out.below (fun _ => ?_)
      clear hK K
      try simp only [Act.put, List.setIfInBounds_toArray, List.set_cons_zero, List.set_cons_succ]
      refine wpAnyH_ready (rs := [10]) (by kernel_rfl) (by simp) (AllReadyH.cons (o := ⟨_, _, _, _, _, _⟩) rfl (fun K hK => ?_) AllReadyH.nil)
      rewrite [if_pos (wn' rfl)]
      go_wp2_with fail
      have B3 : Below w.heap.size w (w2.alloc (.cells #[.string T2] 9)) := HS2.out.below.alloc HS2.out.below.size _
      have hO3 : (w2.alloc (.cells #[.string T2] 9)).ownsRow w.heap.size 9 1 v1 P1.length (svl P1) := hO2.alloc (.cells #[.string T2] 9)
      have hc3 : (w2.alloc (.cells #[.string T2] 9)).cell? ⟨w2.heap.size, 0, none⟩ = some (.string T2) := by simp
      have z3 : (w2.alloc (.cells #[.string T2] 9)).heap.size = w2.heap.size + 1 := Array.size_push _
      refine hK.out _ _ B3 (fun _ => ?_)
      clear hK K
      try simp only [Act.put, List.setIfInBounds_toArray, List.set_cons_zero, List.set_cons_succ]
      generalize w2.alloc (.cells #[.string T2] 9) = w3 at *
      refine wpAnyH_ready (rs := [11]) (by kernel_rfl) (by simp) (AllReadyH.cons (o := ⟨_, _, _, _, _, _⟩) rfl (fun K hK => ?_) AllReadyH.nil)
      rewrite [if_pos (wn' rfl)]
      with_reducible refine wp_append_str (.tmp 28) (.tmp 33) (by with_unfolding_all rfl) w.heap.size v1 P1.length P1 (by with_unfolding_all rfl) hO3 w2.heap.size 1 T2 (by with_unfolding_all rfl) hc3 hP1 B3.size ?_
      intro v4 w4 hO4 hB4
      have B4 : Below w.heap.size w w4 := B3.trans hB4
      refine hK.out _ _ B4 (fun _ => ?_)
      clear hK K
      try simp only [Act.put, List.setIfInBounds_toArray, List.set_cons_zero, List.set_cons_succ]
      refine wpAnyH_take (i := 12) (oi := ⟨_, _, _, _, _, _⟩) (v := v4) rfl (by kernel_rfl) (by kernel_rfl) (by kernel_rfl) (fun _ _ _ h => h) (Or.inl ⟨wn' rfl, fun w' hSw => ?_⟩) B4 ?_
      · go_simp
      simp only [Act.put, List.setIfInBounds_toArray, List.set_cons_zero, List.set_cons_succ]
      refine wpAnyH_done (by kernel_rfl) ?_ _
      clear HS HS1 HS2 hO1 hO2 hO3 hc3 hHeld hB1 hB2 hB4 B3
      go_wp2
      go_ret
      refine ⟨v4, rfl, ?_, B4⟩
      rw [HE.out, List.length_append]
      exact hO4
    · have hR1 : ∀ w0, Hid (KpR w (some ⟨b, o, none⟩) l w0) → Calls Tryd.prog 75 #[.slice (some ⟨b, o + Mer.half n, none⟩) (n - Mer.half n) (c - Mer.half n), .int .i64 ((i - Mer.half n : Nat) : Int), .bool false] w0 fun e w' => ∃ v, e = .returned v ∧ w'.ownsRow w0.heap.size 9 1 v (prT (l.drop (Mer.half n)) (i - Mer.half n) false).length (svl (prT (l.drop (Mer.half n)) (i - Mer.half n) false)) ∧ Below w0.heap.size w0 w' := fun w0 h =>
        specProof m (some ⟨b, o + Mer.half n, none⟩) (c - Mer.half n) (n - Mer.half n) (i - Mer.half n) false (l.drop (Mer.half n)) w0 (by omega) l2 (by omega) (by omega) (by omega) (h.out.sa.drop _) (by omega) (by omega) (fun x hx' => hx x (List.mem_of_mem_drop hx'))
      have hR2 : ∀ w0, Hid (KpR w (some ⟨b, o, none⟩) l w0) → Calls Tryd.prog 48 #[.slice (some ⟨b, o, none⟩) (Mer.half n) c] w0 fun e w' => e = .returned (.string (rtT (l.take (Mer.half n)))) ∧ Below w0.heap.size w0 w' := fun w0 h =>
        specRoot n (some ⟨b, o, none⟩) c (Mer.half n) (l.take (Mer.half n)) w0 (by omega) l1 (by omega) (h.out.sa.take _) (by omega) hcM (fun x hx' => hx x (List.mem_of_mem_take hx'))
      have HE : Hid (prT l i kn = prT (l.drop (Mer.half n)) (i - Mer.half n) false ++ [rtT (l.take (Mer.half n))]) := by show _ = _; rw [prT_hi hi1 (by omega) (by rw [hn]; omega), hn]
      have hP1 : (prT (l.drop (Mer.half n)) (i - Mer.half n) false).length ≤ 1000000 := by have := prT_len (l := l.drop (Mer.half n)) (by omega) (k := i - Mer.half n) (by omega) (by omega) false; omega
      generalize prT (l.drop (Mer.half n)) (i - Mer.half n) false = P1 at *
      generalize rtT (l.take (Mer.half n)) = T2 at *
      generalize Mer.half n = k at *
      have s1 := Tryd.sliceLo b o n c k (by omega)
      have s2 := Tryd.sliceHi b o n c k (by omega) (by omega)
      have hik' : ¬ (i : Int) ≤ (k : Int) := by omega
      obtain ⟨j, hj⟩ : ∃ j : Nat, i - k = j := ⟨_, rfl⟩
      have es : IntKind.i64.wrap ((i : Int) - (k : Int)) = (j : Int) := by rw [IntKind.wrap_i64]; omega
      rw [hj] at hR1
      clear hA hx l1 l2 hj
      go_enter Tryd.func75, Tryd.ntmps75
      go_wp2_with (first
        | (go_at_call 79; refine (hH _).mono ?_; rintro e w' ⟨rfl, rfl⟩))
      have HS : Hid (KpR w (some ⟨b, o, none⟩) l w.drew) := KpR.drew HS0
      clear HS0 hH
      refine wp_region_held_drew (S := fun w' => Below w.heap.size w w') (by kernel_rfl) HS.out.below (fun hHeld => ?_)
      refine wpAnyH_take (i := 0) (oi := ⟨_, _, _, _, _, _⟩) (v := .slice (some ⟨b, o, none⟩) n c) rfl (by kernel_rfl) (by kernel_rfl) (by kernel_rfl) (fun _ _ _ h => h) (Or.inl ⟨wn' rfl, fun w' hSw => ?_⟩) hHeld ?_
      · go_simp
      simp only [Act.put, List.setIfInBounds_toArray, List.set_cons_zero, List.set_cons_succ]
      refine wpAnyH_take (i := 1) (oi := ⟨_, _, _, _, _, _⟩) (v := .int .i64 (k : Int)) rfl (by kernel_rfl) (by kernel_rfl) (by kernel_rfl) (fun _ _ _ h => h) (Or.inl ⟨wn' rfl, fun w' hSw => ?_⟩) hHeld ?_
      · go_simp
      simp only [Act.put, List.setIfInBounds_toArray, List.set_cons_zero, List.set_cons_succ]
      refine wpAnyH_take (i := 2) (oi := ⟨_, _, _, _, _, _⟩) (v := .slice (some ⟨b, o + k, none⟩) (n - k) (c - k)) rfl (by kernel_rfl) (by kernel_rfl) (by kernel_rfl) (fun _ _ _ h => h) (Or.inl ⟨wn' rfl, fun w' hSw => ?_⟩) hHeld ?_
      · go_simp
      simp only [Act.put, List.setIfInBounds_toArray, List.set_cons_zero, List.set_cons_succ]
      refine wpAnyH_take (i := 3) (oi := ⟨_, _, _, _, _, _⟩) (v := .int .i64 (i : Int)) rfl (by kernel_rfl) (by kernel_rfl) (by kernel_rfl) (fun _ _ _ h => h) (Or.inl ⟨wn' rfl, fun w' hSw => ?_⟩) hHeld ?_
      · go_simp
      simp only [Act.put, List.setIfInBounds_toArray, List.set_cons_zero, List.set_cons_succ]
      refine wpAnyH_take (i := 4) (oi := ⟨_, _, _, _, _, _⟩) (v := .int .i64 (k : Int)) rfl (by kernel_rfl) (by kernel_rfl) (by kernel_rfl) (fun _ _ _ h => h) (Or.inl ⟨wn' rfl, fun w' hSw => ?_⟩) hHeld ?_
      · go_simp
      simp only [Act.put, List.setIfInBounds_toArray, List.set_cons_zero, List.set_cons_succ]
      refine wpAnyH_take (i := 5) (oi := ⟨_, _, _, _, _, _⟩) (v := .int .i64 (j : Int)) rfl (by kernel_rfl) (by kernel_rfl) (by kernel_rfl) (fun _ _ _ h => h) (Or.inl ⟨wn' rfl, fun w' hSw => ?_⟩) hHeld ?_
      · go_simp
      simp only [Act.put, List.setIfInBounds_toArray, List.set_cons_zero, List.set_cons_succ]
      refine wpAnyH_take (i := 7) (oi := ⟨_, _, _, _, _, _⟩) (v := .slice (some ⟨b, o, none⟩) n c) rfl (by kernel_rfl) (by kernel_rfl) (by kernel_rfl) (fun _ _ _ h => h) (Or.inl ⟨wn' rfl, fun w' hSw => ?_⟩) hHeld ?_
      · go_simp
      simp only [Act.put, List.setIfInBounds_toArray, List.set_cons_zero, List.set_cons_succ]
      refine wpAnyH_take (i := 8) (oi := ⟨_, _, _, _, _, _⟩) (v := .int .i64 (k : Int)) rfl (by kernel_rfl) (by kernel_rfl) (by kernel_rfl) (fun _ _ _ h => h) (Or.inl ⟨wn' rfl, fun w' hSw => ?_⟩) hHeld ?_
      · go_simp
      simp only [Act.put, List.setIfInBounds_toArray, List.set_cons_zero, List.set_cons_succ]
      refine wpAnyH_take (i := 9) (oi := ⟨_, _, _, _, _, _⟩) (v := .slice (some ⟨b, o, none⟩) k c) rfl (by kernel_rfl) (by kernel_rfl) (by kernel_rfl) (fun _ _ _ h => h) (Or.inl ⟨wn' rfl, fun w' hSw => ?_⟩) hHeld ?_
      · go_simp
      simp only [Act.put, List.setIfInBounds_toArray, List.set_cons_zero, List.set_cons_succ]
      refine wpAnyH_ready (rs := [6]) (by kernel_rfl) (by simp) (AllReadyH.cons (o := ⟨_, _, _, _, _, _⟩) rfl (fun K hK => ?_) AllReadyH.nil)
      rewrite [if_pos (wn' rfl)]
      go_simp
      refine (hR1 _ HS).mono ?_
      rintro e w1 ⟨v1, rfl, hO1, hB1⟩
      go_wp2_with fail
      have HS1 : Hid (KpR w (some ⟨b, o, none⟩) l w1) := KpR.hid HS hB1
      refine hK.out _ _ HS1.out.below (fun _ => ?_)
      clear hK K
      try simp only [Act.put, List.setIfInBounds_toArray, List.set_cons_zero, List.set_cons_succ]
      refine wpAnyH_ready (rs := [10]) (by kernel_rfl) (by simp) (AllReadyH.cons (o := ⟨_, _, _, _, _, _⟩) rfl (fun K hK => ?_) AllReadyH.nil)
      rewrite [if_pos (wn' rfl)]
      go_simp
      refine (hR2 _ HS1).mono ?_
      rintro e w2 ⟨rfl, hB2⟩
      go_wp2_with fail
      have HS2 : Hid (KpR w (some ⟨b, o, none⟩) l w2) := KpR.hid HS1 hB2
      have hO2 := own_below hO1 hB2
      refine hK.out _ _ HS2.out.below (fun _ => ?_)
      clear hK K
      try simp only [Act.put, List.setIfInBounds_toArray, List.set_cons_zero, List.set_cons_succ]
      refine wpAnyH_ready (rs := [11]) (by kernel_rfl) (by simp) (AllReadyH.cons (o := ⟨_, _, _, _, _, _⟩) rfl (fun K hK => ?_) AllReadyH.nil)
      rewrite [if_pos (wn' rfl)]
      go_wp2_with fail
      have B3 : Below w.heap.size w (w2.alloc (.cells #[.string T2] 9)) := HS2.out.below.alloc HS2.out.below.size _
      have hO3 : (w2.alloc (.cells #[.string T2] 9)).ownsRow w.heap.size 9 1 v1 P1.length (svl P1) := hO2.alloc (.cells #[.string T2] 9)
      have hc3 : (w2.alloc (.cells #[.string T2] 9)).cell? ⟨w2.heap.size, 0, none⟩ = some (.string T2) := by simp
      have z3 : (w2.alloc (.cells #[.string T2] 9)).heap.size = w2.heap.size + 1 := Array.size_push _
      refine hK.out _ _ B3 (fun _ => ?_)
      clear hK K
      try simp only [Act.put, List.setIfInBounds_toArray, List.set_cons_zero, List.set_cons_succ]
      generalize w2.alloc (.cells #[.string T2] 9) = w3 at *
      refine wpAnyH_ready (rs := [12]) (by kernel_rfl) (by simp) (AllReadyH.cons (o := ⟨_, _, _, _, _, _⟩) rfl (fun K hK => ?_) AllReadyH.nil)
      rewrite [if_pos (wn' rfl)]
      with_reducible refine wp_append_str (.tmp 41) (.tmp 46) (by with_unfolding_all rfl) w.heap.size v1 P1.length P1 (by with_unfolding_all rfl) hO3 w2.heap.size 1 T2 (by with_unfolding_all rfl) hc3 hP1 B3.size ?_
      intro v4 w4 hO4 hB4
      have B4 : Below w.heap.size w w4 := B3.trans hB4
      refine hK.out _ _ B4 (fun _ => ?_)
      clear hK K
      try simp only [Act.put, List.setIfInBounds_toArray, List.set_cons_zero, List.set_cons_succ]
      refine wpAnyH_take (i := 13) (oi := ⟨_, _, _, _, _, _⟩) (v := v4) rfl (by kernel_rfl) (by kernel_rfl) (by kernel_rfl) (fun _ _ _ h => h) (Or.inl ⟨wn' rfl, fun w' hSw => ?_⟩) B4 ?_
      · go_simp
      simp only [Act.put, List.setIfInBounds_toArray, List.set_cons_zero, List.set_cons_succ]
      refine wpAnyH_done (by kernel_rfl) ?_ _
      clear HS HS1 HS2 hO1 hO2 hO3 hc3 hHeld hB1 hB2 hB4 B3
      go_wp2
      go_ret
      refine ⟨v4, rfl, ?_, B4⟩
      rw [HE.out, List.length_append]
      exact hO4
end Go.Proofs.YtoaoaagfnkpkdaaDoor
namespace Go.Proofs.YtoaoaagfnkpkdaaDoor
open Go.RowKit
set_option linter.unusedVariables false

def pvs (v : Value) (z : Int) : List Value := [v, .int .i64 z]
theorem pvs_one (a : Option Addr) (n c : Nat) (z : Int) : ∀ u ∈ pvs (.slice a n c) z, u.oneCell' = true := by
  intro u hu
  simp [pvs] at hu
  rcases hu with h | h <;> (rw [h]; rfl)
theorem Tryd.infoP : (Tryd.prog.info? 29).map (fun i => i.zero) = some (some (.agg (pvs (.slice none 0 0) 0).toArray)) := by kernel_rfl
theorem Tryd.undP : ∃ d, Tryd.prog.underlying 29 = some d ∧ d.isRow = true := ⟨_, Tryd.underlying29, rfl⟩
theorem Tryd.sizeP : (Tryd.prog.info? 29).map (·.size) = some 2 := by kernel_rfl
/- The code, and the proof beside it. -/
def prfC (l : List ByteArray) (lo : Int) (i : Int) : Int := if 400 < l.length then 2 else if okLv l = false then 1 else if i < lo ∨ (l.length : Int) + lo ≤ i then 9 else 0
def incL (l : List ByteArray) (i : Int) : List ByteArray := if prfC l 0 i = 0 then pthT l i.toNat else []
def conL (l : List ByteArray) (i : Int) : List ByteArray := if prfC l 1 i = 0 then prT l i.toNat true else []
theorem prfC_big {l : List ByteArray} {lo i : Int} (h : 400 < l.length) : prfC l lo i = 2 := if_pos h
theorem prfC_form {l : List ByteArray} {lo i : Int} (h : ¬ 400 < l.length) (ho : okLv l = false) : prfC l lo i = 1 := by unfold prfC; rw [if_neg h, if_pos ho]
theorem prfC_none {l : List ByteArray} {lo i : Int} (h : ¬ 400 < l.length) (ho : okLv l = true) (hi : i < lo ∨ (l.length : Int) + lo ≤ i) : prfC l lo i = 9 := by unfold prfC; rw [if_neg h, if_neg (by rw [ho]; decide), if_pos hi]
theorem prfC_ok {l : List ByteArray} {lo i : Int} (h : ¬ 400 < l.length) (ho : okLv l = true) (hi : ¬ (i < lo ∨ (l.length : Int) + lo ≤ i)) : prfC l lo i = 0 := by unfold prfC; rw [if_neg h, if_neg (by rw [ho]; decide), if_neg hi]
set_option maxRecDepth 100000 in
set_option maxHeartbeats 1000000 in
theorem specIncP (a : Option Addr) (c n : Nat) (i : Int) (l : List ByteArray) (w : World) (hn : l.length = n) (hc : n ≤ c) (h : SA w a l) (hM : n ≤ 1000000000) (hcM : c ≤ 9223372036854775807) (hx : ∀ x ∈ l, x.size ≤ maxLen) :
    Calls Tryd.prog 37 #[.slice a n c, .int .i64 i] w fun e w' => ∃ v, e = .returned (.agg (pvs v (prfC l 0 i)).toArray) ∧ NewS w' w.heap.size v (incL l i) ∧ Below w.heap.size w w' := by
  by_cases hb : 400 < n
  · have hcd : prfC l 0 i = 2 := prfC_big (by omega)
    have HL : Hid (incL l i = []) := by show _ = _; unfold incL; rw [hcd, if_neg (by decide)]
    have d1 : decide ((400 : Int) < n) = true := decide_eq_true (by omega)
    rw [hcd]
    clear h hx hcd
    go_enter Tryd.func37, Tryd.ntmps37
    go_wp2_with (first
      | (with_reducible refine wpList_allocV (w := w) (by with_unfolding_all rfl) 29 (by with_unfolding_all rfl) (pvs (.slice none 0 0) 0) Tryd.infoP ?_; intro w1 hA1 hB1 hS1)
      | (with_reducible refine wpList_storeV (w := w1) (by with_unfolding_all rfl) 29 (.tmp 4) (.tmp 8) (by with_unfolding_all rfl) w.heap.size (pvs (.slice none 0 0) 0) (pvs (.slice none 0 0) 2) (by with_unfolding_all rfl) (by with_unfolding_all rfl) hA1 2 Tryd.sizeP (by with_unfolding_all rfl) (by with_unfolding_all rfl) (pvs_one _ _ _ _) ?_; intro w5 hA5 hB5 hF5 hS5))
    refine bodyPost_ret (results_V (t := 29) rfl _ w.heap.size _ rfl hA5 Tryd.undP 2 Tryd.sizeP rfl) rfl ⟨_, rfl, ?_, hB1.trans (hB5 _ (Nat.le_refl _))⟩
    rw [HL.out]
    exact NewS.nil _ _
  have d1 : decide ((400 : Int) < n) = false := decide_eq_false (by omega)
  have hR : ∀ w0, Hid (SA w0 a l) → Calls Tryd.prog 47 #[.slice a n c] w0 fun e w' => e = .returned (.bool (okLv l)) ∧ w0 = w' := fun w0 h0 => (specRight a c n l w0 hn h0.out hM hx).mono fun e w' h => ⟨h.1, h.2.symm⟩
  have HA : Hid (SA w a l) := h
  by_cases ho : okLv l = true
  case neg =>
    have hof : okLv l = false := by simpa using ho
    have hcd : prfC l 0 i = 1 := prfC_form (by omega) hof
    have HL : Hid (incL l i = []) := by show _ = _; unfold incL; rw [hcd, if_neg (by decide)]
    rw [hcd]
    rw [hof] at hR
    clear h hx hcd ho hof
    go_enter Tryd.func37, Tryd.ntmps37
    go_wp2_with (first
      | (with_reducible refine wpList_allocV (w := w) (by with_unfolding_all rfl) 29 (by with_unfolding_all rfl) (pvs (.slice none 0 0) 0) Tryd.infoP ?_; intro w1 hA1 hB1 hS1)
      | (go_at_call 47; refine (hR _ (HA.out.below hB1)).mono ?_; rintro e w' ⟨rfl, rfl⟩)
      | (with_reducible refine wpList_storeV (w := w1) (by with_unfolding_all rfl) 29 (.tmp 4) (.tmp 12) (by with_unfolding_all rfl) w.heap.size (pvs (.slice none 0 0) 0) (pvs (.slice none 0 0) 1) (by with_unfolding_all rfl) (by with_unfolding_all rfl) hA1 2 Tryd.sizeP (by with_unfolding_all rfl) (by with_unfolding_all rfl) (pvs_one _ _ _ _) ?_; intro w5 hA5 hB5 hF5 hS5))
    refine bodyPost_ret (results_V (t := 29) rfl _ w.heap.size _ rfl hA5 Tryd.undP 2 Tryd.sizeP rfl) rfl ⟨_, rfl, ?_, hB1.trans (hB5 _ (Nat.le_refl _))⟩
    rw [HL.out]
    exact NewS.nil _ _
  have ho' := okLv_of ho
  rw [ho] at hR
  by_cases hi : i < 0
  · have e1 : decide (i < 0) = true := decide_eq_true hi
    have hcd : prfC l 0 i = 9 := prfC_none (by omega) ho (by omega)
    have HL : Hid (incL l i = []) := by show _ = _; unfold incL; rw [hcd, if_neg (by decide)]
    rw [hcd]
    clear h hx hcd ho ho'
    go_enter Tryd.func37, Tryd.ntmps37
    go_wp2_with (first
      | (with_reducible refine wpList_allocV (w := w) (by with_unfolding_all rfl) 29 (by with_unfolding_all rfl) (pvs (.slice none 0 0) 0) Tryd.infoP ?_; intro w1 hA1 hB1 hS1)
      | (go_at_call 47; refine (hR _ (HA.out.below hB1)).mono ?_; rintro e w' ⟨rfl, rfl⟩)
      | (with_reducible refine wpList_storeV (w := w1) (by with_unfolding_all rfl) 29 (.tmp 4) (.tmp 21) (by with_unfolding_all rfl) w.heap.size (pvs (.slice none 0 0) 0) (pvs (.slice none 0 0) 9) (by with_unfolding_all rfl) (by with_unfolding_all rfl) hA1 2 Tryd.sizeP (by with_unfolding_all rfl) (by with_unfolding_all rfl) (pvs_one _ _ _ _) ?_; intro w5 hA5 hB5 hF5 hS5))
    refine bodyPost_ret (results_V (t := 29) rfl _ w.heap.size _ rfl hA5 Tryd.undP 2 Tryd.sizeP rfl) rfl ⟨_, rfl, ?_, hB1.trans (hB5 _ (Nat.le_refl _))⟩
    rw [HL.out]
    exact NewS.nil _ _
  have e1 : decide (i < 0) = false := decide_eq_false hi
  by_cases hi2 : (n : Int) ≤ i
  · have e2 : decide ((n : Int) ≤ i) = true := decide_eq_true hi2
    have hcd : prfC l 0 i = 9 := prfC_none (by omega) ho (by omega)
    have HL : Hid (incL l i = []) := by show _ = _; unfold incL; rw [hcd, if_neg (by decide)]
    rw [hcd]
    clear h hx hcd ho ho'
    go_enter Tryd.func37, Tryd.ntmps37
    go_wp2_with (first
      | (with_reducible refine wpList_allocV (w := w) (by with_unfolding_all rfl) 29 (by with_unfolding_all rfl) (pvs (.slice none 0 0) 0) Tryd.infoP ?_; intro w1 hA1 hB1 hS1)
      | (go_at_call 47; refine (hR _ (HA.out.below hB1)).mono ?_; rintro e w' ⟨rfl, rfl⟩)
      | (with_reducible refine wpList_storeV (w := w1) (by with_unfolding_all rfl) 29 (.tmp 4) (.tmp 21) (by with_unfolding_all rfl) w.heap.size (pvs (.slice none 0 0) 0) (pvs (.slice none 0 0) 9) (by with_unfolding_all rfl) (by with_unfolding_all rfl) hA1 2 Tryd.sizeP (by with_unfolding_all rfl) (by with_unfolding_all rfl) (pvs_one _ _ _ _) ?_; intro w5 hA5 hB5 hF5 hS5))
    refine bodyPost_ret (results_V (t := 29) rfl _ w.heap.size _ rfl hA5 Tryd.undP 2 Tryd.sizeP rfl) rfl ⟨_, rfl, ?_, hB1.trans (hB5 _ (Nat.le_refl _))⟩
    rw [HL.out]
    exact NewS.nil _ _
  have e2 : decide ((n : Int) ≤ i) = false := decide_eq_false hi2
  have hcd : prfC l 0 i = 0 := prfC_ok (by omega) ho (by omega)
  obtain ⟨k, rfl⟩ := Int.eq_ofNat_of_zero_le (show 0 ≤ i by omega)
  have hL : incL l k = pthT l k := by unfold incL; rw [hcd, if_pos rfl]; rfl
  rw [hcd, hL]
  have hP : ∀ w0, Hid (SA w0 a l) → Calls Tryd.prog 72 #[.slice a n c, .int .i64 (k : Int)] w0 fun e w' => ∃ v, e = .returned v ∧ w'.ownsRow w0.heap.size 9 1 v (pthT l k).length (svl (pthT l k)) ∧ Below w0.heap.size w0 w' := fun w0 h0 => specPath n a c n k l w0 (by omega) hn (by omega) (by omega) hc h0.out (by have := ho'.1; omega) hcM ho'.2
  generalize pthT l k = P at *
  clear h hx hcd ho ho' hL
  go_enter Tryd.func37, Tryd.ntmps37
  go_wp2_with (first
    | (with_reducible refine wpList_allocV (w := w) (by with_unfolding_all rfl) 29 (by with_unfolding_all rfl) (pvs (.slice none 0 0) 0) Tryd.infoP ?_; intro w1 hA1 hB1 hS1)
    | (go_at_call 47; refine (hR _ (HA.out.below hB1)).mono ?_; rintro e w' ⟨rfl, rfl⟩)
    | (go_at_call 72; refine (hP _ (HA.out.below hB1)).mono ?_; rintro e w2 ⟨v2, rfl, hO2, hB2⟩; obtain ⟨a2, c2, rfl, hl2, hc2, hm2, hsa2⟩ := own_sa hO2; have V2 := hA1.below hB2 (by omega))
    | (with_reducible refine wpList_storeV (w := w2) (by with_unfolding_all rfl) 29 (.tmp 4) (.tmp 25) (by with_unfolding_all rfl) w.heap.size (pvs (.slice none 0 0) 0) (pvs (.slice a2 P.length c2) 0) (by with_unfolding_all rfl) (by with_unfolding_all rfl) V2 2 Tryd.sizeP (by with_unfolding_all rfl) (by with_unfolding_all rfl) (pvs_one _ _ _ _) ?_; intro w5 hA5 hB5 hF5 hS5))
  have hO1 : NewS w2 (w.heap.size + 1) (.slice a2 P.length c2) P := by rw [← hS1]; exact NewS.of_own hO2
  refine bodyPost_ret (results_V (t := 29) rfl _ w.heap.size _ rfl hA5 Tryd.undP 2 Tryd.sizeP rfl) rfl ⟨_, rfl, ?_, (hB1.trans (hB2.mono (by omega))).trans (hB5 _ (Nat.le_refl _))⟩
  exact hO1.far hF5
set_option maxRecDepth 100000 in
set_option maxHeartbeats 1000000 in
theorem specConP (a : Option Addr) (c n : Nat) (i : Int) (l : List ByteArray) (w : World) (hn : l.length = n) (hc : n ≤ c) (h : SA w a l) (hM : n ≤ 1000000000) (hcM : c ≤ 9223372036854775807) (hx : ∀ x ∈ l, x.size ≤ maxLen) :
    Calls Tryd.prog 42 #[.slice a n c, .int .i64 i] w fun e w' => ∃ v, e = .returned (.agg (pvs v (prfC l 1 i)).toArray) ∧ NewS w' w.heap.size v (conL l i) ∧ Below w.heap.size w w' := by
  by_cases hb : 400 < n
  · have hcd : prfC l 1 i = 2 := prfC_big (by omega)
    have HL : Hid (conL l i = []) := by show _ = _; unfold conL; rw [hcd, if_neg (by decide)]
    have d1 : decide ((400 : Int) < n) = true := decide_eq_true (by omega)
    rw [hcd]
    clear h hx hcd
    go_enter Tryd.func42, Tryd.ntmps42
    go_wp2_with (first
      | (with_reducible refine wpList_allocV (w := w) (by with_unfolding_all rfl) 29 (by with_unfolding_all rfl) (pvs (.slice none 0 0) 0) Tryd.infoP ?_; intro w1 hA1 hB1 hS1)
      | (with_reducible refine wpList_storeV (w := w1) (by with_unfolding_all rfl) 29 (.tmp 4) (.tmp 8) (by with_unfolding_all rfl) w.heap.size (pvs (.slice none 0 0) 0) (pvs (.slice none 0 0) 2) (by with_unfolding_all rfl) (by with_unfolding_all rfl) hA1 2 Tryd.sizeP (by with_unfolding_all rfl) (by with_unfolding_all rfl) (pvs_one _ _ _ _) ?_; intro w5 hA5 hB5 hF5 hS5))
    refine bodyPost_ret (results_V (t := 29) rfl _ w.heap.size _ rfl hA5 Tryd.undP 2 Tryd.sizeP rfl) rfl ⟨_, rfl, ?_, hB1.trans (hB5 _ (Nat.le_refl _))⟩
    rw [HL.out]
    exact NewS.nil _ _
  have d1 : decide ((400 : Int) < n) = false := decide_eq_false (by omega)
  have hR : ∀ w0, Hid (SA w0 a l) → Calls Tryd.prog 47 #[.slice a n c] w0 fun e w' => e = .returned (.bool (okLv l)) ∧ w0 = w' := fun w0 h0 => (specRight a c n l w0 hn h0.out hM hx).mono fun e w' h => ⟨h.1, h.2.symm⟩
  have HA : Hid (SA w a l) := h
  by_cases ho : okLv l = true
  case neg =>
    have hof : okLv l = false := by simpa using ho
    have hcd : prfC l 1 i = 1 := prfC_form (by omega) hof
    have HL : Hid (conL l i = []) := by show _ = _; unfold conL; rw [hcd, if_neg (by decide)]
    rw [hcd]
    rw [hof] at hR
    clear h hx hcd ho hof
    go_enter Tryd.func42, Tryd.ntmps42
    go_wp2_with (first
      | (with_reducible refine wpList_allocV (w := w) (by with_unfolding_all rfl) 29 (by with_unfolding_all rfl) (pvs (.slice none 0 0) 0) Tryd.infoP ?_; intro w1 hA1 hB1 hS1)
      | (go_at_call 47; refine (hR _ (HA.out.below hB1)).mono ?_; rintro e w' ⟨rfl, rfl⟩)
      | (with_reducible refine wpList_storeV (w := w1) (by with_unfolding_all rfl) 29 (.tmp 4) (.tmp 12) (by with_unfolding_all rfl) w.heap.size (pvs (.slice none 0 0) 0) (pvs (.slice none 0 0) 1) (by with_unfolding_all rfl) (by with_unfolding_all rfl) hA1 2 Tryd.sizeP (by with_unfolding_all rfl) (by with_unfolding_all rfl) (pvs_one _ _ _ _) ?_; intro w5 hA5 hB5 hF5 hS5))
    refine bodyPost_ret (results_V (t := 29) rfl _ w.heap.size _ rfl hA5 Tryd.undP 2 Tryd.sizeP rfl) rfl ⟨_, rfl, ?_, hB1.trans (hB5 _ (Nat.le_refl _))⟩
    rw [HL.out]
    exact NewS.nil _ _
  have ho' := okLv_of ho
  rw [ho] at hR
  by_cases hi : i < 1
  · have e1 : decide (i < 1) = true := decide_eq_true hi
    have hcd : prfC l 1 i = 9 := prfC_none (by omega) ho (by omega)
    have HL : Hid (conL l i = []) := by show _ = _; unfold conL; rw [hcd, if_neg (by decide)]
    rw [hcd]
    clear h hx hcd ho ho'
    go_enter Tryd.func42, Tryd.ntmps42
    go_wp2_with (first
      | (with_reducible refine wpList_allocV (w := w) (by with_unfolding_all rfl) 29 (by with_unfolding_all rfl) (pvs (.slice none 0 0) 0) Tryd.infoP ?_; intro w1 hA1 hB1 hS1)
      | (go_at_call 47; refine (hR _ (HA.out.below hB1)).mono ?_; rintro e w' ⟨rfl, rfl⟩)
      | (with_reducible refine wpList_storeV (w := w1) (by with_unfolding_all rfl) 29 (.tmp 4) (.tmp 21) (by with_unfolding_all rfl) w.heap.size (pvs (.slice none 0 0) 0) (pvs (.slice none 0 0) 9) (by with_unfolding_all rfl) (by with_unfolding_all rfl) hA1 2 Tryd.sizeP (by with_unfolding_all rfl) (by with_unfolding_all rfl) (pvs_one _ _ _ _) ?_; intro w5 hA5 hB5 hF5 hS5))
    refine bodyPost_ret (results_V (t := 29) rfl _ w.heap.size _ rfl hA5 Tryd.undP 2 Tryd.sizeP rfl) rfl ⟨_, rfl, ?_, hB1.trans (hB5 _ (Nat.le_refl _))⟩
    rw [HL.out]
    exact NewS.nil _ _
  have e1 : decide (i < 1) = false := decide_eq_false hi
  by_cases hi2 : (n : Int) < i
  · have e2 : decide ((n : Int) < i) = true := decide_eq_true hi2
    have hcd : prfC l 1 i = 9 := prfC_none (by omega) ho (by omega)
    have HL : Hid (conL l i = []) := by show _ = _; unfold conL; rw [hcd, if_neg (by decide)]
    rw [hcd]
    clear h hx hcd ho ho'
    go_enter Tryd.func42, Tryd.ntmps42
    go_wp2_with (first
      | (with_reducible refine wpList_allocV (w := w) (by with_unfolding_all rfl) 29 (by with_unfolding_all rfl) (pvs (.slice none 0 0) 0) Tryd.infoP ?_; intro w1 hA1 hB1 hS1)
      | (go_at_call 47; refine (hR _ (HA.out.below hB1)).mono ?_; rintro e w' ⟨rfl, rfl⟩)
      | (with_reducible refine wpList_storeV (w := w1) (by with_unfolding_all rfl) 29 (.tmp 4) (.tmp 21) (by with_unfolding_all rfl) w.heap.size (pvs (.slice none 0 0) 0) (pvs (.slice none 0 0) 9) (by with_unfolding_all rfl) (by with_unfolding_all rfl) hA1 2 Tryd.sizeP (by with_unfolding_all rfl) (by with_unfolding_all rfl) (pvs_one _ _ _ _) ?_; intro w5 hA5 hB5 hF5 hS5))
    refine bodyPost_ret (results_V (t := 29) rfl _ w.heap.size _ rfl hA5 Tryd.undP 2 Tryd.sizeP rfl) rfl ⟨_, rfl, ?_, hB1.trans (hB5 _ (Nat.le_refl _))⟩
    rw [HL.out]
    exact NewS.nil _ _
  have e2 : decide ((n : Int) < i) = false := decide_eq_false hi2
  have hcd : prfC l 1 i = 0 := prfC_ok (by omega) ho (by omega)
  obtain ⟨k, rfl⟩ := Int.eq_ofNat_of_zero_le (show 0 ≤ i by omega)
  have hL : conL l k = prT l k true := by unfold conL; rw [hcd, if_pos rfl]; rfl
  rw [hcd, hL]
  have hP : ∀ w0, Hid (SA w0 a l) → Calls Tryd.prog 75 #[.slice a n c, .int .i64 (k : Int), .bool true] w0 fun e w' => ∃ v, e = .returned v ∧ w'.ownsRow w0.heap.size 9 1 v (prT l k true).length (svl (prT l k true)) ∧ Below w0.heap.size w0 w' := fun w0 h0 => specProof n a c n k true l w0 (by omega) hn (by omega) (by omega) hc h0.out (by have := ho'.1; omega) hcM ho'.2
  generalize prT l k true = P at *
  clear h hx hcd ho ho' hL
  go_enter Tryd.func42, Tryd.ntmps42
  go_wp2_with (first
    | (with_reducible refine wpList_allocV (w := w) (by with_unfolding_all rfl) 29 (by with_unfolding_all rfl) (pvs (.slice none 0 0) 0) Tryd.infoP ?_; intro w1 hA1 hB1 hS1)
    | (go_at_call 47; refine (hR _ (HA.out.below hB1)).mono ?_; rintro e w' ⟨rfl, rfl⟩)
    | (go_at_call 75; refine (hP _ (HA.out.below hB1)).mono ?_; rintro e w2 ⟨v2, rfl, hO2, hB2⟩; obtain ⟨a2, c2, rfl, hl2, hc2, hm2, hsa2⟩ := own_sa hO2; have V2 := hA1.below hB2 (by omega))
    | (with_reducible refine wpList_storeV (w := w2) (by with_unfolding_all rfl) 29 (.tmp 4) (.tmp 25) (by with_unfolding_all rfl) w.heap.size (pvs (.slice none 0 0) 0) (pvs (.slice a2 P.length c2) 0) (by with_unfolding_all rfl) (by with_unfolding_all rfl) V2 2 Tryd.sizeP (by with_unfolding_all rfl) (by with_unfolding_all rfl) (pvs_one _ _ _ _) ?_; intro w5 hA5 hB5 hF5 hS5))
  have hO1 : NewS w2 (w.heap.size + 1) (.slice a2 P.length c2) P := by rw [← hS1]; exact NewS.of_own hO2
  refine bodyPost_ret (results_V (t := 29) rfl _ w.heap.size _ rfl hA5 Tryd.undP 2 Tryd.sizeP rfl) rfl ⟨_, rfl, ?_, (hB1.trans (hB2.mono (by omega))).trans (hB5 _ (Nat.le_refl _))⟩
  exact hO1.far hF5
end Go.Proofs.YtoaoaagfnkpkdaaDoor
namespace Go.Proofs.YtoaoaagfnkpkdaaDoor
open Go.RowKit
set_option linter.unusedVariables false

def NewM (w : World) (base : Nat) (u : Value) (l : List ByteArray) : Prop := (u = .slice none 0 0 ∧ l = []) ∨ ∃ b c, u = .slice (some ⟨b, 0, none⟩) l.length c ∧ base ≤ b ∧ l.length ≤ c ∧ SA w (some ⟨b, 0, none⟩) l
theorem NewM.nil (w : World) (base : Nat) : NewM w base (.slice none 0 0) [] := .inl ⟨rfl, rfl⟩
theorem NewM.may {w : World} {base : Nat} {u : Value} {l : List ByteArray} (h : NewM w base u l) : MayS w u l := by
  rcases h with h | ⟨b, c, h1, h2, h3, h4⟩
  · exact .inl h
  · exact .inr ⟨b, 0, c, h1, h3, h4⟩
theorem NewM.below {w w' : World} {base : Nat} {u : Value} {l : List ByteArray} (h : NewM w base u l) (hb : Below w.heap.size w w') : NewM w' base u l := by
  rcases h with h | ⟨b, c, h1, h2, h3, h4⟩
  · exact .inl h
  · exact .inr ⟨b, c, h1, h2, h3, h4.below hb⟩
theorem NewM.grown {w w' : World} {base g : Nat} {u : Value} {l : List ByteArray} (h : NewM w base u l) (hg : w.grownBy w' (some g)) (hb : g < base) : NewM w' base u l := by
  rcases h with h | ⟨b, c, h1, h2, h3, h4⟩
  · exact .inl h
  · refine .inr ⟨b, c, h1, h2, h3, fun k hk => ?_⟩
    obtain ⟨b', o', e, hc⟩ := h4 k hk
    injection e with e
    injection e with e1 e2
    subst e1 e2
    exact ⟨b, 0, rfl, hg.cell hc (by intro e; injection e with e; have : b = g := e; omega)⟩
theorem NewM.own {w : World} {base e : Nat} {v : Value} {l : List ByteArray} (h : w.ownsRow base e 1 v l.length (svl l)) : NewM w base v l := by
  by_cases hv : v = .slice none 0 0
  · subst hv
    rcases h.2 with ⟨_, h0⟩ | ⟨g, cap, cur, h1, _⟩
    · exact .inl ⟨rfl, List.length_eq_zero_iff.1 h0⟩
    · simp at h1
  · obtain ⟨g, c, h1, h2, h3, h4, h5, h6⟩ := own_some h hv
    exact .inr ⟨g, c, h1, h3, h4, h6⟩
theorem NewM.far {w w' : World} {g e : Nat} {v : Value} {l : List ByteArray} (h : w.ownsRow (g + 1) e 1 v l.length (svl l)) (hf : ∀ x : Addr, x.block ≠ g → w'.cell? x = w.cell? x ∧ w'.frozen? x = w.frozen? x) : NewM w' g v l := by
  by_cases hv : v = .slice none 0 0
  · subst hv
    rcases h.2 with ⟨_, h0⟩ | ⟨g, cap, cur, h1, _⟩
    · exact .inl ⟨rfl, List.length_eq_zero_iff.1 h0⟩
    · simp at h1
  · obtain ⟨g', c, h1, h2, h3, h4, h5, h6⟩ := own_some h hv
    refine .inr ⟨g', c, h1, by omega, h4, fun k hk => ?_⟩
    obtain ⟨b, o, e1, e2⟩ := h6 k hk
    injection e1 with e1
    injection e1 with e3 e4
    subst e3 e4
    exact ⟨g', 0, rfl, by rw [(hf ⟨g', 0 + k, none⟩ (by show g' ≠ g; omega)).1]; exact e2⟩
theorem MayS.sa {w : World} {u : Value} {l : List ByteArray} (h : MayS w u l) : ∃ a c, u = .slice a l.length c ∧ l.length ≤ c ∧ SA w a l := by
  rcases h with ⟨rfl, rfl⟩ | ⟨b, o, c, h1, h2, h3⟩
  · exact ⟨none, 0, rfl, Nat.le_refl _, SA.nil _ _⟩
  · exact ⟨_, c, h1, h2, h3⟩
set_option maxRecDepth 100000 in
set_option maxHeartbeats 1000000 in
theorem specIncM (a : Option Addr) (c n : Nat) (i : Int) (l : List ByteArray) (w : World) (hn : l.length = n) (hc : n ≤ c) (h : SA w a l) (hM : n ≤ 1000000000) (hcM : c ≤ 9223372036854775807) (hx : ∀ x ∈ l, x.size ≤ maxLen) :
    Calls Tryd.prog 37 #[.slice a n c, .int .i64 i] w fun e w' => ∃ v, e = .returned (.agg (pvs v (prfC l 0 i)).toArray) ∧ NewM w' w.heap.size v (incL l i) ∧ Below w.heap.size w w' := by
  by_cases hb : 400 < n
  · have hcd : prfC l 0 i = 2 := prfC_big (by omega)
    have HL : Hid (incL l i = []) := by show _ = _; unfold incL; rw [hcd, if_neg (by decide)]
    have d1 : decide ((400 : Int) < n) = true := decide_eq_true (by omega)
    rw [hcd]
    clear h hx hcd
    go_enter Tryd.func37, Tryd.ntmps37
    go_wp2_with (first
      | (with_reducible refine wpList_allocV (w := w) (by with_unfolding_all rfl) 29 (by with_unfolding_all rfl) (pvs (.slice none 0 0) 0) Tryd.infoP ?_; intro w1 hA1 hB1 hS1)
      | (with_reducible refine wpList_storeV (w := w1) (by with_unfolding_all rfl) 29 (.tmp 4) (.tmp 8) (by with_unfolding_all rfl) w.heap.size (pvs (.slice none 0 0) 0) (pvs (.slice none 0 0) 2) (by with_unfolding_all rfl) (by with_unfolding_all rfl) hA1 2 Tryd.sizeP (by with_unfolding_all rfl) (by with_unfolding_all rfl) (pvs_one _ _ _ _) ?_; intro w5 hA5 hB5 hF5 hS5))
    refine bodyPost_ret (results_V (t := 29) rfl _ w.heap.size _ rfl hA5 Tryd.undP 2 Tryd.sizeP rfl) rfl ⟨_, rfl, ?_, hB1.trans (hB5 _ (Nat.le_refl _))⟩
    rw [HL.out]
    exact NewM.nil _ _
  have d1 : decide ((400 : Int) < n) = false := decide_eq_false (by omega)
  have hR : ∀ w0, Hid (SA w0 a l) → Calls Tryd.prog 47 #[.slice a n c] w0 fun e w' => e = .returned (.bool (okLv l)) ∧ w0 = w' := fun w0 h0 => (specRight a c n l w0 hn h0.out hM hx).mono fun e w' h => ⟨h.1, h.2.symm⟩
  have HA : Hid (SA w a l) := h
  by_cases ho : okLv l = true
  case neg =>
    have hof : okLv l = false := by simpa using ho
    have hcd : prfC l 0 i = 1 := prfC_form (by omega) hof
    have HL : Hid (incL l i = []) := by show _ = _; unfold incL; rw [hcd, if_neg (by decide)]
    rw [hcd]
    rw [hof] at hR
    clear h hx hcd ho hof
    go_enter Tryd.func37, Tryd.ntmps37
    go_wp2_with (first
      | (with_reducible refine wpList_allocV (w := w) (by with_unfolding_all rfl) 29 (by with_unfolding_all rfl) (pvs (.slice none 0 0) 0) Tryd.infoP ?_; intro w1 hA1 hB1 hS1)
      | (go_at_call 47; refine (hR _ (HA.out.below hB1)).mono ?_; rintro e w' ⟨rfl, rfl⟩)
      | (with_reducible refine wpList_storeV (w := w1) (by with_unfolding_all rfl) 29 (.tmp 4) (.tmp 12) (by with_unfolding_all rfl) w.heap.size (pvs (.slice none 0 0) 0) (pvs (.slice none 0 0) 1) (by with_unfolding_all rfl) (by with_unfolding_all rfl) hA1 2 Tryd.sizeP (by with_unfolding_all rfl) (by with_unfolding_all rfl) (pvs_one _ _ _ _) ?_; intro w5 hA5 hB5 hF5 hS5))
    refine bodyPost_ret (results_V (t := 29) rfl _ w.heap.size _ rfl hA5 Tryd.undP 2 Tryd.sizeP rfl) rfl ⟨_, rfl, ?_, hB1.trans (hB5 _ (Nat.le_refl _))⟩
    rw [HL.out]
    exact NewM.nil _ _
  have ho' := okLv_of ho
  rw [ho] at hR
  by_cases hi : i < 0
  · have e1 : decide (i < 0) = true := decide_eq_true hi
    have hcd : prfC l 0 i = 9 := prfC_none (by omega) ho (by omega)
    have HL : Hid (incL l i = []) := by show _ = _; unfold incL; rw [hcd, if_neg (by decide)]
    rw [hcd]
    clear h hx hcd ho ho'
    go_enter Tryd.func37, Tryd.ntmps37
    go_wp2_with (first
      | (with_reducible refine wpList_allocV (w := w) (by with_unfolding_all rfl) 29 (by with_unfolding_all rfl) (pvs (.slice none 0 0) 0) Tryd.infoP ?_; intro w1 hA1 hB1 hS1)
      | (go_at_call 47; refine (hR _ (HA.out.below hB1)).mono ?_; rintro e w' ⟨rfl, rfl⟩)
      | (with_reducible refine wpList_storeV (w := w1) (by with_unfolding_all rfl) 29 (.tmp 4) (.tmp 21) (by with_unfolding_all rfl) w.heap.size (pvs (.slice none 0 0) 0) (pvs (.slice none 0 0) 9) (by with_unfolding_all rfl) (by with_unfolding_all rfl) hA1 2 Tryd.sizeP (by with_unfolding_all rfl) (by with_unfolding_all rfl) (pvs_one _ _ _ _) ?_; intro w5 hA5 hB5 hF5 hS5))
    refine bodyPost_ret (results_V (t := 29) rfl _ w.heap.size _ rfl hA5 Tryd.undP 2 Tryd.sizeP rfl) rfl ⟨_, rfl, ?_, hB1.trans (hB5 _ (Nat.le_refl _))⟩
    rw [HL.out]
    exact NewM.nil _ _
  have e1 : decide (i < 0) = false := decide_eq_false hi
  by_cases hi2 : (n : Int) ≤ i
  · have e2 : decide ((n : Int) ≤ i) = true := decide_eq_true hi2
    have hcd : prfC l 0 i = 9 := prfC_none (by omega) ho (by omega)
    have HL : Hid (incL l i = []) := by show _ = _; unfold incL; rw [hcd, if_neg (by decide)]
    rw [hcd]
    clear h hx hcd ho ho'
    go_enter Tryd.func37, Tryd.ntmps37
    go_wp2_with (first
      | (with_reducible refine wpList_allocV (w := w) (by with_unfolding_all rfl) 29 (by with_unfolding_all rfl) (pvs (.slice none 0 0) 0) Tryd.infoP ?_; intro w1 hA1 hB1 hS1)
      | (go_at_call 47; refine (hR _ (HA.out.below hB1)).mono ?_; rintro e w' ⟨rfl, rfl⟩)
      | (with_reducible refine wpList_storeV (w := w1) (by with_unfolding_all rfl) 29 (.tmp 4) (.tmp 21) (by with_unfolding_all rfl) w.heap.size (pvs (.slice none 0 0) 0) (pvs (.slice none 0 0) 9) (by with_unfolding_all rfl) (by with_unfolding_all rfl) hA1 2 Tryd.sizeP (by with_unfolding_all rfl) (by with_unfolding_all rfl) (pvs_one _ _ _ _) ?_; intro w5 hA5 hB5 hF5 hS5))
    refine bodyPost_ret (results_V (t := 29) rfl _ w.heap.size _ rfl hA5 Tryd.undP 2 Tryd.sizeP rfl) rfl ⟨_, rfl, ?_, hB1.trans (hB5 _ (Nat.le_refl _))⟩
    rw [HL.out]
    exact NewM.nil _ _
  have e2 : decide ((n : Int) ≤ i) = false := decide_eq_false hi2
  have hcd : prfC l 0 i = 0 := prfC_ok (by omega) ho (by omega)
  obtain ⟨k, rfl⟩ := Int.eq_ofNat_of_zero_le (show 0 ≤ i by omega)
  have hL : incL l k = pthT l k := by unfold incL; rw [hcd, if_pos rfl]; rfl
  rw [hcd, hL]
  have hP : ∀ w0, Hid (SA w0 a l) → Calls Tryd.prog 72 #[.slice a n c, .int .i64 (k : Int)] w0 fun e w' => ∃ v, e = .returned v ∧ w'.ownsRow w0.heap.size 9 1 v (pthT l k).length (svl (pthT l k)) ∧ Below w0.heap.size w0 w' := fun w0 h0 => specPath n a c n k l w0 (by omega) hn (by omega) (by omega) hc h0.out (by have := ho'.1; omega) hcM ho'.2
  generalize pthT l k = P at *
  clear h hx hcd ho ho' hL
  go_enter Tryd.func37, Tryd.ntmps37
  go_wp2_with (first
    | (with_reducible refine wpList_allocV (w := w) (by with_unfolding_all rfl) 29 (by with_unfolding_all rfl) (pvs (.slice none 0 0) 0) Tryd.infoP ?_; intro w1 hA1 hB1 hS1)
    | (go_at_call 47; refine (hR _ (HA.out.below hB1)).mono ?_; rintro e w' ⟨rfl, rfl⟩)
    | (go_at_call 72; refine (hP _ (HA.out.below hB1)).mono ?_; rintro e w2 ⟨v2, rfl, hO2, hB2⟩; obtain ⟨a2, c2, rfl, hl2, hc2, hm2, hsa2⟩ := own_sa hO2; have V2 := hA1.below hB2 (by omega))
    | (with_reducible refine wpList_storeV (w := w2) (by with_unfolding_all rfl) 29 (.tmp 4) (.tmp 25) (by with_unfolding_all rfl) w.heap.size (pvs (.slice none 0 0) 0) (pvs (.slice a2 P.length c2) 0) (by with_unfolding_all rfl) (by with_unfolding_all rfl) V2 2 Tryd.sizeP (by with_unfolding_all rfl) (by with_unfolding_all rfl) (pvs_one _ _ _ _) ?_; intro w5 hA5 hB5 hF5 hS5))
  have hO1 : w2.ownsRow (w.heap.size + 1) 9 1 (.slice a2 P.length c2) P.length (svl P) := by rw [← hS1]; exact hO2
  refine bodyPost_ret (results_V (t := 29) rfl _ w.heap.size _ rfl hA5 Tryd.undP 2 Tryd.sizeP rfl) rfl ⟨_, rfl, ?_, (hB1.trans (hB2.mono (by omega))).trans (hB5 _ (Nat.le_refl _))⟩
  exact NewM.far hO1 hF5
set_option maxRecDepth 100000 in
set_option maxHeartbeats 1000000 in
theorem specConM (a : Option Addr) (c n : Nat) (i : Int) (l : List ByteArray) (w : World) (hn : l.length = n) (hc : n ≤ c) (h : SA w a l) (hM : n ≤ 1000000000) (hcM : c ≤ 9223372036854775807) (hx : ∀ x ∈ l, x.size ≤ maxLen) :
    Calls Tryd.prog 42 #[.slice a n c, .int .i64 i] w fun e w' => ∃ v, e = .returned (.agg (pvs v (prfC l 1 i)).toArray) ∧ NewM w' w.heap.size v (conL l i) ∧ Below w.heap.size w w' := by
  by_cases hb : 400 < n
  · have hcd : prfC l 1 i = 2 := prfC_big (by omega)
    have HL : Hid (conL l i = []) := by show _ = _; unfold conL; rw [hcd, if_neg (by decide)]
    have d1 : decide ((400 : Int) < n) = true := decide_eq_true (by omega)
    rw [hcd]
    clear h hx hcd
    go_enter Tryd.func42, Tryd.ntmps42
    go_wp2_with (first
      | (with_reducible refine wpList_allocV (w := w) (by with_unfolding_all rfl) 29 (by with_unfolding_all rfl) (pvs (.slice none 0 0) 0) Tryd.infoP ?_; intro w1 hA1 hB1 hS1)
      | (with_reducible refine wpList_storeV (w := w1) (by with_unfolding_all rfl) 29 (.tmp 4) (.tmp 8) (by with_unfolding_all rfl) w.heap.size (pvs (.slice none 0 0) 0) (pvs (.slice none 0 0) 2) (by with_unfolding_all rfl) (by with_unfolding_all rfl) hA1 2 Tryd.sizeP (by with_unfolding_all rfl) (by with_unfolding_all rfl) (pvs_one _ _ _ _) ?_; intro w5 hA5 hB5 hF5 hS5))
    refine bodyPost_ret (results_V (t := 29) rfl _ w.heap.size _ rfl hA5 Tryd.undP 2 Tryd.sizeP rfl) rfl ⟨_, rfl, ?_, hB1.trans (hB5 _ (Nat.le_refl _))⟩
    rw [HL.out]
    exact NewM.nil _ _
  have d1 : decide ((400 : Int) < n) = false := decide_eq_false (by omega)
  have hR : ∀ w0, Hid (SA w0 a l) → Calls Tryd.prog 47 #[.slice a n c] w0 fun e w' => e = .returned (.bool (okLv l)) ∧ w0 = w' := fun w0 h0 => (specRight a c n l w0 hn h0.out hM hx).mono fun e w' h => ⟨h.1, h.2.symm⟩
  have HA : Hid (SA w a l) := h
  by_cases ho : okLv l = true
  case neg =>
    have hof : okLv l = false := by simpa using ho
    have hcd : prfC l 1 i = 1 := prfC_form (by omega) hof
    have HL : Hid (conL l i = []) := by show _ = _; unfold conL; rw [hcd, if_neg (by decide)]
    rw [hcd]
    rw [hof] at hR
    clear h hx hcd ho hof
    go_enter Tryd.func42, Tryd.ntmps42
    go_wp2_with (first
      | (with_reducible refine wpList_allocV (w := w) (by with_unfolding_all rfl) 29 (by with_unfolding_all rfl) (pvs (.slice none 0 0) 0) Tryd.infoP ?_; intro w1 hA1 hB1 hS1)
      | (go_at_call 47; refine (hR _ (HA.out.below hB1)).mono ?_; rintro e w' ⟨rfl, rfl⟩)
      | (with_reducible refine wpList_storeV (w := w1) (by with_unfolding_all rfl) 29 (.tmp 4) (.tmp 12) (by with_unfolding_all rfl) w.heap.size (pvs (.slice none 0 0) 0) (pvs (.slice none 0 0) 1) (by with_unfolding_all rfl) (by with_unfolding_all rfl) hA1 2 Tryd.sizeP (by with_unfolding_all rfl) (by with_unfolding_all rfl) (pvs_one _ _ _ _) ?_; intro w5 hA5 hB5 hF5 hS5))
    refine bodyPost_ret (results_V (t := 29) rfl _ w.heap.size _ rfl hA5 Tryd.undP 2 Tryd.sizeP rfl) rfl ⟨_, rfl, ?_, hB1.trans (hB5 _ (Nat.le_refl _))⟩
    rw [HL.out]
    exact NewM.nil _ _
  have ho' := okLv_of ho
  rw [ho] at hR
  by_cases hi : i < 1
  · have e1 : decide (i < 1) = true := decide_eq_true hi
    have hcd : prfC l 1 i = 9 := prfC_none (by omega) ho (by omega)
    have HL : Hid (conL l i = []) := by show _ = _; unfold conL; rw [hcd, if_neg (by decide)]
    rw [hcd]
    clear h hx hcd ho ho'
    go_enter Tryd.func42, Tryd.ntmps42
    go_wp2_with (first
      | (with_reducible refine wpList_allocV (w := w) (by with_unfolding_all rfl) 29 (by with_unfolding_all rfl) (pvs (.slice none 0 0) 0) Tryd.infoP ?_; intro w1 hA1 hB1 hS1)
      | (go_at_call 47; refine (hR _ (HA.out.below hB1)).mono ?_; rintro e w' ⟨rfl, rfl⟩)
      | (with_reducible refine wpList_storeV (w := w1) (by with_unfolding_all rfl) 29 (.tmp 4) (.tmp 21) (by with_unfolding_all rfl) w.heap.size (pvs (.slice none 0 0) 0) (pvs (.slice none 0 0) 9) (by with_unfolding_all rfl) (by with_unfolding_all rfl) hA1 2 Tryd.sizeP (by with_unfolding_all rfl) (by with_unfolding_all rfl) (pvs_one _ _ _ _) ?_; intro w5 hA5 hB5 hF5 hS5))
    refine bodyPost_ret (results_V (t := 29) rfl _ w.heap.size _ rfl hA5 Tryd.undP 2 Tryd.sizeP rfl) rfl ⟨_, rfl, ?_, hB1.trans (hB5 _ (Nat.le_refl _))⟩
    rw [HL.out]
    exact NewM.nil _ _
  have e1 : decide (i < 1) = false := decide_eq_false hi
  by_cases hi2 : (n : Int) < i
  · have e2 : decide ((n : Int) < i) = true := decide_eq_true hi2
    have hcd : prfC l 1 i = 9 := prfC_none (by omega) ho (by omega)
    have HL : Hid (conL l i = []) := by show _ = _; unfold conL; rw [hcd, if_neg (by decide)]
    rw [hcd]
    clear h hx hcd ho ho'
    go_enter Tryd.func42, Tryd.ntmps42
    go_wp2_with (first
      | (with_reducible refine wpList_allocV (w := w) (by with_unfolding_all rfl) 29 (by with_unfolding_all rfl) (pvs (.slice none 0 0) 0) Tryd.infoP ?_; intro w1 hA1 hB1 hS1)
      | (go_at_call 47; refine (hR _ (HA.out.below hB1)).mono ?_; rintro e w' ⟨rfl, rfl⟩)
      | (with_reducible refine wpList_storeV (w := w1) (by with_unfolding_all rfl) 29 (.tmp 4) (.tmp 21) (by with_unfolding_all rfl) w.heap.size (pvs (.slice none 0 0) 0) (pvs (.slice none 0 0) 9) (by with_unfolding_all rfl) (by with_unfolding_all rfl) hA1 2 Tryd.sizeP (by with_unfolding_all rfl) (by with_unfolding_all rfl) (pvs_one _ _ _ _) ?_; intro w5 hA5 hB5 hF5 hS5))
    refine bodyPost_ret (results_V (t := 29) rfl _ w.heap.size _ rfl hA5 Tryd.undP 2 Tryd.sizeP rfl) rfl ⟨_, rfl, ?_, hB1.trans (hB5 _ (Nat.le_refl _))⟩
    rw [HL.out]
    exact NewM.nil _ _
  have e2 : decide ((n : Int) < i) = false := decide_eq_false hi2
  have hcd : prfC l 1 i = 0 := prfC_ok (by omega) ho (by omega)
  obtain ⟨k, rfl⟩ := Int.eq_ofNat_of_zero_le (show 0 ≤ i by omega)
  have hL : conL l k = prT l k true := by unfold conL; rw [hcd, if_pos rfl]; rfl
  rw [hcd, hL]
  have hP : ∀ w0, Hid (SA w0 a l) → Calls Tryd.prog 75 #[.slice a n c, .int .i64 (k : Int), .bool true] w0 fun e w' => ∃ v, e = .returned v ∧ w'.ownsRow w0.heap.size 9 1 v (prT l k true).length (svl (prT l k true)) ∧ Below w0.heap.size w0 w' := fun w0 h0 => specProof n a c n k true l w0 (by omega) hn (by omega) (by omega) hc h0.out (by have := ho'.1; omega) hcM ho'.2
  generalize prT l k true = P at *
  clear h hx hcd ho ho' hL
  go_enter Tryd.func42, Tryd.ntmps42
  go_wp2_with (first
    | (with_reducible refine wpList_allocV (w := w) (by with_unfolding_all rfl) 29 (by with_unfolding_all rfl) (pvs (.slice none 0 0) 0) Tryd.infoP ?_; intro w1 hA1 hB1 hS1)
    | (go_at_call 47; refine (hR _ (HA.out.below hB1)).mono ?_; rintro e w' ⟨rfl, rfl⟩)
    | (go_at_call 75; refine (hP _ (HA.out.below hB1)).mono ?_; rintro e w2 ⟨v2, rfl, hO2, hB2⟩; obtain ⟨a2, c2, rfl, hl2, hc2, hm2, hsa2⟩ := own_sa hO2; have V2 := hA1.below hB2 (by omega))
    | (with_reducible refine wpList_storeV (w := w2) (by with_unfolding_all rfl) 29 (.tmp 4) (.tmp 25) (by with_unfolding_all rfl) w.heap.size (pvs (.slice none 0 0) 0) (pvs (.slice a2 P.length c2) 0) (by with_unfolding_all rfl) (by with_unfolding_all rfl) V2 2 Tryd.sizeP (by with_unfolding_all rfl) (by with_unfolding_all rfl) (pvs_one _ _ _ _) ?_; intro w5 hA5 hB5 hF5 hS5))
  have hO1 : w2.ownsRow (w.heap.size + 1) 9 1 (.slice a2 P.length c2) P.length (svl P) := by rw [← hS1]; exact hO2
  refine bodyPost_ret (results_V (t := 29) rfl _ w.heap.size _ rfl hA5 Tryd.undP 2 Tryd.sizeP rfl) rfl ⟨_, rfl, ?_, (hB1.trans (hB2.mono (by omega))).trans (hB5 _ (Nat.le_refl _))⟩
  exact NewM.far hO1 hF5
end Go.Proofs.YtoaoaagfnkpkdaaDoor
namespace Go.Proofs.YtoaoaagfnkpkdaaDoor
open Go.RowKit
set_option linter.unusedVariables false

theorem i64_of {n : Int} (h : -9223372036854775808 ≤ n ∧ n ≤ 9223372036854775807) : I64 n := by
  unfold I64
  simpa [Lit.wf, IntKind.min, IntKind.max, IntKind.signed, IntKind.bits] using h
theorem field_prf (a b : Value) (w : World) : (Instr.field 29 (.agg #[a, b]) 0).run Tryd.prog w = .ok a w := by kernel_rfl
theorem four_cell (w : World) (t : TypeId) (a b c d : Int) (ha : I64 a) (hb : I64 b) (hc : I64 c) (hd : I64 d) : ∀ j : Nat, j < 4 → ∃ z : Int, I64 z ∧ (w.alloc (.cells #[.int .i64 a, .int .i64 b, .int .i64 c, .int .i64 d] t)).cell? ⟨w.heap.size, j, none⟩ = some (.int .i64 z)
  | 0, _ => ⟨a, ha, by simp⟩
  | 1, _ => ⟨b, hb, by simp⟩
  | 2, _ => ⟨c, hc, by simp⟩
  | 3, _ => ⟨d, hd, by simp⟩
  | j + 4, h => by omega
theorem rootA_small (l : List ByteArray) : (rootA l).size ≤ 32 := by
  unfold rootA
  split
  · rw [rtT_size]; exact Nat.le_refl _
  · exact Nat.zero_le _
theorem leafA_small (x : ByteArray) : (leafA x).size ≤ 32 := by
  unfold leafA
  split
  · rw [leafD_size]; exact Nat.le_refl _
  · exact Nat.zero_le _
theorem pthT_hs2 : ∀ (m : Nat) (l : List ByteArray) (i : Nat), l.length ≤ m → ∀ x ∈ pthT l i, x.size = 32
  | 0, l, i, h, x, hx => by rw [pthT_one (by omega)] at hx; simp at hx
  | m + 1, l, i, h, x, hx => by
    by_cases h2 : 2 ≤ l.length
    · have hlt := Mer.half_lt h2
      have hp := Mer.half_pos l.length
      by_cases hi : i < Mer.half l.length
      · rw [pthT_lo h2 hi] at hx
        rcases List.mem_append.1 hx with hx | hx
        · exact pthT_hs2 m _ _ (by rw [List.length_take]; omega) x hx
        · rw [List.mem_singleton.1 hx]; exact rtT_size _
      · rw [pthT_hi h2 (by omega)] at hx
        rcases List.mem_append.1 hx with hx | hx
        · exact pthT_hs2 m _ _ (by rw [List.length_drop]; omega) x hx
        · rw [List.mem_singleton.1 hx]; exact rtT_size _
    · rw [pthT_one (by omega)] at hx; simp at hx
theorem prT_hs2 : ∀ (m : Nat) (l : List ByteArray) (k : Nat) (kn : Bool), l.length ≤ m → 1 ≤ k → k ≤ l.length → ∀ x ∈ prT l k kn, x.size = 32
  | 0, l, k, kn, h, h1, h2, x, hx => by omega
  | m + 1, l, k, kn, h, h1, h2, x, hx => by
    by_cases hk : k = l.length
    · subst hk
      rw [prT_all h1] at hx
      cases kn
      · rw [if_neg (by decide)] at hx; rw [List.mem_singleton.1 hx]; exact rtT_size _
      · rw [if_pos rfl] at hx; simp at hx
    · have hl2 : 2 ≤ l.length := by omega
      have hlt := Mer.half_lt hl2
      have hp := Mer.half_pos l.length
      by_cases hc : k ≤ Mer.half l.length
      · rw [prT_lo h1 (by omega) hc] at hx
        rcases List.mem_append.1 hx with hx | hx
        · exact prT_hs2 m _ _ _ (by rw [List.length_take]; omega) h1 (by rw [List.length_take]; omega) x hx
        · rw [List.mem_singleton.1 hx]; exact rtT_size _
      · rw [prT_hi h1 (by omega) (by omega)] at hx
        rcases List.mem_append.1 hx with hx | hx
        · exact prT_hs2 m _ _ _ (by rw [List.length_drop]; omega) (by omega) (by rw [List.length_drop]; omega) x hx
        · rw [List.mem_singleton.1 hx]; exact rtT_size _
theorem few_inc {l : List ByteArray} (h : l.length ≤ 1024) (i : Int) : Few (incL l i) 400 := by
  unfold incL
  split
  · refine ⟨by have := pthT_len h i.toNat; omega, fun x hx => by rw [pthT_hs2 _ l _ (Nat.le_refl _) x hx]; omega⟩
  · exact ⟨Nat.zero_le _, fun x hx => by simp at hx⟩
theorem few_con {l : List ByteArray} (h : l.length ≤ 1024) {k : Nat} (h1 : 1 ≤ k) (h2 : k ≤ l.length) : Few (conL l (k : Int)) 400 := by
  unfold conL
  split
  · rw [Int.toNat_natCast]
    refine ⟨by have := prT_len h h1 h2 true; omega, fun x hx => by rw [prT_hs2 _ l _ true (Nat.le_refl _) h1 h2 x hx]; omega⟩
  · exact ⟨Nat.zero_le _, fun x hx => by simp at hx⟩
/- What stands between two draws behind the proof. -/
structure KpE (w : World) (base g : Nat) (a : Option Addr) (len cap : Nat) (u : Value) (ps : List ByteArray) (w' : World) : Prop where
  below : Below w.heap.size w w'
  src : SrcAt w' g a len cap
  may : NewM w' base u ps
  hg : w.heap.size ≤ g
  gb : g < base
theorem KpE.draw {w w' w2 : World} {base g : Nat} {a : Option Addr} {len cap : Nat} {u : Value} {ps : List ByteArray} (h : Hid (KpE w base g a len cap u ps w')) (h1 : SrcAt w2 g a len cap) (h2 : w'.grownBy w2 (some g)) : Hid (KpE w base g a len cap u ps w2) :=
  ⟨Below.by h.out.below h2 h.out.below.size h.out.hg, h1, h.out.may.grown h2 h.out.gb, h.out.hg, h.out.gb⟩
theorem KpE.call {w w' w2 : World} {base g : Nat} {a : Option Addr} {len cap : Nat} {u : Value} {ps : List ByteArray} (h : Hid (KpE w base g a len cap u ps w')) (hb : Below w'.heap.size w' w2) : Hid (KpE w base g a len cap u ps w2) :=
  ⟨h.out.below.trans (hb.mono h.out.below.size), h.out.src.below hb h.out.src.room, h.out.may.below hb, h.out.hg, h.out.gb⟩
theorem KpE.spoilt {w w' w2 : World} {base g : Nat} {a : Option Addr} {len cap : Nat} {u u2 : Value} {ps ps2 : List ByteArray} (h : Hid (KpE w base g a len cap u ps w')) (hd : Hid (KpD w' g a len cap u2 ps2 w2)) : Hid (KpE w w'.heap.size g a len cap u2 ps2 w2) :=
  ⟨Below.by h.out.below hd.out.gr h.out.below.size h.out.hg, hd.out.src, NewM.own hd.out.own, h.out.hg, hd.out.lt⟩
/- What stands ahead of the proof: the leaves. -/
structure KpF (w w1 : World) (g : Nat) (a : Option Addr) (len cap gl m cl : Nat) (L : List ByteArray) (w' : World) : Prop where
  d : KpD w1 g a len cap (.slice (some ⟨gl, 0, none⟩) m cl) L w'
  b : Below w.heap.size w w1
  lm : L.length = m
  lt : g < w1.heap.size
theorem KpF.sa {w w1 w' : World} {g : Nat} {a : Option Addr} {len cap gl m cl : Nat} {L : List ByteArray} (h : Hid (KpF w w1 g a len cap gl m cl L w')) : Hid (SA w' (some ⟨gl, 0, none⟩) L) := by
  obtain ⟨b, c, h1, h2, h3, h4, h5⟩ := own_sa h.out.d.own
  injection h1 with h1 h6 h7
  rw [← h1] at h5
  exact h5
theorem KpE.first {w w1 w4 w5 : World} {g : Nat} {a : Option Addr} {len cap gl m cl : Nat} {L : List ByteArray} {u : Value} {P : List ByteArray} (h : Hid (KpF w w1 g a len cap gl m cl L w4)) (hM : NewM w5 w4.heap.size u P) (hB : Below w4.heap.size w4 w5) (hg : w.heap.size ≤ g) : Hid (KpE w w4.heap.size g a len cap u P w5) := by
  have b4 : Below w.heap.size w w4 := Below.by h.out.b h.out.d.gr h.out.b.size hg
  exact ⟨b4.trans (hB.mono b4.size), h.out.d.src.below hB h.out.d.src.room, hM, hg, h.out.d.src.room⟩
set_option maxRecDepth 100000 in
set_option maxHeartbeats 2000000 in
theorem drawInc (len cap : Nat) (a : Option Addr) (w : World) (hb : Bytes w a len) (hs : len ≤ 9223372036854775807) :
    Calls Tryd.prog 23 #[.slice a len cap] w fun e w' => ∃ (x y : ByteArray) (i n : Int) (u : Value) (ps : List ByteArray), e = .returned (.tuple #[.string x, .int .i64 i, .int .i64 n, u, .string y]) ∧ x.size ≤ 1000 ∧ y.size ≤ 1000 ∧ I64 i ∧ I64 n ∧ Few ps 401 ∧ MayS w' u ps ∧ Below w.heap.size w w' := by
  have HS : Hid _ := source_any len cap a w hb hs
  clear hb
  go_enter Tryd.func23, Tryd.ntmps23
  go_wp2_with fail
  refine Calls.mono HS.out ?_
  rintro e w1 ⟨g, rfl, hg, h1, h2⟩
  have H2 : Hid (Below w.heap.size w w1) := h2
  have HR1 : Hid (g < w1.heap.size) := h1.room
  have HL : Hid _ := leaves_any g len cap a w1 h1
  clear h1 h2 HS
  go_wp2_with fail
  refine Calls.mono HL.out ?_
  rintro e w2 ⟨v, l, rfl, hv, hl, hO, h3, h4⟩
  have HK2 : Hid (KpD w1 g a len cap v l w2) := ⟨hO, h3, h4, HR1.out⟩
  have HV : Hid (v ≠ .slice none 0 0) := hv
  have hl65 := hl.len
  have HLs : Hid (∀ y ∈ l ++ [(⟨#[122]⟩ : ByteArray)], y.size ≤ 4) := Lvs.snoc hl.small (by decide)
  have B3 : Below w2.heap.size w2 (w2.alloc (.cells #[.string ⟨#[122]⟩] 9)) := (Below.refl _ _).alloc (Nat.le_refl _) _
  have HB3 : Hid (Below w1.heap.size w2 (w2.alloc (.cells #[.string ⟨#[122]⟩] 9))) := B3.mono h4.size
  have HO3 : Hid ((w2.alloc (.cells #[.string ⟨#[122]⟩] 9)).ownsRow w1.heap.size 9 1 v l.length (svl l)) := own_below hO B3
  have HX3 : Hid (SA (w2.alloc (.cells #[.string ⟨#[122]⟩] 9)) (some ⟨w2.heap.size, 0, none⟩) [⟨#[122]⟩]) := lit_sa w2 ⟨#[122]⟩ 9
  have hz3 : w1.heap.size ≤ (w2.alloc (.cells #[.string ⟨#[122]⟩] 9)).heap.size := Nat.le_trans h4.size B3.size
  clear h3 h4 hO hv hl HL B3
  go_wp2_with (first
    | (at_builtin; refine wpList_append_strs rfl _ _ rfl w1.heap.size v l.length 1 l [⟨#[122]⟩] rfl HO3.out w2.heap.size 0 1 rfl rfl HX3.out (by omega) hz3 ?_; intro v3 w3 hO3 hB3 hv3; obtain ⟨gl, cl, rfl, hll, hgl, hcl, hml, hsl⟩ := own_some hO3 (hv3 HV.out); have HK3 : Hid (KpD w1 g a len cap (.slice (some ⟨gl, 0, none⟩) (l.length + 1) cl) (l ++ [⟨#[122]⟩]) w3) := KpD.app HK2 (by rw [hll]; exact hO3) (HB3.out.trans hB3); clear hO3 hB3 hv3 hsl HK2 HO3 HX3 HB3 hz3 HV)
    | fail)
  obtain ⟨L, hL⟩ : ∃ L, l ++ [(⟨#[122]⟩ : ByteArray)] = L := ⟨_, rfl⟩
  obtain ⟨m, hmm⟩ : ∃ m, l.length + 1 = m := ⟨_, rfl⟩
  rw [hL] at HK3 HLs hll
  rw [hmm] at HK3 hll hcl
  have HLm : Hid (L.length = m) := hll
  have hm1 : 1 ≤ m := by omega
  have hm2 : m ≤ 66 := by omega
  have hNm : ∀ w0, SrcAt w0 g a len cap → Calls Tryd.prog 62 #[.pointer (some ⟨g, 0, none⟩), .int .i64 (m : Int)] w0 fun e w' => ∃ v : Int, e = .returned (.int .i64 v) ∧ 0 ≤ v ∧ v < (m : Int) ∧ SrcAt w' g a len cap ∧ w0.grownBy w' (some g) := fun w0 h => n_any g len cap a m w0 h (by omega) (by omega)
  have em : (l.length : Int) + 1 = (m : Int) := by omega
  simp only [hmm, em]
  clear hL hmm hl65 em hll
  refine (hNm _ HK3.out.src).mono ?_
  rintro e w4 ⟨i0, rfl, hi0, hi1, k1, k2⟩
  obtain ⟨i, rfl⟩ := Int.eq_ofNat_of_zero_le hi0
  have HK4 := KpD.draw HK3 k1 k2
  have HK4 : Hid (KpF w w1 g a len cap gl m cl L w4) := ⟨HK4.out, H2.out, HLm.out, HR1.out⟩
  have HSA : Hid (SA w4 (some ⟨gl, 0, none⟩) L) := KpF.sa HK4
  clear k1 k2 HK3 hNm hi0
  have hSP : ∀ w0, SA w0 (some ⟨gl, 0, none⟩) L → Calls Tryd.prog 37 #[.slice (some ⟨gl, 0, none⟩) m cl, .int .i64 (i : Int)] w0 fun e w' => ∃ v, e = .returned (.agg #[v, .int .i64 (prfC L 0 (i : Int))]) ∧ NewM w' w0.heap.size v (incL L (i : Int)) ∧ Below w0.heap.size w0 w' := fun w0 h => specIncM _ cl m (i : Int) L w0 HLm.out hcl h (by omega) (by unfold maxLen at hml; omega) (fun x hx => by have := HLs.out x hx; unfold maxLen; omega)
  have hx : ∃ x, L[i]? = some x := ⟨L[i]'(by have := HLm.out; omega), List.getElem?_eq_getElem _⟩
  obtain ⟨x, hx⟩ := hx
  have hxs : x.size ≤ 4 := by obtain ⟨h, he⟩ := List.getElem?_eq_some_iff.1 hx; rw [← he]; exact HLs.out _ (List.getElem_mem h)
  have hXc : ∀ w0, SA w0 (some ⟨gl, 0, none⟩) L → w0.cell? ⟨gl, i, none⟩ = some (.string x) := fun w0 h => by
    obtain ⟨hi', he⟩ := List.getElem?_eq_some_iff.1 hx
    obtain ⟨b, o, e, hc⟩ := h i hi'
    injection e with e
    injection e with e1 e2
    subst e1 e2
    rw [Nat.zero_add, he] at hc
    exact hc
  have HXc : Hid _ := hXc
  have hLH : ∀ w0, Calls Tryd.prog 31 #[.string x] w0 fun e w' => e = .returned (.string (leafA x)) ∧ Below w0.heap.size w0 w' := fun w0 => specLeafH x w0 (by unfold maxLen; omega)
  have hx0 := leafA_small x
  have hy0 := rootA_small L
  have HFw : Hid (Few (incL L (i : Int)) 400) := few_inc (by have := HLm.out; omega) _
  have hTR : ∀ w0, SA w0 (some ⟨gl, 0, none⟩) L → Calls Tryd.prog 15 #[.slice (some ⟨gl, 0, none⟩) m cl] w0 fun e w' => e = .returned (.string (rootA L)) ∧ Below w0.heap.size w0 w' := fun w0 h => specTree _ cl m L w0 HLm.out hcl h (by omega) (by unfold maxLen at hml; omega) (fun x hx => by have := HLs.out x hx; unfold maxLen; omega)
  generalize leafA x = X at *
  generalize rootA L = Y at *
  generalize incL L (i : Int) = P at *
  generalize prfC L 0 (i : Int) = z at *
  have hfp := field_prf
  have i0 : (0 : Int) ≤ (i : Int) := by omega
  have i1 : (i : Int) < (m : Int) := by omega
  clear hx hXc
  go_wp2_with (first
    | (go_at_call 37; refine (hSP _ HSA.out).mono ?_; rintro e w5 ⟨u, rfl, hM5, hB5⟩; have S5 := HSA.out.below hB5; have c5 := HXc.out w5 S5)
    | (go_at_call 31; refine (hLH _).mono ?_; rintro e w6 ⟨rfl, hB6⟩; have S6 := S5.below hB6)
    | (go_at_call 15; refine (hTR _ S6).mono ?_; rintro e w7 ⟨rfl, hB7⟩; have HE7 : Hid (KpE w w4.heap.size g a len cap u P w7) := KpE.call (KpE.call (KpE.first HK4 hM5 hB5 hg) hB6) hB7; clear hB5 hB6 hB7 S5 S6 c5 hM5)
    | fail)
  have HO3 : Hid _ := one_any g len cap a 3 w7 HE7.out.src (by omega) (by omega)
  refine Calls.mono HO3.out ?_
  rintro e w8 ⟨bb, rfl, k1, k2⟩
  have HE8 := KpE.draw HE7 k1 k2
  clear k1 k2 HE7 HO3 HK4 HSA HLs HLm H2 HR1 hSP hTR
  cases bb
  case false =>
    go_wp2
    exact bodyPost_ret (v := .tuple #[.string X, .int .i64 (i : Int), .int .i64 (m : Int), u, .string Y]) (by simp [results, Tryd.results23, go_sem]) rfl ⟨X, Y, (i : Int), (m : Int), u, P, rfl, (by omega), (by omega), (i64_of (by omega)), (i64_of (by omega)), (HFw.out.mono (by omega)), HE8.out.may.may, HE8.out.below⟩
  have HN5 : Hid _ := n_any g len cap a 5 w8 HE8.out.src (by omega) (by omega)
  go_wp2_with fail
  refine Calls.mono HN5.out ?_
  rintro e w9 ⟨z5, rfl, hz0, hz1, k1, k2⟩
  have HE9 := KpE.draw HE8 k1 k2
  clear k1 k2 HE8 HN5
  rcases (by omega : z5 = 0 ∨ z5 = 1 ∨ z5 = 2 ∨ z5 = 3 ∨ z5 = 4) with rfl | rfl | rfl | rfl | rfl
  · as_aux_lemma =>
    have HEd : Hid _ := edge_any g len cap a w9 HE9.out.src
    go_wp2_with fail
    refine Calls.mono HEd.out ?_
    rintro e w10 ⟨q, rfl, hq, k1, k2⟩
    have HE10 := KpE.draw HE9 k1 k2
    have B11 : Below w10.heap.size w10 (w10.alloc (.cells #[.int .i64 (-1), .int .i64 ((i : Int) + 1), .int .i64 (m : Int), .int .i64 q] 2)) := (Below.refl _ _).alloc (Nat.le_refl _) _
    have HE11 := KpE.call HE10 B11
    have HC11 : Hid _ := four_cell w10 2 (-1) ((i : Int) + 1) (m : Int) q (i64_of (by omega)) (i64_of (by omega)) (i64_of (by omega)) hq
    have HN4 : Hid _ := n_any g len cap a 4 _ HE11.out.src (by omega) (by omega)
    have hgw : g < w10.heap.size := HE10.out.src.room
    clear k1 k2 HE10 B11 HEd
    go_wp2_with fail
    refine Calls.mono HN4.out ?_
    rintro e w12 ⟨j0, rfl, hj0, hj1, k1, k2⟩
    obtain ⟨j, rfl⟩ := Int.eq_ofNat_of_zero_le hj0
    obtain ⟨q2, hq2, hc11⟩ := HC11.out j (by omega)
    have hc12 := k2.cell hc11 (by intro e; injection e with e; have : w10.heap.size = g := e; omega)
    have HE12 := KpE.draw HE11 k1 k2
    have j0' : (0 : Int) ≤ (j : Int) := by omega
    have j1' : (j : Int) < 4 := by omega
    clear k1 k2 HE11 HC11 HN4 hc11
    generalize w10.heap.size = g10 at *
    go_wp2
    exact bodyPost_ret (v := .tuple #[.string X, .int .i64 q2, .int .i64 (m : Int), u, .string Y]) (by simp [results, Tryd.results23, go_sem]) rfl ⟨X, Y, q2, (m : Int), u, P, rfl, (by omega), (by omega), hq2, (i64_of (by omega)), (HFw.out.mono (by omega)), HE12.out.may.may, HE12.out.below⟩
  · as_aux_lemma =>
    have HEd : Hid _ := edge_any g len cap a w9 HE9.out.src
    go_wp2_with fail
    refine Calls.mono HEd.out ?_
    rintro e w10 ⟨q, rfl, hq, k1, k2⟩
    have HE10 := KpE.draw HE9 k1 k2
    have B11 : Below w10.heap.size w10 (w10.alloc (.cells #[.int .i64 0, .int .i64 ((m : Int) + 1), .int .i64 ((m : Int) - 1), .int .i64 q] 2)) := (Below.refl _ _).alloc (Nat.le_refl _) _
    have HE11 := KpE.call HE10 B11
    have HC11 : Hid _ := four_cell w10 2 0 ((m : Int) + 1) ((m : Int) - 1) q (i64_of (by omega)) (i64_of (by omega)) (i64_of (by omega)) hq
    have HN4 : Hid _ := n_any g len cap a 4 _ HE11.out.src (by omega) (by omega)
    have hgw : g < w10.heap.size := HE10.out.src.room
    clear k1 k2 HE10 B11 HEd
    go_wp2_with fail
    refine Calls.mono HN4.out ?_
    rintro e w12 ⟨j0, rfl, hj0, hj1, k1, k2⟩
    obtain ⟨j, rfl⟩ := Int.eq_ofNat_of_zero_le hj0
    obtain ⟨q2, hq2, hc11⟩ := HC11.out j (by omega)
    have hc12 := k2.cell hc11 (by intro e; injection e with e; have : w10.heap.size = g := e; omega)
    have HE12 := KpE.draw HE11 k1 k2
    have j0' : (0 : Int) ≤ (j : Int) := by omega
    have j1' : (j : Int) < 4 := by omega
    clear k1 k2 HE11 HC11 HN4 hc11
    generalize w10.heap.size = g10 at *
    go_wp2
    exact bodyPost_ret (v := .tuple #[.string X, .int .i64 (i : Int), .int .i64 q2, u, .string Y]) (by simp [results, Tryd.results23, go_sem]) rfl ⟨X, Y, (i : Int), q2, u, P, rfl, (by omega), (by omega), (i64_of (by omega)), hq2, (HFw.out.mono (by omega)), HE12.out.may.may, HE12.out.below⟩
  · as_aux_lemma =>
    have HSp : Hid _ := spoil_any g len cap a w9 HE9.out.src u P HFw.out HE9.out.may.may
    go_wp2_with fail
    refine Calls.mono HSp.out ?_
    rintro e w10 ⟨v2, P2, rfl, hv2, hf2, hd2⟩
    have HE10 := KpE.spoilt HE9 hd2
    have HF2 : Hid (Few P2 401) := hf2
    clear HSp hd2 HE9 hv2 hf2
    go_wp2
    exact bodyPost_ret (v := .tuple #[.string X, .int .i64 (i : Int), .int .i64 (m : Int), v2, .string Y]) (by simp [results, Tryd.results23, go_sem]) rfl ⟨X, Y, (i : Int), (m : Int), v2, P2, rfl, (by omega), (by omega), (i64_of (by omega)), (i64_of (by omega)), HF2.out, HE10.out.may.may, HE10.out.below⟩
  · as_aux_lemma =>
    have HAy : Hid _ := any5 g len cap a w9 HE9.out.src
    go_wp2_with fail
    refine Calls.mono HAy.out ?_
    rintro e w10 ⟨X2, rfl, hx2, k1, k2⟩
    have HE10 := KpE.draw HE9 k1 k2
    clear HAy k1 k2 HE9
    go_wp2
    exact bodyPost_ret (v := .tuple #[.string X2, .int .i64 (i : Int), .int .i64 (m : Int), u, .string Y]) (by simp [results, Tryd.results23, go_sem]) rfl ⟨X2, Y, (i : Int), (m : Int), u, P, rfl, (by omega), (by omega), (i64_of (by omega)), (i64_of (by omega)), (HFw.out.mono (by omega)), HE10.out.may.may, HE10.out.below⟩
  · as_aux_lemma =>
    have HAy : Hid _ := any5 g len cap a w9 HE9.out.src
    go_wp2_with fail
    refine Calls.mono HAy.out ?_
    rintro e w10 ⟨Y2, rfl, hy2, k1, k2⟩
    have HE10 := KpE.draw HE9 k1 k2
    clear HAy k1 k2 HE9
    go_wp2
    exact bodyPost_ret (v := .tuple #[.string X, .int .i64 (i : Int), .int .i64 (m : Int), u, .string Y2]) (by simp [results, Tryd.results23, go_sem]) rfl ⟨X, Y2, (i : Int), (m : Int), u, P, rfl, (by omega), (by omega), (i64_of (by omega)), (i64_of (by omega)), (HFw.out.mono (by omega)), HE10.out.may.may, HE10.out.below⟩
end Go.Proofs.YtoaoaagfnkpkdaaDoor
namespace Go.Proofs.YtoaoaagfnkpkdaaDoor
open Go.RowKit
set_option linter.unusedVariables false

set_option maxRecDepth 100000 in
set_option maxHeartbeats 2000000 in
theorem drawCon (len cap : Nat) (a : Option Addr) (w : World) (hb : Bytes w a len) (hs : len ≤ 9223372036854775807) :
    Calls Tryd.prog 27 #[.slice a len cap] w fun e w' => ∃ (x y : ByteArray) (i n : Int) (u : Value) (ps : List ByteArray), e = .returned (.tuple #[.int .i64 i, .int .i64 n, u, .string x, .string y]) ∧ x.size ≤ 1000 ∧ y.size ≤ 1000 ∧ I64 i ∧ I64 n ∧ Few ps 401 ∧ MayS w' u ps ∧ Below w.heap.size w w' := by
  have HS : Hid _ := source_any len cap a w hb hs
  clear hb
  go_enter Tryd.func27, Tryd.ntmps27
  go_wp2_with fail
  refine Calls.mono HS.out ?_
  rintro e w1 ⟨g, rfl, hg, h1, h2⟩
  have H2 : Hid (Below w.heap.size w w1) := h2
  have HR1 : Hid (g < w1.heap.size) := h1.room
  have HL : Hid _ := leaves_any g len cap a w1 h1
  clear h1 h2 HS
  go_wp2_with fail
  refine Calls.mono HL.out ?_
  rintro e w2 ⟨v, l, rfl, hv, hl, hO, h3, h4⟩
  have HK2 : Hid (KpD w1 g a len cap v l w2) := ⟨hO, h3, h4, HR1.out⟩
  have HV : Hid (v ≠ .slice none 0 0) := hv
  have hl65 := hl.len
  have HLs : Hid (∀ y ∈ l ++ [(⟨#[122]⟩ : ByteArray)], y.size ≤ 4) := Lvs.snoc hl.small (by decide)
  have B3 : Below w2.heap.size w2 (w2.alloc (.cells #[.string ⟨#[122]⟩] 9)) := (Below.refl _ _).alloc (Nat.le_refl _) _
  have HB3 : Hid (Below w1.heap.size w2 (w2.alloc (.cells #[.string ⟨#[122]⟩] 9))) := B3.mono h4.size
  have HO3 : Hid ((w2.alloc (.cells #[.string ⟨#[122]⟩] 9)).ownsRow w1.heap.size 9 1 v l.length (svl l)) := own_below hO B3
  have HX3 : Hid (SA (w2.alloc (.cells #[.string ⟨#[122]⟩] 9)) (some ⟨w2.heap.size, 0, none⟩) [⟨#[122]⟩]) := lit_sa w2 ⟨#[122]⟩ 9
  have hz3 : w1.heap.size ≤ (w2.alloc (.cells #[.string ⟨#[122]⟩] 9)).heap.size := Nat.le_trans h4.size B3.size
  clear h3 h4 hO hv hl HL B3
  go_wp2_with (first
    | (at_builtin; refine wpList_append_strs rfl _ _ rfl w1.heap.size v l.length 1 l [⟨#[122]⟩] rfl HO3.out w2.heap.size 0 1 rfl rfl HX3.out (by omega) hz3 ?_; intro v3 w3 hO3 hB3 hv3; obtain ⟨gl, cl, rfl, hll, hgl, hcl, hml, hsl⟩ := own_some hO3 (hv3 HV.out); have HK3 : Hid (KpD w1 g a len cap (.slice (some ⟨gl, 0, none⟩) (l.length + 1) cl) (l ++ [⟨#[122]⟩]) w3) := KpD.app HK2 (by rw [hll]; exact hO3) (HB3.out.trans hB3); clear hO3 hB3 hv3 hsl HK2 HO3 HX3 HB3 hz3 HV)
    | fail)
  obtain ⟨L, hL⟩ : ∃ L, l ++ [(⟨#[122]⟩ : ByteArray)] = L := ⟨_, rfl⟩
  obtain ⟨m, hmm⟩ : ∃ m, l.length + 1 = m := ⟨_, rfl⟩
  rw [hL] at HK3 HLs hll
  rw [hmm] at HK3 hll hcl
  have HLm : Hid (L.length = m) := hll
  have hm1 : 1 ≤ m := by omega
  have hm2 : m ≤ 66 := by omega
  have hNm : ∀ w0, SrcAt w0 g a len cap → Calls Tryd.prog 62 #[.pointer (some ⟨g, 0, none⟩), .int .i64 (m : Int)] w0 fun e w' => ∃ v : Int, e = .returned (.int .i64 v) ∧ 0 ≤ v ∧ v < (m : Int) ∧ SrcAt w' g a len cap ∧ w0.grownBy w' (some g) := fun w0 h => n_any g len cap a m w0 h (by omega) (by omega)
  have em : (l.length : Int) + 1 = (m : Int) := by omega
  simp only [hmm, em]
  clear hL hmm hl65 em hll
  refine (hNm _ HK3.out.src).mono ?_
  rintro e w4 ⟨i0, rfl, hi0, hi1, k1, k2⟩
  obtain ⟨i, rfl⟩ := Int.eq_ofNat_of_zero_le hi0
  have HK4 := KpD.draw HK3 k1 k2
  have HK4 : Hid (KpF w w1 g a len cap gl m cl L w4) := ⟨HK4.out, H2.out, HLm.out, HR1.out⟩
  have HSA : Hid (SA w4 (some ⟨gl, 0, none⟩) L) := KpF.sa HK4
  clear k1 k2 HK3 hNm hi0
  obtain ⟨k, hkk⟩ : ∃ k, 1 + i = k := ⟨_, rfl⟩
  have ek : (1 : Int) + (i : Int) = (k : Int) := by omega
  have hk1 : 1 ≤ k := by omega
  have hk2 : k ≤ m := by omega
  go_wp2_with fail
  try simp only [ek]
  clear ek hkk
  have hSP : ∀ w0, SA w0 (some ⟨gl, 0, none⟩) L → Calls Tryd.prog 42 #[.slice (some ⟨gl, 0, none⟩) m cl, .int .i64 (k : Int)] w0 fun e w' => ∃ v, e = .returned (.agg #[v, .int .i64 (prfC L 1 (k : Int))]) ∧ NewM w' w0.heap.size v (conL L (k : Int)) ∧ Below w0.heap.size w0 w' := fun w0 h => specConM _ cl m (k : Int) L w0 HLm.out hcl h (by omega) (by unfold maxLen at hml; omega) (fun x hx => by have := HLs.out x hx; unfold maxLen; omega)
  have hx0 := rootA_small (L.take k)
  have hy0 := rootA_small L
  have HFw : Hid (Few (conL L (k : Int)) 400) := few_con (by have := HLm.out; omega) hk1 (by have := HLm.out; omega)
  have hTk : ∀ w0, SA w0 (some ⟨gl, 0, none⟩) L → Calls Tryd.prog 15 #[.slice (some ⟨gl, 0, none⟩) k cl] w0 fun e w' => e = .returned (.string (rootA (L.take k))) ∧ Below w0.heap.size w0 w' := fun w0 h => specTree _ cl k (L.take k) w0 (by rw [List.length_take]; have := HLm.out; omega) (by omega) (h.take k) (by omega) (by unfold maxLen at hml; omega) (fun x hx => by have := HLs.out x (List.mem_of_mem_take hx); unfold maxLen; omega)
  have hTR : ∀ w0, SA w0 (some ⟨gl, 0, none⟩) L → Calls Tryd.prog 15 #[.slice (some ⟨gl, 0, none⟩) m cl] w0 fun e w' => e = .returned (.string (rootA L)) ∧ Below w0.heap.size w0 w' := fun w0 h => specTree _ cl m L w0 HLm.out hcl h (by omega) (by unfold maxLen at hml; omega) (fun x hx => by have := HLs.out x hx; unfold maxLen; omega)
  generalize rootA (L.take k) = X at *
  generalize rootA L = Y at *
  generalize conL L (k : Int) = P at *
  generalize prfC L 1 (k : Int) = z at *
  have hfp := field_prf
  have s1 := Tryd.sliceLo gl 0 m cl k (by omega)
  go_wp2_with (first
    | (go_at_call 42; refine (hSP _ HSA.out).mono ?_; rintro e w5 ⟨u, rfl, hM5, hB5⟩; have S5 := HSA.out.below hB5)
    | (go_at_call 15; with_reducible refine (hTk _ S5).mono ?_; rintro e w6 ⟨rfl, hB6⟩; have S6 := S5.below hB6)
    | (go_at_call 15; with_reducible refine (hTR _ S6).mono ?_; rintro e w7 ⟨rfl, hB7⟩; have HE7 := KpE.call (KpE.call (KpE.first HK4 hM5 hB5 hg) hB6) hB7; clear hB5 hB6 hB7 S5 S6 hM5)
    | fail)
  have HO3 : Hid _ := one_any g len cap a 3 w7 HE7.out.src (by omega) (by omega)
  refine Calls.mono HO3.out ?_
  rintro e w8 ⟨bb, rfl, k1, k2⟩
  have HE8 := KpE.draw HE7 k1 k2
  clear k1 k2 HE7 HO3 HK4 HSA HLs HLm H2 HR1 hSP hTR
  cases bb
  case false =>
    go_wp2
    exact bodyPost_ret (v := .tuple #[.int .i64 (k : Int), .int .i64 (m : Int), u, .string X, .string Y]) (by simp [results, Tryd.results27, go_sem]) rfl ⟨X, Y, (k : Int), (m : Int), u, P, rfl, (by omega), (by omega), (i64_of (by omega)), (i64_of (by omega)), (HFw.out.mono (by omega)), HE8.out.may.may, HE8.out.below⟩
  have HN5 : Hid _ := n_any g len cap a 5 w8 HE8.out.src (by omega) (by omega)
  go_wp2_with fail
  refine Calls.mono HN5.out ?_
  rintro e w9 ⟨z5, rfl, hz0, hz1, k1, k2⟩
  have HE9 := KpE.draw HE8 k1 k2
  clear k1 k2 HE8 HN5
  rcases (by omega : z5 = 0 ∨ z5 = 1 ∨ z5 = 2 ∨ z5 = 3 ∨ z5 = 4) with rfl | rfl | rfl | rfl | rfl
  · as_aux_lemma =>
    have HEd : Hid _ := edge_any g len cap a w9 HE9.out.src
    go_wp2_with fail
    refine Calls.mono HEd.out ?_
    rintro e w10 ⟨q, rfl, hq, k1, k2⟩
    have HE10 := KpE.draw HE9 k1 k2
    have B11 : Below w10.heap.size w10 (w10.alloc (.cells #[.int .i64 0, .int .i64 ((k : Int) + 1), .int .i64 (m : Int), .int .i64 q] 2)) := (Below.refl _ _).alloc (Nat.le_refl _) _
    have HE11 := KpE.call HE10 B11
    have HC11 : Hid _ := four_cell w10 2 0 ((k : Int) + 1) (m : Int) q (i64_of (by omega)) (i64_of (by omega)) (i64_of (by omega)) hq
    have HN4 : Hid _ := n_any g len cap a 4 _ HE11.out.src (by omega) (by omega)
    have hgw : g < w10.heap.size := HE10.out.src.room
    clear k1 k2 HE10 B11 HEd
    go_wp2_with fail
    refine Calls.mono HN4.out ?_
    rintro e w12 ⟨j0, rfl, hj0, hj1, k1, k2⟩
    obtain ⟨j, rfl⟩ := Int.eq_ofNat_of_zero_le hj0
    obtain ⟨q2, hq2, hc11⟩ := HC11.out j (by omega)
    have hc12 := k2.cell hc11 (by intro e; injection e with e; have : w10.heap.size = g := e; omega)
    have HE12 := KpE.draw HE11 k1 k2
    have j0' : (0 : Int) ≤ (j : Int) := by omega
    have j1' : (j : Int) < 4 := by omega
    clear k1 k2 HE11 HC11 HN4 hc11
    generalize w10.heap.size = g10 at *
    go_wp2
    exact bodyPost_ret (v := .tuple #[.int .i64 q2, .int .i64 (m : Int), u, .string X, .string Y]) (by simp [results, Tryd.results27, go_sem]) rfl ⟨X, Y, q2, (m : Int), u, P, rfl, (by omega), (by omega), hq2, (i64_of (by omega)), (HFw.out.mono (by omega)), HE12.out.may.may, HE12.out.below⟩
  · as_aux_lemma =>
    have HEd : Hid _ := edge_any g len cap a w9 HE9.out.src
    go_wp2_with fail
    refine Calls.mono HEd.out ?_
    rintro e w10 ⟨q, rfl, hq, k1, k2⟩
    have HE10 := KpE.draw HE9 k1 k2
    have B11 : Below w10.heap.size w10 (w10.alloc (.cells #[.int .i64 0, .int .i64 ((m : Int) + 1), .int .i64 ((m : Int) - 1), .int .i64 q] 2)) := (Below.refl _ _).alloc (Nat.le_refl _) _
    have HE11 := KpE.call HE10 B11
    have HC11 : Hid _ := four_cell w10 2 0 ((m : Int) + 1) ((m : Int) - 1) q (i64_of (by omega)) (i64_of (by omega)) (i64_of (by omega)) hq
    have HN4 : Hid _ := n_any g len cap a 4 _ HE11.out.src (by omega) (by omega)
    have hgw : g < w10.heap.size := HE10.out.src.room
    clear k1 k2 HE10 B11 HEd
    go_wp2_with fail
    refine Calls.mono HN4.out ?_
    rintro e w12 ⟨j0, rfl, hj0, hj1, k1, k2⟩
    obtain ⟨j, rfl⟩ := Int.eq_ofNat_of_zero_le hj0
    obtain ⟨q2, hq2, hc11⟩ := HC11.out j (by omega)
    have hc12 := k2.cell hc11 (by intro e; injection e with e; have : w10.heap.size = g := e; omega)
    have HE12 := KpE.draw HE11 k1 k2
    have j0' : (0 : Int) ≤ (j : Int) := by omega
    have j1' : (j : Int) < 4 := by omega
    clear k1 k2 HE11 HC11 HN4 hc11
    generalize w10.heap.size = g10 at *
    go_wp2
    exact bodyPost_ret (v := .tuple #[.int .i64 (k : Int), .int .i64 q2, u, .string X, .string Y]) (by simp [results, Tryd.results27, go_sem]) rfl ⟨X, Y, (k : Int), q2, u, P, rfl, (by omega), (by omega), (i64_of (by omega)), hq2, (HFw.out.mono (by omega)), HE12.out.may.may, HE12.out.below⟩
  · as_aux_lemma =>
    have HSp : Hid _ := spoil_any g len cap a w9 HE9.out.src u P HFw.out HE9.out.may.may
    go_wp2_with fail
    refine Calls.mono HSp.out ?_
    rintro e w10 ⟨v2, P2, rfl, hv2, hf2, hd2⟩
    have HE10 := KpE.spoilt HE9 hd2
    have HF2 : Hid (Few P2 401) := hf2
    clear HSp hd2 HE9 hv2 hf2
    go_wp2
    exact bodyPost_ret (v := .tuple #[.int .i64 (k : Int), .int .i64 (m : Int), v2, .string X, .string Y]) (by simp [results, Tryd.results27, go_sem]) rfl ⟨X, Y, (k : Int), (m : Int), v2, P2, rfl, (by omega), (by omega), (i64_of (by omega)), (i64_of (by omega)), HF2.out, HE10.out.may.may, HE10.out.below⟩
  · as_aux_lemma =>
    have HAy : Hid _ := any5 g len cap a w9 HE9.out.src
    go_wp2_with fail
    refine Calls.mono HAy.out ?_
    rintro e w10 ⟨X2, rfl, hx2, k1, k2⟩
    have HE10 := KpE.draw HE9 k1 k2
    clear HAy k1 k2 HE9
    go_wp2
    exact bodyPost_ret (v := .tuple #[.int .i64 (k : Int), .int .i64 (m : Int), u, .string X2, .string Y]) (by simp [results, Tryd.results27, go_sem]) rfl ⟨X2, Y, (k : Int), (m : Int), u, P, rfl, (by omega), (by omega), (i64_of (by omega)), (i64_of (by omega)), (HFw.out.mono (by omega)), HE10.out.may.may, HE10.out.below⟩
  · as_aux_lemma =>
    have HAy : Hid _ := any5 g len cap a w9 HE9.out.src
    go_wp2_with fail
    refine Calls.mono HAy.out ?_
    rintro e w10 ⟨Y2, rfl, hy2, k1, k2⟩
    have HE10 := KpE.draw HE9 k1 k2
    clear HAy k1 k2 HE9
    go_wp2
    exact bodyPost_ret (v := .tuple #[.int .i64 (k : Int), .int .i64 (m : Int), u, .string X, .string Y2]) (by simp [results, Tryd.results27, go_sem]) rfl ⟨X, Y2, (k : Int), (m : Int), u, P, rfl, (by omega), (by omega), (i64_of (by omega)), (i64_of (by omega)), (HFw.out.mono (by omega)), HE10.out.may.may, HE10.out.below⟩
end Go.Proofs.YtoaoaagfnkpkdaaDoor
