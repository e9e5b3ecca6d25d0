/- Paths and proofs of the specification, walked. -/
import Derived.Test.YtdfglpbappeoaabDoorInc
import Derived.Test.YtdfglpbappeoaabDoorOwnS
namespace Go.Proofs.YtdfglpbappeoaabDoor
open Go.RowKit
set_option linter.unusedVariables false

def pthT (l : List ByteArray) (i : Nat) : List ByteArray := Mer.pth nodeD emptyD (l.map leafD) i
theorem pthT_one {l : List ByteArray} (h : l.length ≤ 1) (i : Nat) : pthT l i = [] := Mer.pth_one nodeD emptyD (by rw [List.length_map]; exact h) i
theorem pthT_lo {l : List ByteArray} {i : Nat} (h : 2 ≤ l.length) (hi : i < Mer.half l.length) : pthT l i = pthT (l.take (Mer.half l.length)) i ++ [rtT (l.drop (Mer.half l.length))] := by
  unfold pthT rtT
  rw [Mer.pth_lo nodeD emptyD (by rw [List.length_map]; exact h) (by rw [List.length_map]; exact hi), List.length_map, List.map_take, List.map_drop]
theorem pthT_hi {l : List ByteArray} {i : Nat} (h : 2 ≤ l.length) (hi : Mer.half l.length ≤ i) : pthT l i = pthT (l.drop (Mer.half l.length)) (i - Mer.half l.length) ++ [rtT (l.take (Mer.half l.length))] := by
  unfold pthT rtT
  rw [Mer.pth_hi nodeD emptyD (by rw [List.length_map]; exact h) (by rw [List.length_map]; exact hi), List.length_map, List.map_take, List.map_drop]
theorem pthT_len {l : List ByteArray} (h : l.length ≤ 1024) (i : Nat) : (pthT l i).length ≤ 10 := Mer.pth_len nodeD emptyD 10 _ i (by rw [List.length_map]; exact h)
attribute [local go_sem ↓] Go.wp_at_zero Go.wp_at_succ

set_option maxRecDepth 100000 in
set_option maxHeartbeats 2000000 in
theorem specPath : ∀ (m : Nat) (a : Option Addr) (c n i : Nat) (l : List ByteArray) (w : World), l.length ≤ m → l.length = n → 1 ≤ n → i < n → n ≤ c → SA w a l → n ≤ 1000 → c ≤ 9223372036854775807 → (∀ x ∈ l, x.size < 20000) →
    Calls Tryd.prog 101 #[.slice a n c, .int .i64 (i : Int)] w fun e w' => ∃ v, e = .returned v ∧ w'.ownsRow w.heap.size 9 1 v (pthT l i).length (svl (pthT l i)) ∧ Below w.heap.size w w'
  | m, a, c, n, i, l, w, hm, hn, hn1, hin, hc, hA, hM, hcM, hx => by
    by_cases h1 : n = 1
    · have HP : Hid (pthT l i = []) := pthT_one (by omega) i
      subst h1
      clear hA hx
      go_enter Tryd.func101, Tryd.ntmps101
      go_wp2
      go_ret
      refine ⟨_, rfl, ?_, (Below.refl _ _).alloc (Nat.le_refl _) _⟩
      rw [HP.out]
      exact World.ownsRow_made w #[] 0 (Nat.le_refl _) (Nat.zero_le _) rfl
    have d1 : ((n : Int) == 1) = false := beq_eq_false_iff_ne.2 (by omega)
    have h2 : 2 ≤ n := by omega
    match m, hm with
    | 0, hm => omega
    | m + 1, hm =>
    have hl := Mer.half_lt h2
    have hp := Mer.half_pos n
    obtain ⟨b, o, rfl⟩ := hA.base (by omega)
    have l1 : (l.take (Mer.half n)).length = Mer.half n := by rw [List.length_take]; omega
    have l2 : (l.drop (Mer.half n)).length = n - Mer.half n := by rw [List.length_drop]; omega
    have hH : ∀ w0, Calls Tryd.prog 90 #[.int .i64 (n : Int)] w0 fun e w' => e = .returned (.int .i64 (Mer.half n : Int)) ∧ w0 = w' := fun w0 => (specHalf n w0 h2 (by omega)).mono fun e w' h => ⟨h.1, h.2.symm⟩
    have HS0 : Hid (KpR w (some ⟨b, o, none⟩) l w) := KpR.mk (Below.refl _ _) hA
    by_cases hik : i < Mer.half n
    · have hR1 : ∀ w0, Hid (KpR w (some ⟨b, o, none⟩) l w0) → Calls Tryd.prog 101 #[.slice (some ⟨b, o, none⟩) (Mer.half n) c, .int .i64 (i : Int)] w0 fun e w' => ∃ v, e = .returned v ∧ w'.ownsRow w0.heap.size 9 1 v (pthT (l.take (Mer.half n)) i).length (svl (pthT (l.take (Mer.half n)) i)) ∧ Below w0.heap.size w0 w' := fun w0 h =>
        specPath m (some ⟨b, o, none⟩) c (Mer.half n) i (l.take (Mer.half n)) w0 (by omega) l1 (by omega) hik (by omega) (h.out.sa.take _) (by omega) hcM (fun x hx' => hx x (List.mem_of_mem_take hx'))
      have hR2 : ∀ w0, Hid (KpR w (some ⟨b, o, none⟩) l w0) → Calls Tryd.prog 37 #[.slice (some ⟨b, o + Mer.half n, none⟩) (n - Mer.half n) (c - Mer.half n)] w0 fun e w' => e = .returned (.string (rtT (l.drop (Mer.half n)))) ∧ Below w0.heap.size w0 w' := fun w0 h =>
        specRoot n (some ⟨b, o + Mer.half n, none⟩) (c - Mer.half n) (n - Mer.half n) (l.drop (Mer.half n)) w0 (by omega) l2 (by omega) (h.out.sa.drop _) (by omega) (by omega) (fun x hx' => hx x (List.mem_of_mem_drop hx'))
      have HE : Hid (pthT l i = pthT (l.take (Mer.half n)) i ++ [rtT (l.drop (Mer.half n))]) := by show _ = _; rw [pthT_lo (by omega) (by rw [hn]; exact hik), hn]
      have hP1 : (pthT (l.take (Mer.half n)) i).length ≤ 1000000 := by have := pthT_len (l := l.take (Mer.half n)) (by omega) i; omega
      generalize pthT (l.take (Mer.half n)) i = P1 at *
      generalize rtT (l.drop (Mer.half n)) = T2 at *
      generalize Mer.half n = k at *
      have s1 := Tryd.sliceLo b o n c k (by omega)
      have s2 := Tryd.sliceHi b o n c k (by omega) (by omega)
      have hik' : (i : Int) < (k : Int) := by omega
      clear hA hx l1 l2
      go_enter Tryd.func101, Tryd.ntmps101
      go_wp2_with (first
        | (go_at_call 90; refine (hH _).mono ?_; rintro e w' ⟨rfl, rfl⟩))
      have HS : Hid (KpR w (some ⟨b, o, none⟩) l w.drew) := KpR.drew HS0
      clear HS0 hH
      refine wp_region_held_drew (S := fun w' => Below w.heap.size w w') (by kernel_rfl) HS.out.below (fun hHeld => ?_)
      refine wpAnyH_take (i := 0) (oi := ⟨_, _, _, _, _, _⟩) (v := .slice (some ⟨b, o, none⟩) n c) rfl (by kernel_rfl) (by kernel_rfl) (by kernel_rfl) (fun _ _ _ h => h) (Or.inl ⟨wn' rfl, fun w' hSw => ?_⟩) hHeld ?_
      · go_simp
      simp only [Act.put, List.setIfInBounds_toArray, List.set_cons_zero, List.set_cons_succ]
      refine wpAnyH_take (i := 1) (oi := ⟨_, _, _, _, _, _⟩) (v := .int .i64 (k : Int)) rfl (by kernel_rfl) (by kernel_rfl) (by kernel_rfl) (fun _ _ _ h => h) (Or.inl ⟨wn' rfl, fun w' hSw => ?_⟩) hHeld ?_
      · go_simp
      simp only [Act.put, List.setIfInBounds_toArray, List.set_cons_zero, List.set_cons_succ]
      refine wpAnyH_take (i := 2) (oi := ⟨_, _, _, _, _, _⟩) (v := .slice (some ⟨b, o, none⟩) k c) rfl (by kernel_rfl) (by kernel_rfl) (by kernel_rfl) (fun _ _ _ h => h) (Or.inl ⟨wn' rfl, fun w' hSw => ?_⟩) hHeld ?_
      · go_simp
      simp only [Act.put, List.setIfInBounds_toArray, List.set_cons_zero, List.set_cons_succ]
      refine wpAnyH_take (i := 3) (oi := ⟨_, _, _, _, _, _⟩) (v := .int .i64 (i : Int)) rfl (by kernel_rfl) (by kernel_rfl) (by kernel_rfl) (fun _ _ _ h => h) (Or.inl ⟨wn' rfl, fun w' hSw => ?_⟩) hHeld ?_
      · go_simp
      simp only [Act.put, List.setIfInBounds_toArray, List.set_cons_zero, List.set_cons_succ]
      refine wpAnyH_take (i := 5) (oi := ⟨_, _, _, _, _, _⟩) (v := .slice (some ⟨b, o, none⟩) n c) rfl (by kernel_rfl) (by kernel_rfl) (by kernel_rfl) (fun _ _ _ h => h) (Or.inl ⟨wn' rfl, fun w' hSw => ?_⟩) hHeld ?_
      · go_simp
      simp only [Act.put, List.setIfInBounds_toArray, List.set_cons_zero, List.set_cons_succ]
      refine wpAnyH_take (i := 6) (oi := ⟨_, _, _, _, _, _⟩) (v := .int .i64 (k : Int)) rfl (by kernel_rfl) (by kernel_rfl) (by kernel_rfl) (fun _ _ _ h => h) (Or.inl ⟨wn' rfl, fun w' hSw => ?_⟩) hHeld ?_
      · go_simp
      simp only [Act.put, List.setIfInBounds_toArray, List.set_cons_zero, List.set_cons_succ]
      refine wpAnyH_take (i := 7) (oi := ⟨_, _, _, _, _, _⟩) (v := .slice (some ⟨b, o + k, none⟩) (n - k) (c - k)) rfl (by kernel_rfl) (by kernel_rfl) (by kernel_rfl) (fun _ _ _ h => h) (Or.inl ⟨wn' rfl, fun w' hSw => ?_⟩) hHeld ?_
      · go_simp
      simp only [Act.put, List.setIfInBounds_toArray, List.set_cons_zero, List.set_cons_succ]
      refine wpAnyH_ready (rs := [4]) (by kernel_rfl) (by simp) (AllReadyH.cons (o := ⟨_, _, _, _, _, _⟩) rfl (fun K hK => ?_) AllReadyH.nil)
      rewrite [if_pos (wn' rfl)]
      go_simp
      refine (hR1 _ HS).mono ?_
      rintro e w1 ⟨v1, rfl, hO1, hB1⟩
      go_wp2_with fail
      have HS1 : Hid (KpR w (some ⟨b, o, none⟩) l w1) := KpR.hid HS hB1
      refine hK.out _ _ HS1.out.below (fun _ => ?_)
      clear hK K
      try simp only [Act.put, List.setIfInBounds_toArray, List.set_cons_zero, List.set_cons_succ]
      refine wpAnyH_ready (rs := [8]) (by kernel_rfl) (by simp) (AllReadyH.cons (o := ⟨_, _, _, _, _, _⟩) rfl (fun K hK => ?_) AllReadyH.nil)
      rewrite [if_pos (wn' rfl)]
      go_simp
      refine (hR2 _ HS1).mono ?_
      rintro e w2 ⟨rfl, hB2⟩
      go_wp2_with fail
      have HS2 : Hid (KpR w (some ⟨b, o, none⟩) l w2) := KpR.hid HS1 hB2
      have hO2 := own_below hO1 hB2
      refine hK.out _ _ HS2.out.below (fun _ => ?_)
      clear hK K
      try simp only [Act.put, List.setIfInBounds_toArray, List.set_cons_zero, List.set_cons_succ]
      refine wpAnyH_ready (rs := [9]) (by kernel_rfl) (by simp) (AllReadyH.cons (o := ⟨_, _, _, _, _, _⟩) rfl (fun K hK => ?_) AllReadyH.nil)
      rewrite [if_pos (wn' rfl)]
      go_wp2_with fail
      have B3 : Below w.heap.size w (w2.alloc (.cells #[.string T2] 9)) := HS2.out.below.alloc HS2.out.below.size _
      have hO3 : (w2.alloc (.cells #[.string T2] 9)).ownsRow w.heap.size 9 1 v1 P1.length (svl P1) := hO2.alloc (.cells #[.string T2] 9)
      have hc3 : (w2.alloc (.cells #[.string T2] 9)).cell? ⟨w2.heap.size, 0, none⟩ = some (.string T2) := by simp
      have z3 : (w2.alloc (.cells #[.string T2] 9)).heap.size = w2.heap.size + 1 := Array.size_push _
      refine hK.out _ _ B3 (fun _ => ?_)
      clear hK K
      try simp only [Act.put, List.setIfInBounds_toArray, List.set_cons_zero, List.set_cons_succ]
      generalize w2.alloc (.cells #[.string T2] 9) = w3 at *
      refine wpAnyH_ready (rs := [10]) (by kernel_rfl) (by simp) (AllReadyH.cons (o := ⟨_, _, _, _, _, _⟩) rfl (fun K hK => ?_) AllReadyH.nil)
      rewrite [if_pos (wn' rfl)]
      with_reducible refine wp_append_str (.tmp 20) (.tmp 25) (by with_unfolding_all rfl) w.heap.size v1 P1.length P1 (by with_unfolding_all rfl) hO3 w2.heap.size 1 T2 (by with_unfolding_all rfl) hc3 hP1 B3.size ?_
      intro v4 w4 hO4 hB4
      have B4 : Below w.heap.size w w4 := B3.trans hB4
      refine hK.out _ _ B4 (fun _ => ?_)
      clear hK K
      try simp only [Act.put, List.setIfInBounds_toArray, List.set_cons_zero, List.set_cons_succ]
      refine wpAnyH_take (i := 11) (oi := ⟨_, _, _, _, _, _⟩) (v := v4) rfl (by kernel_rfl) (by kernel_rfl) (by kernel_rfl) (fun _ _ _ h => h) (Or.inl ⟨wn' rfl, fun w' hSw => ?_⟩) B4 ?_
      · go_simp
      simp only [Act.put, List.setIfInBounds_toArray, List.set_cons_zero, List.set_cons_succ]
      refine wpAnyH_done (by kernel_rfl) ?_ _
      clear HS HS1 HS2 hO1 hO2 hO3 hc3 hHeld hB1 hB2 hB4 B3
      go_wp2
      go_ret
      refine ⟨v4, rfl, ?_, B4⟩
      rw [HE.out, List.length_append]
      exact hO4
    · have hR1 : ∀ w0, Hid (KpR w (some ⟨b, o, none⟩) l w0) → Calls Tryd.prog 101 #[.slice (some ⟨b, o + Mer.half n, none⟩) (n - Mer.half n) (c - Mer.half n), .int .i64 ((i - Mer.half n : Nat) : Int)] w0 fun e w' => ∃ v, e = .returned v ∧ w'.ownsRow w0.heap.size 9 1 v (pthT (l.drop (Mer.half n)) (i - Mer.half n)).length (svl (pthT (l.drop (Mer.half n)) (i - Mer.half n))) ∧ Below w0.heap.size w0 w' := fun w0 h =>
        specPath m (some ⟨b, o + Mer.half n, none⟩) (c - Mer.half n) (n - Mer.half n) (i - Mer.half n) (l.drop (Mer.half n)) w0 (by omega) l2 (by omega) (by omega) (by omega) (h.out.sa.drop _) (by omega) (by omega) (fun x hx' => hx x (List.mem_of_mem_drop hx'))
      have hR2 : ∀ w0, Hid (KpR w (some ⟨b, o, none⟩) l w0) → Calls Tryd.prog 37 #[.slice (some ⟨b, o, none⟩) (Mer.half n) c] w0 fun e w' => e = .returned (.string (rtT (l.take (Mer.half n)))) ∧ Below w0.heap.size w0 w' := fun w0 h =>
        specRoot n (some ⟨b, o, none⟩) c (Mer.half n) (l.take (Mer.half n)) w0 (by omega) l1 (by omega) (h.out.sa.take _) (by omega) hcM (fun x hx' => hx x (List.mem_of_mem_take hx'))
      have HE : Hid (pthT l i = pthT (l.drop (Mer.half n)) (i - Mer.half n) ++ [rtT (l.take (Mer.half n))]) := by show _ = _; rw [pthT_hi (by omega) (by rw [hn]; omega), hn]
      have hP1 : (pthT (l.drop (Mer.half n)) (i - Mer.half n)).length ≤ 1000000 := by have := pthT_len (l := l.drop (Mer.half n)) (by omega) (i - Mer.half n); omega
      generalize pthT (l.drop (Mer.half n)) (i - Mer.half n) = P1 at *
      generalize rtT (l.take (Mer.half n)) = T2 at *
      generalize Mer.half n = k at *
      have s1 := Tryd.sliceLo b o n c k (by omega)
      have s2 := Tryd.sliceHi b o n c k (by omega) (by omega)
      have hik' : ¬ (i : Int) < (k : Int) := by omega
      obtain ⟨j, hj⟩ : ∃ j : Nat, i - k = j := ⟨_, rfl⟩
      have es : IntKind.i64.wrap ((i : Int) - (k : Int)) = (j : Int) := by rw [IntKind.wrap_i64]; omega
      rw [hj] at hR1
      clear hA hx l1 l2 hj
      go_enter Tryd.func101, Tryd.ntmps101
      go_wp2_with (first
        | (go_at_call 90; refine (hH _).mono ?_; rintro e w' ⟨rfl, rfl⟩))
      have HS : Hid (KpR w (some ⟨b, o, none⟩) l w.drew) := KpR.drew HS0
      clear HS0 hH
      refine wp_region_held_drew (S := fun w' => Below w.heap.size w w') (by kernel_rfl) HS.out.below (fun hHeld => ?_)
      refine wpAnyH_take (i := 0) (oi := ⟨_, _, _, _, _, _⟩) (v := .slice (some ⟨b, o, none⟩) n c) rfl (by kernel_rfl) (by kernel_rfl) (by kernel_rfl) (fun _ _ _ h => h) (Or.inl ⟨wn' rfl, fun w' hSw => ?_⟩) hHeld ?_
      · go_simp
      simp only [Act.put, List.setIfInBounds_toArray, List.set_cons_zero, List.set_cons_succ]
      refine wpAnyH_take (i := 1) (oi := ⟨_, _, _, _, _, _⟩) (v := .int .i64 (k : Int)) rfl (by kernel_rfl) (by kernel_rfl) (by kernel_rfl) (fun _ _ _ h => h) (Or.inl ⟨wn' rfl, fun w' hSw => ?_⟩) hHeld ?_
      · go_simp
      simp only [Act.put, List.setIfInBounds_toArray, List.set_cons_zero, List.set_cons_succ]
      refine wpAnyH_take (i := 2) (oi := ⟨_, _, _, _, _, _⟩) (v := .slice (some ⟨b, o + k, none⟩) (n - k) (c - k)) rfl (by kernel_rfl) (by kernel_rfl) (by kernel_rfl) (fun _ _ _ h => h) (Or.inl ⟨wn' rfl, fun w' hSw => ?_⟩) hHeld ?_
      · go_simp
      simp only [Act.put, List.setIfInBounds_toArray, List.set_cons_zero, List.set_cons_succ]
      refine wpAnyH_take (i := 3) (oi := ⟨_, _, _, _, _, _⟩) (v := .int .i64 (i : Int)) rfl (by kernel_rfl) (by kernel_rfl) (by kernel_rfl) (fun _ _ _ h => h) (Or.inl ⟨wn' rfl, fun w' hSw => ?_⟩) hHeld ?_
      · go_simp
      simp only [Act.put, List.setIfInBounds_toArray, List.set_cons_zero, List.set_cons_succ]
      refine wpAnyH_take (i := 4) (oi := ⟨_, _, _, _, _, _⟩) (v := .int .i64 (k : Int)) rfl (by kernel_rfl) (by kernel_rfl) (by kernel_rfl) (fun _ _ _ h => h) (Or.inl ⟨wn' rfl, fun w' hSw => ?_⟩) hHeld ?_
      · go_simp
      simp only [Act.put, List.setIfInBounds_toArray, List.set_cons_zero, List.set_cons_succ]
      refine wpAnyH_take (i := 5) (oi := ⟨_, _, _, _, _, _⟩) (v := .int .i64 (j : Int)) rfl (by kernel_rfl) (by kernel_rfl) (by kernel_rfl) (fun _ _ _ h => h) (Or.inl ⟨wn' rfl, fun w' hSw => ?_⟩) hHeld ?_
      · go_simp
      simp only [Act.put, List.setIfInBounds_toArray, List.set_cons_zero, List.set_cons_succ]
      refine wpAnyH_take (i := 7) (oi := ⟨_, _, _, _, _, _⟩) (v := .slice (some ⟨b, o, none⟩) n c) rfl (by kernel_rfl) (by kernel_rfl) (by kernel_rfl) (fun _ _ _ h => h) (Or.inl ⟨wn' rfl, fun w' hSw => ?_⟩) hHeld ?_
      · go_simp
      simp only [Act.put, List.setIfInBounds_toArray, List.set_cons_zero, List.set_cons_succ]
      refine wpAnyH_take (i := 8) (oi := ⟨_, _, _, _, _, _⟩) (v := .int .i64 (k : Int)) rfl (by kernel_rfl) (by kernel_rfl) (by kernel_rfl) (fun _ _ _ h => h) (Or.inl ⟨wn' rfl, fun w' hSw => ?_⟩) hHeld ?_
      · go_simp
      simp only [Act.put, List.setIfInBounds_toArray, List.set_cons_zero, List.set_cons_succ]
      refine wpAnyH_take (i := 9) (oi := ⟨_, _, _, _, _, _⟩) (v := .slice (some ⟨b, o, none⟩) k c) rfl (by kernel_rfl) (by kernel_rfl) (by kernel_rfl) (fun _ _ _ h => h) (Or.inl ⟨wn' rfl, fun w' hSw => ?_⟩) hHeld ?_
      · go_simp
      simp only [Act.put, List.setIfInBounds_toArray, List.set_cons_zero, List.set_cons_succ]
      refine wpAnyH_ready (rs := [6]) (by kernel_rfl) (by simp) (AllReadyH.cons (o := ⟨_, _, _, _, _, _⟩) rfl (fun K hK => ?_) AllReadyH.nil)
      rewrite [if_pos (wn' rfl)]
      go_simp
      refine (hR1 _ HS).mono ?_
      rintro e w1 ⟨v1, rfl, hO1, hB1⟩
      go_wp2_with fail
      have HS1 : Hid (KpR w (some ⟨b, o, none⟩) l w1) := KpR.hid HS hB1
      refine hK.out _ _ HS1.out.below (fun _ => ?_)
      clear hK K
      try simp only [Act.put, List.setIfInBounds_toArray, List.set_cons_zero, List.set_cons_succ]
      refine wpAnyH_ready (rs := [10]) (by kernel_rfl) (by simp) (AllReadyH.cons (o := ⟨_, _, _, _, _, _⟩) rfl (fun K hK => ?_) AllReadyH.nil)
      rewrite [if_pos (wn' rfl)]
      go_simp
      refine (hR2 _ HS1).mono ?_
      rintro e w2 ⟨rfl, hB2⟩
      go_wp2_with fail
      have HS2 : Hid (KpR w (some ⟨b, o, none⟩) l w2) := KpR.hid HS1 hB2
      have hO2 := own_below hO1 hB2
      refine hK.out _ _ HS2.out.below (fun _ => ?_)
      clear hK K
      try simp only [Act.put, List.setIfInBounds_toArray, List.set_cons_zero, List.set_cons_succ]
      refine wpAnyH_ready (rs := [11]) (by kernel_rfl) (by simp) (AllReadyH.cons (o := ⟨_, _, _, _, _, _⟩) rfl (fun K hK => ?_) AllReadyH.nil)
      rewrite [if_pos (wn' rfl)]
      go_wp2_with fail
      have B3 : Below w.heap.size w (w2.alloc (.cells #[.string T2] 9)) := HS2.out.below.alloc HS2.out.below.size _
      have hO3 : (w2.alloc (.cells #[.string T2] 9)).ownsRow w.heap.size 9 1 v1 P1.length (svl P1) := hO2.alloc (.cells #[.string T2] 9)
      have hc3 : (w2.alloc (.cells #[.string T2] 9)).cell? ⟨w2.heap.size, 0, none⟩ = some (.string T2) := by simp
      have z3 : (w2.alloc (.cells #[.string T2] 9)).heap.size = w2.heap.size + 1 := Array.size_push _
      refine hK.out _ _ B3 (fun _ => ?_)
      clear hK K
      try simp only [Act.put, List.setIfInBounds_toArray, List.set_cons_zero, List.set_cons_succ]
      generalize w2.alloc (.cells #[.string T2] 9) = w3 at *
      refine wpAnyH_ready (rs := [12]) (by kernel_rfl) (by simp) (AllReadyH.cons (o := ⟨_, _, _, _, _, _⟩) rfl (fun K hK => ?_) AllReadyH.nil)
      rewrite [if_pos (wn' rfl)]
      with_reducible refine wp_append_str (.tmp 33) (.tmp 38) (by with_unfolding_all rfl) w.heap.size v1 P1.length P1 (by with_unfolding_all rfl) hO3 w2.heap.size 1 T2 (by with_unfolding_all rfl) hc3 hP1 B3.size ?_
      intro v4 w4 hO4 hB4
      have B4 : Below w.heap.size w w4 := B3.trans hB4
      refine hK.out _ _ B4 (fun _ => ?_)
      clear hK K
      try simp only [Act.put, List.setIfInBounds_toArray, List.set_cons_zero, List.set_cons_succ]
      refine wpAnyH_take (i := 13) (oi := ⟨_, _, _, _, _, _⟩) (v := v4) rfl (by kernel_rfl) (by kernel_rfl) (by kernel_rfl) (fun _ _ _ h => h) (Or.inl ⟨wn' rfl, fun w' hSw => ?_⟩) B4 ?_
      · go_simp
      simp only [Act.put, List.setIfInBounds_toArray, List.set_cons_zero, List.set_cons_succ]
      refine wpAnyH_done (by kernel_rfl) ?_ _
      clear HS HS1 HS2 hO1 hO2 hO3 hc3 hHeld hB1 hB2 hB4 B3
      go_wp2
      go_ret
      refine ⟨v4, rfl, ?_, B4⟩
      rw [HE.out, List.length_append]
      exact hO4

def prT (l : List ByteArray) (k : Nat) (kn : Bool) : List ByteArray := Mer.pr nodeD emptyD (l.map leafD) k kn
theorem prT_all {l : List ByteArray} (h : 1 ≤ l.length) (kn : Bool) : prT l l.length kn = if kn then [] else [rtT l] := by
  have := Mer.pr_all nodeD emptyD (l := l.map leafD) (by rw [List.length_map]; exact h) kn
  rw [List.length_map] at this
  exact this
theorem prT_lo {l : List ByteArray} {k : Nat} (h1 : 1 ≤ k) (h2 : k < l.length) (hk : k ≤ Mer.half l.length) (kn : Bool) : prT l k kn = prT (l.take (Mer.half l.length)) k kn ++ [rtT (l.drop (Mer.half l.length))] := by
  unfold prT rtT
  rw [Mer.pr_lo nodeD emptyD h1 (by rw [List.length_map]; exact h2) (by rw [List.length_map]; exact hk), List.length_map, List.map_take, List.map_drop]
theorem prT_hi {l : List ByteArray} {k : Nat} (h1 : 1 ≤ k) (h2 : k < l.length) (hk : Mer.half l.length < k) (kn : Bool) : prT l k kn = prT (l.drop (Mer.half l.length)) (k - Mer.half l.length) false ++ [rtT (l.take (Mer.half l.length))] := by
  unfold prT rtT
  rw [Mer.pr_hi nodeD emptyD h1 (by rw [List.length_map]; exact h2) (by rw [List.length_map]; exact hk), List.length_map, List.map_take, List.map_drop]
theorem prT_len {l : List ByteArray} (h : l.length ≤ 1024) {k : Nat} (h1 : 1 ≤ k) (h2 : k ≤ l.length) (kn : Bool) : (prT l k kn).length ≤ 11 := Mer.pr_len nodeD emptyD 10 _ k kn h1 (by rw [List.length_map]; exact h2) (by rw [List.length_map]; exact h)

set_option maxRecDepth 100000 in
set_option maxHeartbeats 2000000 in
theorem specProof : ∀ (m : Nat) (a : Option Addr) (c n i : Nat) (kn : Bool) (l : List ByteArray) (w : World), l.length ≤ m → l.length = n → 1 ≤ i → i ≤ n → n ≤ c → SA w a l → n ≤ 1000 → c ≤ 9223372036854775807 → (∀ x ∈ l, x.size < 20000) →
    Calls Tryd.prog 102 #[.slice a n c, .int .i64 (i : Int), .bool kn] w fun e w' => ∃ v, e = .returned v ∧ w'.ownsRow w.heap.size 9 1 v (prT l i kn).length (svl (prT l i kn)) ∧ Below w.heap.size w w'
  | m, a, c, n, i, kn, l, w, hm, hn, hi1, hin, hc, hA, hM, hcM, hx => by
    by_cases h1 : i = n
    · have d1 : ((i : Int) == (n : Int)) = true := beq_iff_eq.2 (by omega)
      have HP : Hid (prT l i kn = if kn then [] else [rtT l]) := by show _ = _; rw [h1, ← hn]; exact prT_all (by omega) kn
      have hR : Calls Tryd.prog 37 #[.slice a n c] w fun e w' => e = .returned (.string (rtT l)) ∧ Below w.heap.size w w' := specRoot n a c n l w (by omega) hn hc hA (by omega) hcM hx
      have HR : Hid _ := hR
      clear hA hx hR h1
      generalize rtT l = T at *
      cases kn
      · go_enter Tryd.func102, Tryd.ntmps102
        go_wp2_with (go_at_call 37; refine Calls.mono HR.out ?_; rintro e w1 ⟨rfl, hB1⟩)
        go_ret
        have z1 := hB1.size
        refine ⟨_, rfl, ?_, hB1.alloc z1 _⟩
        rw [HP.out]
        exact World.ownsRow_lit w1 #[.string T] 1 z1 (by unfold maxLen; omega) rfl
      · clear HR
        go_enter Tryd.func102, Tryd.ntmps102
        go_wp2
        go_ret
        refine ⟨_, rfl, ?_, (Below.refl _ _).alloc (Nat.le_refl _) _⟩
        rw [HP.out]
        exact World.ownsRow_made w #[] 0 (Nat.le_refl _) (Nat.zero_le _) rfl
    have d1 : ((i : Int) == (n : Int)) = false := beq_eq_false_iff_ne.2 (by omega)
    have h2 : 2 ≤ n := by omega
    match m, hm with
    | 0, hm => omega
    | m + 1, hm =>
    have hl := Mer.half_lt h2
    have hp := Mer.half_pos n
    obtain ⟨b, o, rfl⟩ := hA.base (by omega)
    have l1 : (l.take (Mer.half n)).length = Mer.half n := by rw [List.length_take]; omega
    have l2 : (l.drop (Mer.half n)).length = n - Mer.half n := by rw [List.length_drop]; omega
    have hH : ∀ w0, Calls Tryd.prog 90 #[.int .i64 (n : Int)] w0 fun e w' => e = .returned (.int .i64 (Mer.half n : Int)) ∧ w0 = w' := fun w0 => (specHalf n w0 h2 (by omega)).mono fun e w' h => ⟨h.1, h.2.symm⟩
    have HS0 : Hid (KpR w (some ⟨b, o, none⟩) l w) := KpR.mk (Below.refl _ _) hA
    by_cases hik : i ≤ Mer.half n
    · have hR1 : ∀ w0, Hid (KpR w (some ⟨b, o, none⟩) l w0) → Calls Tryd.prog 102 #[.slice (some ⟨b, o, none⟩) (Mer.half n) c, .int .i64 (i : Int), .bool kn] w0 fun e w' => ∃ v, e = .returned v ∧ w'.ownsRow w0.heap.size 9 1 v (prT (l.take (Mer.half n)) i kn).length (svl (prT (l.take (Mer.half n)) i kn)) ∧ Below w0.heap.size w0 w' := fun w0 h =>
        specProof m (some ⟨b, o, none⟩) c (Mer.half n) i kn (l.take (Mer.half n)) w0 (by omega) l1 hi1 hik (by omega) (h.out.sa.take _) (by omega) hcM (fun x hx' => hx x (List.mem_of_mem_take hx'))
      have hR2 : ∀ w0, Hid (KpR w (some ⟨b, o, none⟩) l w0) → Calls Tryd.prog 37 #[.slice (some ⟨b, o + Mer.half n, none⟩) (n - Mer.half n) (c - Mer.half n)] w0 fun e w' => e = .returned (.string (rtT (l.drop (Mer.half n)))) ∧ Below w0.heap.size w0 w' := fun w0 h =>
        specRoot n (some ⟨b, o + Mer.half n, none⟩) (c - Mer.half n) (n - Mer.half n) (l.drop (Mer.half n)) w0 (by omega) l2 (by omega) (h.out.sa.drop _) (by omega) (by omega) (fun x hx' => hx x (List.mem_of_mem_drop hx'))
      have HE : Hid (prT l i kn = prT (l.take (Mer.half n)) i kn ++ [rtT (l.drop (Mer.half n))]) := by show _ = _; rw [prT_lo hi1 (by omega) (by rw [hn]; exact hik), hn]
      have hP1 : (prT (l.take (Mer.half n)) i kn).length ≤ 1000000 := by have := prT_len (l := l.take (Mer.half n)) (by omega) hi1 (by omega) kn; omega
      generalize prT (l.take (Mer.half n)) i kn = P1 at *
      generalize rtT (l.drop (Mer.half n)) = T2 at *
      generalize Mer.half n = k at *
      have s1 := Tryd.sliceLo b o n c k (by omega)
      have s2 := Tryd.sliceHi b o n c k (by omega) (by omega)
      have hik' : (i : Int) ≤ (k : Int) := by omega
      clear hA hx l1 l2
      go_enter Tryd.func102, Tryd.ntmps102
      go_wp2_with (first
        | (go_at_call 90; refine (hH _).mono ?_; rintro e w' ⟨rfl, rfl⟩))
      have HS : Hid (KpR w (some ⟨b, o, none⟩) l w.drew) := KpR.drew HS0
      clear HS0 hH
      refine wp_region_held_drew (S := fun w' => Below w.heap.size w w') (by kernel_rfl) HS.out.below (fun hHeld => ?_)
      refine wpAnyH_take (i := 0) (oi := ⟨_, _, _, _, _, _⟩) (v := .slice (some ⟨b, o, none⟩) n c) rfl (by kernel_rfl) (by kernel_rfl) (by kernel_rfl) (fun _ _ _ h => h) (Or.inl ⟨wn' rfl, fun w' hSw => ?_⟩) hHeld ?_
      · go_simp
      simp only [Act.put, List.setIfInBounds_toArray, List.set_cons_zero, List.set_cons_succ]
      refine wpAnyH_take (i := 1) (oi := ⟨_, _, _, _, _, _⟩) (v := .int .i64 (k : Int)) rfl (by kernel_rfl) (by kernel_rfl) (by kernel_rfl) (fun _ _ _ h => h) (Or.inl ⟨wn' rfl, fun w' hSw => ?_⟩) hHeld ?_
      · go_simp
      simp only [Act.put, List.setIfInBounds_toArray, List.set_cons_zero, List.set_cons_succ]
      refine wpAnyH_take (i := 2) (oi := ⟨_, _, _, _, _, _⟩) (v := .slice (some ⟨b, o, none⟩) k c) rfl (by kernel_rfl) (by kernel_rfl) (by kernel_rfl) (fun _ _ _ h => h) (Or.inl ⟨wn' rfl, fun w' hSw => ?_⟩) hHeld ?_
      · go_simp
      simp only [Act.put, List.setIfInBounds_toArray, List.set_cons_zero, List.set_cons_succ]
      refine wpAnyH_take (i := 3) (oi := ⟨_, _, _, _, _, _⟩) (v := .int .i64 (i : Int)) rfl (by kernel_rfl) (by kernel_rfl) (by kernel_rfl) (fun _ _ _ h => h) (Or.inl ⟨wn' rfl, fun w' hSw => ?_⟩) hHeld ?_
      · go_simp
      simp only [Act.put, List.setIfInBounds_toArray, List.set_cons_zero, List.set_cons_succ]
      refine wpAnyH_take (i := 4) (oi := ⟨_, _, _, _, _, _⟩) (v := .bool kn) rfl (by kernel_rfl) (by kernel_rfl) (by kernel_rfl) (fun _ _ _ h => h) (Or.inl ⟨wn' rfl, fun w' hSw => ?_⟩) hHeld ?_
      · go_simp
      simp only [Act.put, List.setIfInBounds_toArray, List.set_cons_zero, List.set_cons_succ]
      refine wpAnyH_take (i := 6) (oi := ⟨_, _, _, _, _, _⟩) (v := .slice (some ⟨b, o, none⟩) n c) rfl (by kernel_rfl) (by kernel_rfl) (by kernel_rfl) (fun _ _ _ h => h) (Or.inl ⟨wn' rfl, fun w' hSw => ?_⟩) hHeld ?_
      · go_simp
      simp only [Act.put, List.setIfInBounds_toArray, List.set_cons_zero, List.set_cons_succ]
      refine wpAnyH_take (i := 7) (oi := ⟨_, _, _, _, _, _⟩) (v := .int .i64 (k : Int)) rfl (by kernel_rfl) (by kernel_rfl) (by kernel_rfl) (fun _ _ _ h => h) (Or.inl ⟨wn' rfl, fun w' hSw => ?_⟩) hHeld ?_
      · go_simp
      simp only [Act.put, List.setIfInBounds_toArray, List.set_cons_zero, List.set_cons_succ]
      refine wpAnyH_take (i := 8) (oi := ⟨_, _, _, _, _, _⟩) (v := .slice (some ⟨b, o + k, none⟩) (n - k) (c - k)) rfl (by kernel_rfl) (by kernel_rfl) (by kernel_rfl) (fun _ _ _ h => h) (Or.inl ⟨wn' rfl, fun w' hSw => ?_⟩) hHeld ?_
      · go_simp
      simp only [Act.put, List.setIfInBounds_toArray, List.set_cons_zero, List.set_cons_succ]
      refine wpAnyH_ready (rs := [5]) (by kernel_rfl) (by simp) (AllReadyH.cons (o := ⟨_, _, _, _, _, _⟩) rfl (fun K hK => ?_) AllReadyH.nil)
      rewrite [if_pos (wn' rfl)]
      go_simp
      refine (hR1 _ HS).mono ?_
      rintro e w1 ⟨v1, rfl, hO1, hB1⟩
      go_wp2_with fail
      have HS1 : Hid (KpR w (some ⟨b, o, none⟩) l w1) := KpR.hid HS hB1
      refine hK.out _ _ HS1.out.below (fun _ => ?_)
      clear hK K
      try simp only [Act.put, List.setIfInBounds_toArray, List.set_cons_zero, List.set_cons_succ]
      refine wpAnyH_ready (rs := [9]) (by kernel_rfl) (by simp) (AllReadyH.cons (o := ⟨_, _, _, _, _, _⟩) rfl (fun K hK => ?_) AllReadyH.nil)
      rewrite [if_pos (wn' rfl)]
      go_simp
      refine (hR2 _ HS1).mono ?_
      rintro e w2 ⟨rfl, hB2⟩
      go_wp2_with fail
      have HS2 : Hid (KpR w (some ⟨b, o, none⟩) l w2) := KpR.hid HS1 hB2
      have hO2 := own_below hO1 hB2
      refine hK.out _ _ HS2.out.below (fun _ => ?_)
      clear hK K
      try simp only [Act.put, List.setIfInBounds_toArray, List.set_cons_zero, List.set_cons_succ]
      refine wpAnyH_ready (rs := [10]) (by kernel_rfl) (by simp) (AllReadyH.cons (o := ⟨_, _, _, _, _, _⟩) rfl (fun K hK => ?_) AllReadyH.nil)
      rewrite [if_pos (wn' rfl)]
      go_wp2_with fail
      have B3 : Below w.heap.size w (w2.alloc (.cells #[.string T2] 9)) := HS2.out.below.alloc HS2.out.below.size _
      have hO3 : (w2.alloc (.cells #[.string T2] 9)).ownsRow w.heap.size 9 1 v1 P1.length (svl P1) := hO2.alloc (.cells #[.string T2] 9)
      have hc3 : (w2.alloc (.cells #[.string T2] 9)).cell? ⟨w2.heap.size, 0, none⟩ = some (.string T2) := by simp
      have z3 : (w2.alloc (.cells #[.string T2] 9)).heap.size = w2.heap.size + 1 := Array.size_push _
      refine hK.out _ _ B3 (fun _ => ?_)
      clear hK K
      try simp only [Act.put, List.setIfInBounds_toArray, List.set_cons_zero, List.set_cons_succ]
      generalize w2.alloc (.cells #[.string T2] 9) = w3 at *
      refine wpAnyH_ready (rs := [11]) (by kernel_rfl) (by simp) (AllReadyH.cons (o := ⟨_, _, _, _, _, _⟩) rfl (fun K hK => ?_) AllReadyH.nil)
      rewrite [if_pos (wn' rfl)]
      with_reducible refine wp_append_str (.tmp 28) (.tmp 33) (by with_unfolding_all rfl) w.heap.size v1 P1.length P1 (by with_unfolding_all rfl) hO3 w2.heap.size 1 T2 (by with_unfolding_all rfl) hc3 hP1 B3.size ?_
      intro v4 w4 hO4 hB4
      have B4 : Below w.heap.size w w4 := B3.trans hB4
      refine hK.out _ _ B4 (fun _ => ?_)
      clear hK K
      try simp only [Act.put, List.setIfInBounds_toArray, List.set_cons_zero, List.set_cons_succ]
      refine wpAnyH_take (i := 12) (oi := ⟨_, _, _, _, _, _⟩) (v := v4) rfl (by kernel_rfl) (by kernel_rfl) (by kernel_rfl) (fun _ _ _ h => h) (Or.inl ⟨wn' rfl, fun w' hSw => ?_⟩) B4 ?_
      · go_simp
      simp only [Act.put, List.setIfInBounds_toArray, List.set_cons_zero, List.set_cons_succ]
      refine wpAnyH_done (by kernel_rfl) ?_ _
      clear HS HS1 HS2 hO1 hO2 hO3 hc3 hHeld hB1 hB2 hB4 B3
      go_wp2
      go_ret
      refine ⟨v4, rfl, ?_, B4⟩
      rw [HE.out, List.length_append]
      exact hO4
    · have hR1 : ∀ w0, Hid (KpR w (some ⟨b, o, none⟩) l w0) → Calls Tryd.prog 102 #[.slice (some ⟨b, o + Mer.half n, none⟩) (n - Mer.half n) (c - Mer.half n), .int .i64 ((i - Mer.half n : Nat) : Int), .bool false] w0 fun e w' => ∃ v, e = .returned v ∧ w'.ownsRow w0.heap.size 9 1 v (prT (l.drop (Mer.half n)) (i - Mer.half n) false).length (svl (prT (l.drop (Mer.half n)) (i - Mer.half n) false)) ∧ Below w0.heap.size w0 w' := fun w0 h =>
        specProof m (some ⟨b, o + Mer.half n, none⟩) (c - Mer.half n) (n - Mer.half n) (i - Mer.half n) false (l.drop (Mer.half n)) w0 (by omega) l2 (by omega) (by omega) (by omega) (h.out.sa.drop _) (by omega) (by omega) (fun x hx' => hx x (List.mem_of_mem_drop hx'))
      have hR2 : ∀ w0, Hid (KpR w (some ⟨b, o, none⟩) l w0) → Calls Tryd.prog 37 #[.slice (some ⟨b, o, none⟩) (Mer.half n) c] w0 fun e w' => e = .returned (.string (rtT (l.take (Mer.half n)))) ∧ Below w0.heap.size w0 w' := fun w0 h =>
        specRoot n (some ⟨b, o, none⟩) c (Mer.half n) (l.take (Mer.half n)) w0 (by omega) l1 (by omega) (h.out.sa.take _) (by omega) hcM (fun x hx' => hx x (List.mem_of_mem_take hx'))
      have HE : Hid (prT l i kn = prT (l.drop (Mer.half n)) (i - Mer.half n) false ++ [rtT (l.take (Mer.half n))]) := by show _ = _; rw [prT_hi hi1 (by omega) (by rw [hn]; omega), hn]
      have hP1 : (prT (l.drop (Mer.half n)) (i - Mer.half n) false).length ≤ 1000000 := by have := prT_len (l := l.drop (Mer.half n)) (by omega) (k := i - Mer.half n) (by omega) (by omega) false; omega
      generalize prT (l.drop (Mer.half n)) (i - Mer.half n) false = P1 at *
      generalize rtT (l.take (Mer.half n)) = T2 at *
      generalize Mer.half n = k at *
      have s1 := Tryd.sliceLo b o n c k (by omega)
      have s2 := Tryd.sliceHi b o n c k (by omega) (by omega)
      have hik' : ¬ (i : Int) ≤ (k : Int) := by omega
      obtain ⟨j, hj⟩ : ∃ j : Nat, i - k = j := ⟨_, rfl⟩
      have es : IntKind.i64.wrap ((i : Int) - (k : Int)) = (j : Int) := by rw [IntKind.wrap_i64]; omega
      rw [hj] at hR1
      clear hA hx l1 l2 hj
      go_enter Tryd.func102, Tryd.ntmps102
      go_wp2_with (first
        | (go_at_call 90; refine (hH _).mono ?_; rintro e w' ⟨rfl, rfl⟩))
      have HS : Hid (KpR w (some ⟨b, o, none⟩) l w.drew) := KpR.drew HS0
      clear HS0 hH
      refine wp_region_held_drew (S := fun w' => Below w.heap.size w w') (by kernel_rfl) HS.out.below (fun hHeld => ?_)
      refine wpAnyH_take (i := 0) (oi := ⟨_, _, _, _, _, _⟩) (v := .slice (some ⟨b, o, none⟩) n c) rfl (by kernel_rfl) (by kernel_rfl) (by kernel_rfl) (fun _ _ _ h => h) (Or.inl ⟨wn' rfl, fun w' hSw => ?_⟩) hHeld ?_
      · go_simp
      simp only [Act.put, List.setIfInBounds_toArray, List.set_cons_zero, List.set_cons_succ]
      refine wpAnyH_take (i := 1) (oi := ⟨_, _, _, _, _, _⟩) (v := .int .i64 (k : Int)) rfl (by kernel_rfl) (by kernel_rfl) (by kernel_rfl) (fun _ _ _ h => h) (Or.inl ⟨wn' rfl, fun w' hSw => ?_⟩) hHeld ?_
      · go_simp
      simp only [Act.put, List.setIfInBounds_toArray, List.set_cons_zero, List.set_cons_succ]
      refine wpAnyH_take (i := 2) (oi := ⟨_, _, _, _, _, _⟩) (v := .slice (some ⟨b, o + k, none⟩) (n - k) (c - k)) rfl (by kernel_rfl) (by kernel_rfl) (by kernel_rfl) (fun _ _ _ h => h) (Or.inl ⟨wn' rfl, fun w' hSw => ?_⟩) hHeld ?_
      · go_simp
      simp only [Act.put, List.setIfInBounds_toArray, List.set_cons_zero, List.set_cons_succ]
      refine wpAnyH_take (i := 3) (oi := ⟨_, _, _, _, _, _⟩) (v := .int .i64 (i : Int)) rfl (by kernel_rfl) (by kernel_rfl) (by kernel_rfl) (fun _ _ _ h => h) (Or.inl ⟨wn' rfl, fun w' hSw => ?_⟩) hHeld ?_
      · go_simp
      simp only [Act.put, List.setIfInBounds_toArray, List.set_cons_zero, List.set_cons_succ]
      refine wpAnyH_take (i := 4) (oi := ⟨_, _, _, _, _, _⟩) (v := .int .i64 (k : Int)) rfl (by kernel_rfl) (by kernel_rfl) (by kernel_rfl) (fun _ _ _ h => h) (Or.inl ⟨wn' rfl, fun w' hSw => ?_⟩) hHeld ?_
      · go_simp
      simp only [Act.put, List.setIfInBounds_toArray, List.set_cons_zero, List.set_cons_succ]
      refine wpAnyH_take (i := 5) (oi := ⟨_, _, _, _, _, _⟩) (v := .int .i64 (j : Int)) rfl (by kernel_rfl) (by kernel_rfl) (by kernel_rfl) (fun _ _ _ h => h) (Or.inl ⟨wn' rfl, fun w' hSw => ?_⟩) hHeld ?_
      · go_simp
      simp only [Act.put, List.setIfInBounds_toArray, List.set_cons_zero, List.set_cons_succ]
      refine wpAnyH_take (i := 7) (oi := ⟨_, _, _, _, _, _⟩) (v := .slice (some ⟨b, o, none⟩) n c) rfl (by kernel_rfl) (by kernel_rfl) (by kernel_rfl) (fun _ _ _ h => h) (Or.inl ⟨wn' rfl, fun w' hSw => ?_⟩) hHeld ?_
      · go_simp
      simp only [Act.put, List.setIfInBounds_toArray, List.set_cons_zero, List.set_cons_succ]
      refine wpAnyH_take (i := 8) (oi := ⟨_, _, _, _, _, _⟩) (v := .int .i64 (k : Int)) rfl (by kernel_rfl) (by kernel_rfl) (by kernel_rfl) (fun _ _ _ h => h) (Or.inl ⟨wn' rfl, fun w' hSw => ?_⟩) hHeld ?_
      · go_simp
      simp only [Act.put, List.setIfInBounds_toArray, List.set_cons_zero, List.set_cons_succ]
      refine wpAnyH_take (i := 9) (oi := ⟨_, _, _, _, _, _⟩) (v := .slice (some ⟨b, o, none⟩) k c) rfl (by kernel_rfl) (by kernel_rfl) (by kernel_rfl) (fun _ _ _ h => h) (Or.inl ⟨wn' rfl, fun w' hSw => ?_⟩) hHeld ?_
      · go_simp
      simp only [Act.put, List.setIfInBounds_toArray, List.set_cons_zero, List.set_cons_succ]
      refine wpAnyH_ready (rs := [6]) (by kernel_rfl) (by simp) (AllReadyH.cons (o := ⟨_, _, _, _, _, _⟩) rfl (fun K hK => ?_) AllReadyH.nil)
      rewrite [if_pos (wn' rfl)]
      go_simp
      refine (hR1 _ HS).mono ?_
      rintro e w1 ⟨v1, rfl, hO1, hB1⟩
      go_wp2_with fail
      have HS1 : Hid (KpR w (some ⟨b, o, none⟩) l w1) := KpR.hid HS hB1
      refine hK.out _ _ HS1.out.below (fun _ => ?_)
      clear hK K
      try simp only [Act.put, List.setIfInBounds_toArray, List.set_cons_zero, List.set_cons_succ]
      refine wpAnyH_ready (rs := [10]) (by kernel_rfl) (by simp) (AllReadyH.cons (o := ⟨_, _, _, _, _, _⟩) rfl (fun K hK => ?_) AllReadyH.nil)
      rewrite [if_pos (wn' rfl)]
      go_simp
      refine (hR2 _ HS1).mono ?_
      rintro e w2 ⟨rfl, hB2⟩
      go_wp2_with fail
      have HS2 : Hid (KpR w (some ⟨b, o, none⟩) l w2) := KpR.hid HS1 hB2
      have hO2 := own_below hO1 hB2
      refine hK.out _ _ HS2.out.below (fun _ => ?_)
      clear hK K
      try simp only [Act.put, List.setIfInBounds_toArray, List.set_cons_zero, List.set_cons_succ]
      refine wpAnyH_ready (rs := [11]) (by kernel_rfl) (by simp) (AllReadyH.cons (o := ⟨_, _, _, _, _, _⟩) rfl (fun K hK => ?_) AllReadyH.nil)
      rewrite [if_pos (wn' rfl)]
      go_wp2_with fail
      have B3 : Below w.heap.size w (w2.alloc (.cells #[.string T2] 9)) := HS2.out.below.alloc HS2.out.below.size _
      have hO3 : (w2.alloc (.cells #[.string T2] 9)).ownsRow w.heap.size 9 1 v1 P1.length (svl P1) := hO2.alloc (.cells #[.string T2] 9)
      have hc3 : (w2.alloc (.cells #[.string T2] 9)).cell? ⟨w2.heap.size, 0, none⟩ = some (.string T2) := by simp
      have z3 : (w2.alloc (.cells #[.string T2] 9)).heap.size = w2.heap.size + 1 := Array.size_push _
      refine hK.out _ _ B3 (fun _ => ?_)
      clear hK K
      try simp only [Act.put, List.setIfInBounds_toArray, List.set_cons_zero, List.set_cons_succ]
      generalize w2.alloc (.cells #[.string T2] 9) = w3 at *
      refine wpAnyH_ready (rs := [12]) (by kernel_rfl) (by simp) (AllReadyH.cons (o := ⟨_, _, _, _, _, _⟩) rfl (fun K hK => ?_) AllReadyH.nil)
      rewrite [if_pos (wn' rfl)]
      with_reducible refine wp_append_str (.tmp 41) (.tmp 46) (by with_unfolding_all rfl) w.heap.size v1 P1.length P1 (by with_unfolding_all rfl) hO3 w2.heap.size 1 T2 (by with_unfolding_all rfl) hc3 hP1 B3.size ?_
      intro v4 w4 hO4 hB4
      have B4 : Below w.heap.size w w4 := B3.trans hB4
      refine hK.out _ _ B4 (fun _ => ?_)
      clear hK K
      try simp only [Act.put, List.setIfInBounds_toArray, List.set_cons_zero, List.set_cons_succ]
      refine wpAnyH_take (i := 13) (oi := ⟨_, _, _, _, _, _⟩) (v := v4) rfl (by kernel_rfl) (by kernel_rfl) (by kernel_rfl) (fun _ _ _ h => h) (Or.inl ⟨wn' rfl, fun w' hSw => ?_⟩) B4 ?_
      · go_simp
      simp only [Act.put, List.setIfInBounds_toArray, List.set_cons_zero, List.set_cons_succ]
      refine wpAnyH_done (by kernel_rfl) ?_ _
      clear HS HS1 HS2 hO1 hO2 hO3 hc3 hHeld hB1 hB2 hB4 B3
      go_wp2
      go_ret
      refine ⟨v4, rfl, ?_, B4⟩
      rw [HE.out, List.length_append]
      exact hO4
end Go.Proofs.YtdfglpbappeoaabDoor
