/- The pairs of a tree of leaves, as the laws' helper gathers them. -/
import Derived.Test.YtdfglpbappeoaabDoorPrs
import Derived.Test.YtdfglpbappeoaabDoorInc
namespace Go.Proofs.YtdfglpbappeoaabDoor
open Go.RowKit
set_option linter.unusedVariables false

def tpT (l : List ByteArray) : List Pair := Mer.tp nodeD emptyD (l.map leafD)
set_option maxRecDepth 100000 in
theorem tpT_two {l : List ByteArray} (h : 2 ≤ l.length) : tpT l = tpT (l.take (Mer.half l.length)) ++ tpT (l.drop (Mer.half l.length)) ++ [(rtT (l.take (Mer.half l.length)), rtT (l.drop (Mer.half l.length)))] := by
  unfold tpT rtT
  rw [Mer.tp_two nodeD emptyD (by rw [List.length_map]; exact h), List.length_map, List.map_take, List.map_drop]
set_option maxRecDepth 100000 in
theorem tpT_small {l : List ByteArray} (h : l.length < 2) : tpT l = [] := by
  match l, h with
  | [], _ => rfl
  | [x], _ => rfl
set_option maxRecDepth 100000 in
theorem tpT_len : ∀ (m : Nat) (l : List ByteArray), l.length ≤ m → (tpT l).length ≤ l.length - 1
  | 0, l, h => by rw [tpT_small (by omega)]; exact Nat.zero_le _
  | m + 1, l, h => by
    by_cases h2 : 2 ≤ l.length
    · have hl := Mer.half_lt h2
      have hp := Mer.half_pos l.length
      rw [tpT_two h2, List.length_append, List.length_append]
      have h3 := tpT_len m (l.take (Mer.half l.length)) (by rw [List.length_take]; omega)
      have h4 := tpT_len m (l.drop (Mer.half l.length)) (by rw [List.length_drop]; omega)
      rw [List.length_take] at h3
      rw [List.length_drop] at h4
      simp
      omega
    · rw [tpT_small (by omega)]; exact Nat.zero_le _
set_option maxRecDepth 100000 in
theorem tpT_hs : ∀ (m : Nat) (l : List ByteArray), l.length ≤ m → ∀ x ∈ tpT l, x.1.size = 32 ∧ x.2.size = 32
  | 0, l, h, x, hx => by rw [tpT_small (by omega)] at hx; simp at hx
  | m + 1, l, h, x, hx => by
    by_cases h2 : 2 ≤ l.length
    · have hl := Mer.half_lt h2
      have hp := Mer.half_pos l.length
      rw [tpT_two h2] at hx
      rcases List.mem_append.1 hx with hx | hx
      · rcases List.mem_append.1 hx with hx | hx
        · exact tpT_hs m _ (by rw [List.length_take]; omega) x hx
        · exact tpT_hs m _ (by rw [List.length_drop]; omega) x hx
      · rw [List.mem_singleton.1 hx]; exact ⟨rtT_size _, rtT_size _⟩
    · rw [tpT_small (by omega)] at hx; simp at hx
set_option maxRecDepth 100000 in
theorem ownP_from {w : World} {b b' : Nat} {v : Value} {n : Nat} {l : List Pair} (h : OwnP w b v n l) (hb : b' ≤ b) : OwnP w b' v n l := by
  refine ⟨h.1, ?_⟩
  rcases h.2 with h0 | ⟨g, cap, cur, h1, h2, h3⟩
  · exact .inl h0
  · exact .inr ⟨g, cap, cur, h1, by omega, h3⟩
set_option maxRecDepth 100000 in
theorem KpR.far {w w' w2 : World} {a : Option Addr} {l : List ByteArray} (h : Hid (KpR w a l w')) (hb : Below w.heap.size w' w2) (hA : Hid (SA w a l)) : Hid (KpR w a l w2) := ⟨h.out.below.trans hb, hA.out.below (h.out.below.trans hb)⟩
attribute [local go_sem ↓] Go.wp_at_zero Go.wp_at_succ
set_option maxRecDepth 100000 in
set_option maxHeartbeats 4000000 in
theorem lwTree_any : ∀ (m : Nat) (a : Option Addr) (c n : Nat) (l : List ByteArray) (w : World), l.length ≤ m → l.length = n → n ≤ c → SA w a l → n ≤ 64 → c ≤ 9223372036854775807 → (∀ x ∈ l, x.size < 20000) →
    Calls Tryd.prog 25 #[.slice a n c] w fun e w' => ∃ v, e = .returned v ∧ v ≠ .slice none 0 0 ∧ OwnP w' w.heap.size v (tpT l).length (tpT l) ∧ Below w.heap.size w w'
  | m, a, c, n, l, w, hm, hn, hc, hA, hM, hcM, hx => by
    by_cases h1 : n < 2
    · have HP : Hid (tpT l = []) := tpT_small (by omega)
      have d1 : decide ((n : Int) < 2) = true := decide_eq_true (by omega)
      clear hA hx
      go_enter Tryd.func25, Tryd.ntmps25
      go_wp2
      go_ret
      refine ⟨_, rfl, by simp, ?_, (Below.refl _ _).alloc (Nat.le_refl _) _⟩
      rw [HP.out]
      exact World.ownsRow_made w #[] 0 (Nat.le_refl _) (Nat.zero_le _) rfl
    have d1 : decide ((n : Int) < 2) = false := decide_eq_false (by omega)
    have h2 : 2 ≤ n := by omega
    match m, hm with
    | 0, hm => omega
    | m + 1, hm =>
    have hl := Mer.half_lt h2
    have hp := Mer.half_pos n
    obtain ⟨b, o, rfl⟩ := hA.base (by omega)
    have l1 : (l.take (Mer.half n)).length = Mer.half n := by rw [List.length_take]; omega
    have l2 : (l.drop (Mer.half n)).length = n - Mer.half n := by rw [List.length_drop]; omega
    have o1 : okLv (l.take (Mer.half n)) = true := okLv_yes ⟨by omega, fun x hx' => hx x (List.mem_of_mem_take hx')⟩
    have o2 : okLv (l.drop (Mer.half n)) = true := okLv_yes ⟨by omega, fun x hx' => hx x (List.mem_of_mem_drop hx')⟩
    have HA0 : Hid (SA w (some ⟨b, o, none⟩) l) := hA
    have HS : Hid (KpR w (some ⟨b, o, none⟩) l w.drew) := KpR.drew (KpR.mk (Below.refl _ _) hA)
    have hR1 : ∀ w0, Hid (KpR w (some ⟨b, o, none⟩) l w0) → Calls Tryd.prog 25 #[.slice (some ⟨b, o, none⟩) (Mer.half n) c] w0 fun e w' => ∃ v, e = .returned v ∧ v ≠ .slice none 0 0 ∧ OwnP w' w0.heap.size v (tpT (l.take (Mer.half n))).length (tpT (l.take (Mer.half n))) ∧ Below w0.heap.size w0 w' := fun w0 h =>
      lwTree_any m (some ⟨b, o, none⟩) c (Mer.half n) (l.take (Mer.half n)) w0 (by omega) l1 (by omega) (h.out.sa.take _) (by omega) hcM (fun x hx' => hx x (List.mem_of_mem_take hx'))
    have hR2 : ∀ w0, Hid (KpR w (some ⟨b, o, none⟩) l w0) → Calls Tryd.prog 25 #[.slice (some ⟨b, o + Mer.half n, none⟩) (n - Mer.half n) (c - Mer.half n)] w0 fun e w' => ∃ v, e = .returned v ∧ v ≠ .slice none 0 0 ∧ OwnP w' w0.heap.size v (tpT (l.drop (Mer.half n))).length (tpT (l.drop (Mer.half n))) ∧ Below w0.heap.size w0 w' := fun w0 h =>
      lwTree_any m (some ⟨b, o + Mer.half n, none⟩) (c - Mer.half n) (n - Mer.half n) (l.drop (Mer.half n)) w0 (by omega) l2 (by omega) (h.out.sa.drop _) (by omega) (by omega) (fun x hx' => hx x (List.mem_of_mem_drop hx'))
    have hT1 : ∀ w0, Hid (KpR w (some ⟨b, o, none⟩) l w0) → Calls Tryd.prog 10 #[.slice (some ⟨b, o, none⟩) (Mer.half n) c] w0 fun e w' => e = .returned (.string (rtT (l.take (Mer.half n)))) ∧ Below w0.heap.size w0 w' := fun w0 h => by
      have := specTree (some ⟨b, o, none⟩) c (Mer.half n) (l.take (Mer.half n)) w0 l1 (by omega) (h.out.sa.take _) (by omega) hcM (fun x hx' => by have := hx x (List.mem_of_mem_take hx'); unfold maxLen; omega)
      rw [show rootA (l.take (Mer.half n)) = rtT (l.take (Mer.half n)) from if_pos o1] at this
      exact this
    have hT2 : ∀ w0, Hid (KpR w (some ⟨b, o, none⟩) l w0) → Calls Tryd.prog 10 #[.slice (some ⟨b, o + Mer.half n, none⟩) (n - Mer.half n) (c - Mer.half n)] w0 fun e w' => e = .returned (.string (rtT (l.drop (Mer.half n)))) ∧ Below w0.heap.size w0 w' := fun w0 h => by
      have := specTree (some ⟨b, o + Mer.half n, none⟩) (c - Mer.half n) (n - Mer.half n) (l.drop (Mer.half n)) w0 l2 (by omega) (h.out.sa.drop _) (by omega) (by omega) (fun x hx' => by have := hx x (List.mem_of_mem_drop hx'); unfold maxLen; omega)
      rw [show rootA (l.drop (Mer.half n)) = rtT (l.drop (Mer.half n)) from if_pos o2] at this
      exact this
    have HE : Hid (tpT l = tpT (l.take (Mer.half n)) ++ tpT (l.drop (Mer.half n)) ++ [(rtT (l.take (Mer.half n)), rtT (l.drop (Mer.half n)))]) := by show _ = _; rw [tpT_two (by omega), hn]
    have hP1 : (tpT (l.take (Mer.half n))).length ≤ 64 := by have := tpT_len _ (l.take (Mer.half n)) (Nat.le_refl _); omega
    have hP2 : (tpT (l.drop (Mer.half n))).length ≤ 64 := by have := tpT_len _ (l.drop (Mer.half n)) (Nat.le_refl _); omega
    have HF : Hid (∀ k j : Nat, k = 2 ^ j → k < n → n ≤ 2 * k → Mer.half n = k) := fun k j e h1 h2 => by subst e; exact Mer.half_uniq h1 h2
    generalize tpT (l.take (Mer.half n)) = P1 at *
    generalize tpT (l.drop (Mer.half n)) = P2 at *
    generalize rtT (l.take (Mer.half n)) = T1 at *
    generalize rtT (l.drop (Mer.half n)) = T2 at *
    generalize Mer.half n = H at *
    clear hA hx l1 l2 o1 o2
    go_enter Tryd.func25, Tryd.ntmps25
    go_wp2_with fail
    go_loop [3] (fun vk => ∃ k : Nat, vk = .int .i64 (k : Int) ∧ 1 ≤ k ∧ k < n ∧ Hid (∃ j, k = 2 ^ j)) (fun vk => n - (intOf vk).toNat)
    case atStart => exact ⟨1, rfl, Nat.le_refl _, by omega, ⟨0, rfl⟩⟩
    case round =>
    obtain ⟨k, rfl, hk1, hk2, HJ⟩ := hrel
    by_cases hlt : 2 * k < n
    · have hi : (2 : Int) * (k : Int) < n := by omega
      have HJ2 : Hid (∃ j, 2 * k = 2 ^ j) := by
        obtain ⟨j, hj⟩ := HJ.out
        exact ⟨j + 1, by rw [Nat.pow_succ, hj, Nat.mul_comm]⟩
      go_wp2
      exact ⟨⟨2 * k, by go_num, by omega, hlt, HJ2⟩, by simp [intOf]; omega⟩
    have hi : ¬ (2 : Int) * (k : Int) < n := by omega
    have HR : Hid (H = k) := by
      obtain ⟨j, hj⟩ := HJ.out
      exact HF.out k j hj hk2 (by omega)
    have HR2 := HR.out
    subst HR2
    have s1 := Tryd.sliceLo b o n c H (by omega)
    have s2 := Tryd.sliceHi b o n c H (by omega) (by omega)
    clear HF HJ
    go_wp2_with fail
    refine wp_region_held_drew (S := fun _ => True) (by kernel_rfl) trivial (fun hHeld => ?_)
    refine wpAnyH_take (i := 0) (oi := ⟨_, _, _, _, _, _⟩) (v := .slice (some ⟨b, o, none⟩) n c) rfl (by kernel_rfl) (by kernel_rfl) (by kernel_rfl) (fun _ _ _ h => h) (Or.inl ⟨wn' rfl, fun w' hSw => ?_⟩) trivial ?_
    · go_simp
    try simp only [Act.put, List.setIfInBounds_toArray, List.set_cons_zero, List.set_cons_succ]
    refine wpAnyH_take (i := 1) (oi := ⟨_, _, _, _, _, _⟩) (v := .int .i64 (H : Int)) rfl (by kernel_rfl) (by kernel_rfl) (by kernel_rfl) (fun _ _ _ h => h) (Or.inl ⟨wn' rfl, fun w' hSw => ?_⟩) trivial ?_
    · go_simp
    try simp only [Act.put, List.setIfInBounds_toArray, List.set_cons_zero, List.set_cons_succ]
    refine wpAnyH_take (i := 2) (oi := ⟨_, _, _, _, _, _⟩) (v := .slice (some ⟨b, o, none⟩) H c) rfl (by kernel_rfl) (by kernel_rfl) (by kernel_rfl) (fun _ _ _ h => h) (Or.inl ⟨wn' rfl, fun w' hSw => ?_⟩) trivial ?_
    · go_simp
    try simp only [Act.put, List.setIfInBounds_toArray, List.set_cons_zero, List.set_cons_succ]
    refine wpAnyH_take (i := 4) (oi := ⟨_, _, _, _, _, _⟩) (v := .slice (some ⟨b, o, none⟩) n c) rfl (by kernel_rfl) (by kernel_rfl) (by kernel_rfl) (fun _ _ _ h => h) (Or.inl ⟨wn' rfl, fun w' hSw => ?_⟩) trivial ?_
    · go_simp
    try simp only [Act.put, List.setIfInBounds_toArray, List.set_cons_zero, List.set_cons_succ]
    refine wpAnyH_take (i := 5) (oi := ⟨_, _, _, _, _, _⟩) (v := .int .i64 (H : Int)) rfl (by kernel_rfl) (by kernel_rfl) (by kernel_rfl) (fun _ _ _ h => h) (Or.inl ⟨wn' rfl, fun w' hSw => ?_⟩) trivial ?_
    · go_simp
    try simp only [Act.put, List.setIfInBounds_toArray, List.set_cons_zero, List.set_cons_succ]
    refine wpAnyH_take (i := 6) (oi := ⟨_, _, _, _, _, _⟩) (v := .slice (some ⟨b, o + H, none⟩) (n - H) (c - H)) rfl (by kernel_rfl) (by kernel_rfl) (by kernel_rfl) (fun _ _ _ h => h) (Or.inl ⟨wn' rfl, fun w' hSw => ?_⟩) trivial ?_
    · go_simp
    try simp only [Act.put, List.setIfInBounds_toArray, List.set_cons_zero, List.set_cons_succ]
    refine wpAnyH_ready (rs := [3]) (by kernel_rfl) (by simp) (AllReadyH.cons (o := ⟨_, _, _, _, _, _⟩) rfl (fun K hK => ?_) AllReadyH.nil)
    rewrite [if_pos (wn' rfl)]
    go_simp
    refine (hR1 _ HS).mono ?_
    rintro e w1 ⟨v1, rfl, hv1, hO1, hB1⟩
    go_wp2_with fail
    have HS1 : Hid (KpR w (some ⟨b, o, none⟩) l w1) := KpR.hid HS hB1
    refine hK.out _ _ trivial (fun _ => ?_)
    clear hK K
    try simp only [Act.put, List.setIfInBounds_toArray, List.set_cons_zero, List.set_cons_succ]
    refine wpAnyH_ready (rs := [7]) (by kernel_rfl) (by simp) (AllReadyH.cons (o := ⟨_, _, _, _, _, _⟩) rfl (fun K hK => ?_) AllReadyH.nil)
    rewrite [if_pos (wn' rfl)]
    go_simp
    refine (hR2 _ HS1).mono ?_
    rintro e w2 ⟨v2, rfl, hv2, hO2, hB2⟩
    go_wp2_with fail
    have HS2 : Hid (KpR w (some ⟨b, o, none⟩) l w2) := KpR.hid HS1 hB2
    have hO1' : OwnP w2 w.heap.size v1 P1.length P1 := ownP_from (ownP_below hO1 hB2) HS.out.below.size
    obtain ⟨g2, c2, rfl, hg2, hn2, hm2, hp2, hl2⟩ := ownP_some hO2 hv2
    refine hK.out _ _ trivial (fun _ => ?_)
    clear hK K
    try simp only [Act.put, List.setIfInBounds_toArray, List.set_cons_zero, List.set_cons_succ]
    refine wpAnyH_ready (rs := [8]) (by kernel_rfl) (by simp) (AllReadyH.cons (o := ⟨_, _, _, _, _, _⟩) rfl (fun K hK => ?_) AllReadyH.nil)
    rewrite [if_pos (wn' rfl)]
    with_reducible refine wp_append_pairs (.tmp 19) (.tmp 23) (by with_unfolding_all rfl) w.heap.size v1 P1.length P2.length P1 P2 (by with_unfolding_all rfl) hO1' g2 0 c2 (by with_unfolding_all rfl) (by with_unfolding_all rfl) hp2 (by omega) HS2.out.below.size ?_
    intro v3 w3 hO3 hB3 hv3
    refine hK.out _ _ trivial (fun _ => ?_)
    clear hK K
    try simp only [Act.put, List.setIfInBounds_toArray, List.set_cons_zero, List.set_cons_succ]
    refine wpAnyH_take (i := 9) (oi := ⟨_, _, _, _, _, _⟩) (v := v3) rfl (by kernel_rfl) (by kernel_rfl) (by kernel_rfl) (fun _ _ _ h => h) (Or.inl ⟨wn' rfl, fun w' hSw => ?_⟩) trivial ?_
    · go_simp
    try simp only [Act.put, List.setIfInBounds_toArray, List.set_cons_zero, List.set_cons_succ]
    refine wpAnyH_done (by kernel_rfl) ?_ _
    have HS3 : Hid (KpR w (some ⟨b, o, none⟩) l w3) := KpR.far HS2 hB3 HA0
    have HO3 : Hid (OwnP w3.drew w.heap.size v3 (P1.length + P2.length) (P1 ++ P2)) := hO3
    have HV3 : Hid (v3 ≠ .slice none 0 0) := hv3 hv1
    have HS4 : Hid (KpR w (some ⟨b, o, none⟩) l w3.drew) := KpR.drew HS3
    clear hO3 hB3 hv3 hv1 hv2 hO1 hO2 hO1' hp2 HS HS1 HS2 HS3 hB1 hB2 hHeld hl2 hm2 hn2 hg2
    go_wp2_with fail
    refine wp_region_held_drew (S := fun _ => True) (by kernel_rfl) trivial (fun hHeld => ?_)
    refine wpAnyH_take (i := 0) (oi := ⟨_, _, _, _, _, _⟩) (v := v3) rfl (by kernel_rfl) (by kernel_rfl) (by kernel_rfl) (fun _ _ _ h => h) (Or.inl ⟨wn' rfl, fun w' hSw => ?_⟩) trivial ?_
    · go_simp
    try simp only [Act.put, List.setIfInBounds_toArray, List.set_cons_zero, List.set_cons_succ]
    refine wpAnyH_take (i := 1) (oi := ⟨_, _, _, _, _, _⟩) (v := .slice (some ⟨b, o, none⟩) n c) rfl (by kernel_rfl) (by kernel_rfl) (by kernel_rfl) (fun _ _ _ h => h) (Or.inl ⟨wn' rfl, fun w' hSw => ?_⟩) trivial ?_
    · go_simp
    try simp only [Act.put, List.setIfInBounds_toArray, List.set_cons_zero, List.set_cons_succ]
    refine wpAnyH_take (i := 2) (oi := ⟨_, _, _, _, _, _⟩) (v := .int .i64 (H : Int)) rfl (by kernel_rfl) (by kernel_rfl) (by kernel_rfl) (fun _ _ _ h => h) (Or.inl ⟨wn' rfl, fun w' hSw => ?_⟩) trivial ?_
    · go_simp
    try simp only [Act.put, List.setIfInBounds_toArray, List.set_cons_zero, List.set_cons_succ]
    refine wpAnyH_take (i := 3) (oi := ⟨_, _, _, _, _, _⟩) (v := .slice (some ⟨b, o, none⟩) H c) rfl (by kernel_rfl) (by kernel_rfl) (by kernel_rfl) (fun _ _ _ h => h) (Or.inl ⟨wn' rfl, fun w' hSw => ?_⟩) trivial ?_
    · go_simp
    try simp only [Act.put, List.setIfInBounds_toArray, List.set_cons_zero, List.set_cons_succ]
    refine wpAnyH_take (i := 5) (oi := ⟨_, _, _, _, _, _⟩) (v := .slice (some ⟨b, o, none⟩) n c) rfl (by kernel_rfl) (by kernel_rfl) (by kernel_rfl) (fun _ _ _ h => h) (Or.inl ⟨wn' rfl, fun w' hSw => ?_⟩) trivial ?_
    · go_simp
    try simp only [Act.put, List.setIfInBounds_toArray, List.set_cons_zero, List.set_cons_succ]
    refine wpAnyH_take (i := 6) (oi := ⟨_, _, _, _, _, _⟩) (v := .int .i64 (H : Int)) rfl (by kernel_rfl) (by kernel_rfl) (by kernel_rfl) (fun _ _ _ h => h) (Or.inl ⟨wn' rfl, fun w' hSw => ?_⟩) trivial ?_
    · go_simp
    try simp only [Act.put, List.setIfInBounds_toArray, List.set_cons_zero, List.set_cons_succ]
    refine wpAnyH_take (i := 7) (oi := ⟨_, _, _, _, _, _⟩) (v := .slice (some ⟨b, o + H, none⟩) (n - H) (c - H)) rfl (by kernel_rfl) (by kernel_rfl) (by kernel_rfl) (fun _ _ _ h => h) (Or.inl ⟨wn' rfl, fun w' hSw => ?_⟩) trivial ?_
    · go_simp
    try simp only [Act.put, List.setIfInBounds_toArray, List.set_cons_zero, List.set_cons_succ]
    refine wpAnyH_ready (rs := [4]) (by kernel_rfl) (by simp) (AllReadyH.cons (o := ⟨_, _, _, _, _, _⟩) rfl (fun K hK => ?_) AllReadyH.nil)
    rewrite [if_pos (wn' rfl)]
    go_simp
    refine (hT1 _ HS4).mono ?_
    rintro e w5 ⟨rfl, hB5⟩
    go_wp2_with fail
    have HS5 : Hid (KpR w (some ⟨b, o, none⟩) l w5) := KpR.hid HS4 hB5
    refine hK.out _ _ trivial (fun _ => ?_)
    clear hK K
    try simp only [Act.put, List.setIfInBounds_toArray, List.set_cons_zero, List.set_cons_succ]
    refine wpAnyH_ready (rs := [8]) (by kernel_rfl) (by simp) (AllReadyH.cons (o := ⟨_, _, _, _, _, _⟩) rfl (fun K hK => ?_) AllReadyH.nil)
    rewrite [if_pos (wn' rfl)]
    go_simp
    refine (hT2 _ HS5).mono ?_
    rintro e w6 ⟨rfl, hB6⟩
    go_wp2_with fail
    have HS6 : Hid (KpR w (some ⟨b, o, none⟩) l w6) := KpR.hid HS5 hB6
    have hO6 : OwnP w6 w.heap.size v3 (P1.length + P2.length) (P1 ++ P2) := ownP_below (ownP_below HO3.out hB5) hB6
    refine hK.out _ _ trivial (fun _ => ?_)
    clear hK K
    try simp only [Act.put, List.setIfInBounds_toArray, List.set_cons_zero, List.set_cons_succ]
    refine wpAnyH_take (i := 9) (oi := ⟨_, _, _, _, _, _⟩) (v := .agg #[.string T1, .string T2]) rfl (by kernel_rfl) (by kernel_rfl) (by kernel_rfl) (fun _ _ _ h => h) (Or.inl ⟨wn' rfl, fun w' hSw => ?_⟩) trivial ?_
    · go_simp
    try simp only [Act.put, List.setIfInBounds_toArray, List.set_cons_zero, List.set_cons_succ]
    refine wpAnyH_ready (rs := [10]) (by kernel_rfl) (by simp) (AllReadyH.cons (o := ⟨_, _, _, _, _, _⟩) rfl (fun K hK => ?_) AllReadyH.nil)
    rewrite [if_pos (wn' rfl)]
    go_wp2_with fail
    have B7 : Below w.heap.size w (w6.alloc (.cells #[.string T1, .string T2] 97)) := HS6.out.below.alloc HS6.out.below.size _
    have hO7 : OwnP (w6.alloc (.cells #[.string T1, .string T2] 97)) w.heap.size v3 (P1.length + P2.length) (P1 ++ P2) := ownP_below hO6 ((Below.refl _ _).alloc (Nat.le_refl _) _)
    have hp7 : PA (w6.alloc (.cells #[.string T1, .string T2] 97)) w6.heap.size 0 [(T1, T2)] := lit_pa w6 (T1, T2) 97
    refine hK.out _ _ trivial (fun _ => ?_)
    clear hK K
    try simp only [Act.put, List.setIfInBounds_toArray, List.set_cons_zero, List.set_cons_succ]
    generalize w6.alloc (.cells #[.string T1, .string T2] 97) = w7 at *
    refine wpAnyH_ready (rs := [11]) (by kernel_rfl) (by simp) (AllReadyH.cons (o := ⟨_, _, _, _, _, _⟩) rfl (fun K hK => ?_) AllReadyH.nil)
    rewrite [if_pos (wn' rfl)]
    with_reducible refine wp_append_pairs (.tmp 25) (.tmp 35) (by with_unfolding_all rfl) w.heap.size v3 (P1.length + P2.length) 1 (P1 ++ P2) [(T1, T2)] (by with_unfolding_all rfl) hO7 w6.heap.size 0 1 (by with_unfolding_all rfl) (by with_unfolding_all rfl) hp7 (by omega) B7.size ?_
    intro v8 w8 hO8 hB8 hv8
    refine hK.out _ _ trivial (fun _ => ?_)
    clear hK K
    try simp only [Act.put, List.setIfInBounds_toArray, List.set_cons_zero, List.set_cons_succ]
    refine wpAnyH_take (i := 12) (oi := ⟨_, _, _, _, _, _⟩) (v := v8) rfl (by kernel_rfl) (by kernel_rfl) (by kernel_rfl) (fun _ _ _ h => h) (Or.inl ⟨wn' rfl, fun w' hSw => ?_⟩) trivial ?_
    · go_simp
    try simp only [Act.put, List.setIfInBounds_toArray, List.set_cons_zero, List.set_cons_succ]
    refine wpAnyH_done (by kernel_rfl) ?_ _
    have HV8 : Hid (v8 ≠ .slice none 0 0) := hv8 HV3.out
    have HB8 : Hid (Below w.heap.size w w8) := B7.trans hB8
    have HO8 : Hid (OwnP w8 w.heap.size v8 (P1.length + P2.length + 1) (P1 ++ P2 ++ [(T1, T2)])) := hO8
    clear hO8 hB8 hv8 hO7 hp7 B7 hO6 HS4 HS5 HS6 hB5 hB6 hHeld HO3
    go_wp2
    go_ret
    refine ⟨v8, rfl, HV8.out, ?_, HB8.out⟩
    rw [HE.out, List.length_append, List.length_append]
    exact HO8.out
end Go.Proofs.YtdfglpbappeoaabDoor
