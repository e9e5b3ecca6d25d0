/- Roles and roots, on the program's side: are they right? -/
import Derived.Test.YtdfglpbappeoaabDoorMetB
import Derived.Test.YtdfglpbappeoaabDoorPnI
import Derived.Test.YtdfglpbappeoaabDoorBld
namespace Go.Proofs.YtdfglpbappeoaabDoor
open Go.RowKit
set_option linter.unusedVariables false

set_option maxRecDepth 100000 in
set_option maxHeartbeats 2000000 in
theorem implRole (need : Int) (a : Option Addr) (c n : Nat) (ks : List Int) (w : World) (hn : ks.length = n) (h : AI w a ks) (hnm : n ≤ maxLen) (hw : ∀ x ∈ ks, I64 x) :
    Calls Tryd.prog 137 #[.agg #[.int .i64 need, .slice a n c]] w fun e w' => e = .returned (.bool (roleB need ks)) ∧ Below w.heap.size w w' := by
  unfold maxLen at hnm
  have HN : Hid (ks.length = n) := hn
  have HA : Hid (AI w a ks) := h
  have HW : Hid (∀ x ∈ ks, I64 x) := hw
  have HR : Hid (¬ (1 ≤ ks.length ∧ ks.length ≤ 8 ∧ 1 ≤ need ∧ need ≤ (ks.length : Int)) → roleB need ks = false) := fun h => by unfold roleB; rw [decide_eq_false h]; rfl
  have HR2 : Hid ((1 ≤ ks.length ∧ ks.length ≤ 8 ∧ 1 ≤ need ∧ need ≤ (ks.length : Int)) → roleB need ks = okKs ks) := fun h => by unfold roleB; rw [decide_eq_true h]; rfl
  obtain ⟨R, hRR⟩ : ∃ R, roleB need ks = R := ⟨_, rfl⟩
  rw [hRR] at HR HR2 ⊢
  clear h hn hw hRR
  by_cases c1 : n < 1
  · have d1 : decide ((n : Int) < 1) = true := decide_eq_true (by omega)
    have HF : Hid (R = false) := HR.out (by rw [HN.out]; omega)
    go_enter Tryd.func137, Tryd.ntmps137
    go_wp2_with (first
      | (with_reducible refine wpList_boxV (w := w) (by with_unfolding_all rfl) 161 (.tmp 0) (by with_unfolding_all rfl) (rlv need a n c) (by with_unfolding_all rfl) ?_; intro w1 hA1 hB1 hS1; obtain ⟨p0, p1⟩ := hA1.rl; clear hS1))
    go_ret
    exact ⟨retY HF.out.symm, hB1⟩
  have d1 : decide ((n : Int) < 1) = false := decide_eq_false (by omega)
  by_cases c2 : 8 < n
  · have d2 : decide ((8 : Int) < (n : Int)) = true := decide_eq_true (by omega)
    have HF : Hid (R = false) := HR.out (by rw [HN.out]; omega)
    go_enter Tryd.func137, Tryd.ntmps137
    go_wp2_with (first
      | (with_reducible refine wpList_boxV (w := w) (by with_unfolding_all rfl) 161 (.tmp 0) (by with_unfolding_all rfl) (rlv need a n c) (by with_unfolding_all rfl) ?_; intro w1 hA1 hB1 hS1; obtain ⟨p0, p1⟩ := hA1.rl; clear hS1))
    go_ret
    exact ⟨retY HF.out.symm, hB1⟩
  have d2 : decide ((8 : Int) < (n : Int)) = false := decide_eq_false (by omega)
  by_cases c3 : need < 1
  · have d3 : decide (need < 1) = true := decide_eq_true c3
    have HF : Hid (R = false) := HR.out (by omega)
    go_enter Tryd.func137, Tryd.ntmps137
    go_wp2_with (first
      | (with_reducible refine wpList_boxV (w := w) (by with_unfolding_all rfl) 161 (.tmp 0) (by with_unfolding_all rfl) (rlv need a n c) (by with_unfolding_all rfl) ?_; intro w1 hA1 hB1 hS1; obtain ⟨p0, p1⟩ := hA1.rl; clear hS1))
    go_ret
    exact ⟨retY HF.out.symm, hB1⟩
  have d3 : decide (need < 1) = false := decide_eq_false c3
  by_cases c4 : (n : Int) < need
  · have d4 : decide ((n : Int) < need) = true := decide_eq_true c4
    have HF : Hid (R = false) := HR.out (by rw [HN.out]; omega)
    go_enter Tryd.func137, Tryd.ntmps137
    go_wp2_with (first
      | (with_reducible refine wpList_boxV (w := w) (by with_unfolding_all rfl) 161 (.tmp 0) (by with_unfolding_all rfl) (rlv need a n c) (by with_unfolding_all rfl) ?_; intro w1 hA1 hB1 hS1; obtain ⟨p0, p1⟩ := hA1.rl; clear hS1))
    go_ret
    exact ⟨retY HF.out.symm, hB1⟩
  have d4 : decide ((n : Int) < need) = false := decide_eq_false c4
  have HK : Hid (R = okKs ks) := HR2.out (by rw [HN.out]; omega)
  clear HR HR2
  go_enter Tryd.func137, Tryd.ntmps137
  go_wp2_with (first
    | (with_reducible refine wpList_boxV (w := w) (by with_unfolding_all rfl) 161 (.tmp 0) (by with_unfolding_all rfl) (rlv need a n c) (by with_unfolding_all rfl) ?_; intro w1 hA1 hB1 hS1; obtain ⟨p0, p1⟩ := hA1.rl; clear hS1))
  have HS : Hid (KpRl w w.heap.size need a n c ks w1) := ⟨hB1, hA1, HA.out.below hB1⟩
  clear hA1 hB1 p0 p1 HA d1 d2 d3 d4
  go_loopw [31] (fun vi wr => ∃ k : Nat, vi = .int .i64 (k : Int) ∧ k ≤ n ∧ Hid (∀ j, j < k → KeyOk ks j) ∧ Hid (KpRl w w.heap.size need a n c ks wr)) (fun vi _ => n - (intOf vi).toNat)
  case atStart => exact ⟨0, rfl, Nat.zero_le _, fun j hj => absurd hj (Nat.not_lt_zero _), HS⟩
  case round =>
    clear HS
    obtain ⟨k, rfl, hk, HT, HS⟩ := hrel
    obtain ⟨p0, p1⟩ := HS.out.v.rl
    by_cases hlt : k < n
    case neg =>
      obtain rfl : k = n := by omega
      have HF : Hid (R = true) := by show _ = _; rw [HK.out]; exact okKs_yes (fun j hj => HT.out j (by have := HN.out; omega))
      go_wp2
      go_ret
      exact ⟨retY HF.out.symm, HS.out.below⟩
    have hkl : k < ks.length := by have := HN.out; omega
    obtain ⟨b, o, rfl, hc⟩ := HS.out.ai k hkl
    have hix := HW.out ks[k] (List.getElem_mem hkl)
    have lk : (k : Int) < n := by omega
    have l0 : (0 : Int) ≤ k := by omega
    have hG : ∀ w0, Calls Tryd.prog 157 #[.int .i64 ks[k]] w0 fun e w' => e = .returned (.bool (grB ks[k])) ∧ w0 = w' := fun w0 => (implGRight ks[k] w0 hix).mono (fun _ _ h => ⟨h.1, h.2.symm⟩)
    have HKo : Hid (∀ h : grB ks[k] = true, (0 < k → ks.getD (k - 1) 0 < ks[k]) → ∀ j, j < k + 1 → KeyOk ks j) := fun h1 h2 j hj => by
      by_cases hjk : j < k
      · exact HT.out j hjk
      · obtain rfl : j = k := by omega
        exact ⟨hkl, h1, h2⟩
    have HNo : Hid (¬ (grB ks[k] = true ∧ (0 < k → ks.getD (k - 1) 0 < ks[k])) → R = false) := fun h => by
      rw [HK.out]
      exact okKs_no hkl (fun ⟨_, h1, h2⟩ => h ⟨h1, h2⟩)
    cases hg : grB ks[k] with
    | false =>
      as_aux_lemma =>
      have HF : Hid (R = false) := HNo.out (fun h => by rw [hg] at h; cases h.1)
      rw [hg] at hG
      generalize ks[k] = z at *
      clear HKo HNo HT hg
      go_wp2_with (go_at_call 157; with_reducible refine (hG _).mono ?_; rintro e w' ⟨rfl, rfl⟩)
      go_ret
      exact ⟨retY HF.out.symm, HS.out.below⟩
    | true =>
    rw [hg] at hG
    by_cases hk0 : k = 0
    · as_aux_lemma =>
      subst hk0
      rw [Nat.add_zero] at hc
      have HT2 : Hid (∀ j, j < 1 → KeyOk ks j) := HKo.out hg (fun h => by omega)
      generalize ks[0] = z at *
      clear HKo HNo HT hg
      go_wp2_with (go_at_call 157; with_reducible refine (hG _).mono ?_; rintro e w' ⟨rfl, rfl⟩)
      go_roundw
      case rel => exact ⟨1, rfl, by omega, HT2, HS⟩
      case measure => simp [intOf]; omega
    have d5 : decide ((0 : Int) < (k : Int)) = true := decide_eq_true (by omega)
    have d6 : decide (0 < k) = true := decide_eq_true (by omega)
    obtain ⟨k1, hk1⟩ : ∃ k1, k - 1 = k1 := ⟨_, rfl⟩
    have ek : (k : Int) - 1 = (k1 : Int) := by omega
    have hk1l : k1 < ks.length := by omega
    obtain ⟨b', o', hb', hc'⟩ := HS.out.ai k1 hk1l
    injection hb' with hb'
    injection hb' with e1 e2
    subst e1 e2
    have hgd : ks.getD (k - 1) 0 = ks[k1] := by rw [hk1, List.getD_eq_getElem?_getD, List.getElem?_eq_getElem hk1l]; rfl
    rw [hgd] at HKo HNo
    have lk1 : (k1 : Int) < n := by omega
    have l01 : (0 : Int) ≤ k1 := by omega
    by_cases hlt2 : ks[k1] < ks[k]
    · as_aux_lemma =>
      have HT2 : Hid (∀ j, j < k + 1 → KeyOk ks j) := HKo.out hg (fun _ => hlt2)
      have d7 : decide (ks[k] ≤ ks[k1]) = false := decide_eq_false (by omega)
      generalize ks[k] = z at *
      generalize ks[k1] = z1 at *
      clear HKo HNo HT hg hgd
      go_wp2_with (go_at_call 157; with_reducible refine (hG _).mono ?_; rintro e w' ⟨rfl, rfl⟩)
      go_roundw
      case rel => exact ⟨k + 1, by go_num, by omega, HT2, HS⟩
      case measure => simp [intOf]; omega
    · as_aux_lemma =>
      have HF : Hid (R = false) := HNo.out (fun h => hlt2 (h.2 (by omega)))
      have d7 : decide (ks[k] ≤ ks[k1]) = true := decide_eq_true (by omega)
      generalize ks[k] = z at *
      generalize ks[k1] = z1 at *
      clear HKo HNo HT hg hgd
      go_wp2_with (go_at_call 157; with_reducible refine (hG _).mono ?_; rintro e w' ⟨rfl, rfl⟩)
      go_ret
      exact ⟨retY HF.out.symm, HS.out.below⟩
set_option maxRecDepth 100000 in
set_option maxHeartbeats 2000000 in
theorem implRootR (v e : Int) (a : Option Addr) (c n : Nat) (rs : List RoleV) (w : World) (hn : rs.length = n) (h : RlsAt w a rs) (hnm : n ≤ maxLen) (hw : ∀ r ∈ rs, RoleW r) :
    Calls Tryd.prog 111 #[.agg #[.int .i64 v, .int .i64 e, .slice a n c]] w fun r w' => r = .returned (.bool (rootB v e rs)) ∧ Below w.heap.size w w' := by
  unfold maxLen at hnm
  have HN : Hid (rs.length = n) := hn
  have HA : Hid (RlsAt w a rs) := h
  have HW : Hid (∀ r ∈ rs, RoleW r) := hw
  have hV : ∀ w0, Calls Tryd.prog 136 #[.int .i64 v] w0 fun r w' => r = .returned (.bool (verB v)) ∧ w0 = w' := fun w0 => implVer v w0
  have hT : ∀ w0, Calls Tryd.prog 76 #[.int .i64 e] w0 fun r w' => r = .returned (.bool (timB e)) ∧ w0 = w' := fun w0 => implTim e w0
  have HR : Hid (rootB v e rs = (verB v && (timB e && (decide (rs.length = 5) && rolesB rs)))) := rfl
  obtain ⟨R, hRR⟩ : ∃ R, rootB v e rs = R := ⟨_, rfl⟩
  rw [hRR] at HR ⊢
  clear h hn hw hRR
  cases hv : verB v with
  | false =>
    have HF : Hid (R = false) := by show _ = _; rw [HR.out, hv]; rfl
    rw [hv] at hV
    clear HR hv hT
    go_enter Tryd.func111, Tryd.ntmps111
    go_wp2_with (first
      | (with_reducible refine wpList_boxV (w := w) (by with_unfolding_all rfl) 59 (.tmp 0) (by with_unfolding_all rfl) (rtv v e a n c) (by with_unfolding_all rfl) ?_; intro w1 hA1 hB1 hS1; obtain ⟨p0, p1, p2⟩ := hA1.rt3; clear hS1)
      | (go_at_call 136; refine (hV _).mono ?_; rintro r w' ⟨rfl, rfl⟩))
    go_ret
    exact ⟨retY HF.out.symm, hB1⟩
  | true =>
  rw [hv] at hV
  cases ht : timB e with
  | false =>
    have HF : Hid (R = false) := by show _ = _; rw [HR.out, hv, ht]; rfl
    rw [ht] at hT
    clear HR hv ht
    go_enter Tryd.func111, Tryd.ntmps111
    go_wp2_with (first
      | (with_reducible refine wpList_boxV (w := w) (by with_unfolding_all rfl) 59 (.tmp 0) (by with_unfolding_all rfl) (rtv v e a n c) (by with_unfolding_all rfl) ?_; intro w1 hA1 hB1 hS1; obtain ⟨p0, p1, p2⟩ := hA1.rt3; clear hS1)
      | (go_at_call 136; refine (hV _).mono ?_; rintro r w' ⟨rfl, rfl⟩)
      | (go_at_call 76; refine (hT _).mono ?_; rintro r w' ⟨rfl, rfl⟩))
    go_ret
    exact ⟨retY HF.out.symm, hB1⟩
  | true =>
  rw [ht] at hT
  by_cases h5 : n = 5
  case neg =>
    have HF : Hid (R = false) := by show _ = _; rw [HR.out, hv, ht, decide_eq_false (by rw [HN.out]; exact h5)]; rfl
    have d5 : ((n : Int) == 5) = false := beq_eq_false_iff_ne.2 (by omega)
    have d5' : ((n : Int) != 5) = true := by simp; omega
    clear HR hv ht h5
    go_enter Tryd.func111, Tryd.ntmps111
    go_wp2_with (first
      | (with_reducible refine wpList_boxV (w := w) (by with_unfolding_all rfl) 59 (.tmp 0) (by with_unfolding_all rfl) (rtv v e a n c) (by with_unfolding_all rfl) ?_; intro w1 hA1 hB1 hS1; obtain ⟨p0, p1, p2⟩ := hA1.rt3; clear hS1)
      | (go_at_call 136; refine (hV _).mono ?_; rintro r w' ⟨rfl, rfl⟩)
      | (go_at_call 76; refine (hT _).mono ?_; rintro r w' ⟨rfl, rfl⟩))
    go_ret
    exact ⟨retY HF.out.symm, hB1⟩
  have HK : Hid (R = rolesB rs) := by show _ = _; rw [HR.out, hv, ht, decide_eq_true (by rw [HN.out]; exact h5)]; rfl
  subst h5
  clear HR hv ht
  go_enter Tryd.func111, Tryd.ntmps111
  go_wp2_with (first
    | (with_reducible refine wpList_boxV (w := w) (by with_unfolding_all rfl) 59 (.tmp 0) (by with_unfolding_all rfl) (rtv v e a 5 c) (by with_unfolding_all rfl) ?_; intro w1 hA1 hB1 hS1; obtain ⟨p0, p1, p2⟩ := hA1.rt3; clear hS1)
    | (go_at_call 136; refine (hV _).mono ?_; rintro r w' ⟨rfl, rfl⟩)
    | (go_at_call 76; refine (hT _).mono ?_; rintro r w' ⟨rfl, rfl⟩))
  have HS : Hid (KpRt w w.heap.size v e a 5 c rs w1) := ⟨hB1, hA1, HA.out.below hB1⟩
  clear hA1 hB1 p0 p1 p2 HA hV hT
  go_loopw [24] (fun vi wr => ∃ k : Nat, vi = .int .i64 (k : Int) ∧ k ≤ 5 ∧ Hid (∀ j (hj : j < rs.length), j < k → roleB rs[j].need rs[j].ks = true) ∧ Hid (KpRt w w.heap.size v e a 5 c rs wr)) (fun vi _ => 5 - (intOf vi).toNat)
  case atStart => exact ⟨0, rfl, Nat.zero_le _, fun j hj h0 => absurd h0 (Nat.not_lt_zero _), HS⟩
  case round =>
    clear HS
    obtain ⟨k, rfl, hk, HT, HS⟩ := hrel
    obtain ⟨p0, p1, p2⟩ := HS.out.row.rt3
    by_cases hlt : k < 5
    case neg =>
      obtain rfl : k = 5 := by omega
      have HF : Hid (R = true) := by show _ = _; rw [HK.out]; exact rolesB_yes (fun j hj => HT.out j hj (by have := HN.out; omega))
      go_wp2
      go_ret
      exact ⟨retY HF.out.symm, HS.out.below⟩
    have hkl : k < rs.length := by have := HN.out; omega
    obtain ⟨b, o, rfl, hc0, hc1, hai⟩ := HS.out.rl k hkl
    obtain ⟨w1, w2, w3⟩ := HW.out rs[k] (List.getElem_mem hkl)
    have lk : (k : Int) < 5 := by omega
    have l0 : (0 : Int) ≤ k := by omega
    have HG : Hid (∀ w0, Hid (KpRt w w.heap.size v e (some ⟨b, o, none⟩) 5 c rs w0) → Calls Tryd.prog 137 #[.agg #[.int .i64 rs[k].need, .slice rs[k].ka rs[k].ks.length rs[k].kc]] w0 fun r w' => r = .returned (.bool (roleB rs[k].need rs[k].ks)) ∧ Below w0.heap.size w0 w') := fun w0 h0 => implRole rs[k].need rs[k].ka rs[k].kc _ rs[k].ks w0 rfl (by obtain ⟨_, _, _, _, _, h4⟩ := h0.out.rl k hkl; exact h4) w2 w3
    have HYes : Hid (roleB rs[k].need rs[k].ks = true → ∀ j (hj : j < rs.length), j < k + 1 → roleB rs[j].need rs[j].ks = true) := fun h j hj hjk => by
      by_cases hjk2 : j < k
      · exact HT.out j hj hjk2
      · obtain rfl : j = k := by omega
        exact h
    have HNo : Hid (roleB rs[k].need rs[k].ks = false → R = false) := fun h => by rw [HK.out]; exact rolesB_no hkl h
    generalize rs[k].need = nd at *
    generalize rs[k].ka = ka at *
    generalize rs[k].kc = kc at *
    generalize rs[k].ks = ks at *
    obtain ⟨m, hm⟩ : ∃ m, ks.length = m := ⟨_, rfl⟩
    rw [hm] at hc1 HG
    clear hm hai w1 w2 w3 HT
    cases hb : roleB nd ks with
    | false =>
      as_aux_lemma =>
      have HF : Hid (R = false) := HNo.out hb
      rw [hb] at HG
      have hG := HG.out
      clear HYes HNo hb
      go_wp2_with (go_at_call 137; with_reducible refine (hG _ (KpRt.call HS (below_alloc _ _))).mono ?_; rintro r w5 ⟨rfl, hB5⟩; have HS5 := KpRt.call (KpRt.call HS (below_alloc _ _)) hB5)
      go_ret
      exact ⟨retY HF.out.symm, HS5.out.below⟩
    | true =>
      as_aux_lemma =>
      have HT2 : Hid (∀ j (hj : j < rs.length), j < k + 1 → roleB rs[j].need rs[j].ks = true) := HYes.out hb
      rw [hb] at HG
      have hG := HG.out
      clear HYes HNo hb
      go_wp2_with (go_at_call 137; with_reducible refine (hG _ (KpRt.call HS (below_alloc _ _))).mono ?_; rintro r w5 ⟨rfl, hB5⟩; have HS5 := KpRt.call (KpRt.call HS (below_alloc _ _)) hB5)
      go_roundw
      case rel => exact ⟨k + 1, by go_num, by omega, HT2, HS5⟩
      case measure => simp [intOf]; omega
end Go.Proofs.YtdfglpbappeoaabDoor
