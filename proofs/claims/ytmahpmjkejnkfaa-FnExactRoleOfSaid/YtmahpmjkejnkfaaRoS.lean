/- RoleOf on the specification's side. -/
import Derived.Test.YtmahpmjkejnkfaaRoO
namespace Go.Proofs.Ytmahpmjkejnkfaa
open Go.RowKit
set_option linter.unusedVariables false

set_option maxRecDepth 100000 in
set_option maxHeartbeats 4000000 in
theorem specRoleOf (z : Int) (a : Option Addr) (c n : Nat) (l : List Int) (w : World) (hn : l.length = n) (h : AI w a l) (hb : n ≤ maxLen) (hw : ∀ x ∈ l, I64 x) (hz : I64 z) :
    Calls Try.prog 23 #[.int .i64 z, .slice a n c] w fun r w' => ∃ a' c', r = .returned (.agg #[.int .i64 (roZ z l), .slice a' (roL z l).length c']) ∧ AI w' a' (roL z l) ∧ Below w.heap.size w w' := by
  unfold maxLen at hb
  have HN : Hid (l.length = n) := hn
  have HA : Hid (AI w a l) := h
  have HW : Hid (∀ x ∈ l, I64 x) := hw
  have HLg : Hid (¬ l.length ≤ 400 → roB z l = false) := roB_long
  have HSc : Hid (l.all secB = false → roB z l = false) := roB_sec
  have HIs : Hid (l.length ≤ 400 → l.all secB = true → roB z l = roleB z (roKs l)) := roB_is
  clear hn h hw
  by_cases c1 : 400 < n
  · have d1 : decide ((400 : Int) < (n : Int)) = true := decide_eq_true (by omega)
    have HNo : Hid (roB z l = false) := HLg.out (by have := HN.out; omega)
    go_enter Try.func23, Try.ntmps23
    go_wp2_with (first
      | (with_reducible refine wpList_allocV (w := w) (by with_unfolding_all rfl) 52 (by with_unfolding_all rfl) (rlv 0 none 0 0) Try.infoRlz ?_; intro w1 hA1 hB1 hS1; have z1 : w.heap.size < w1.heap.size := (by omega); clear hS1)
      | (with_reducible refine wpList_storeH (w := w1) (by with_unfolding_all rfl) 52 (.tmp 4) (.tmp 10) (by with_unfolding_all rfl) w.heap.size (rlv 0 none 0 0) (rlv 0 none 0 0) (by with_unfolding_all rfl) (by with_unfolding_all rfl) hA1 2 Try.sizeRl (by with_unfolding_all rfl) (by with_unfolding_all rfl) (rlv_one _ _ _ _) ?_; intro w5 hA5 hB5 hF5 hS5))
    exact bodyPost_ret (results_V (t := 52) rfl _ w.heap.size _ rfl hA5 Try.undRl 2 Try.sizeRl rfl) rfl ⟨none, 0, roRet HNo.out, roAi HNo.out, (hB1.trans (hB5 _ (Nat.le_refl _)))⟩
  have d1 : decide ((400 : Int) < (n : Int)) = false := decide_eq_false (by omega)
  clear HLg
  go_enter Try.func23, Try.ntmps23
  go_wp2_with (first
    | (with_reducible refine wpList_allocV (w := w) (by with_unfolding_all rfl) 52 (by with_unfolding_all rfl) (rlv 0 none 0 0) Try.infoRlz ?_; intro w1 hA1 hB1 hS1; have z1 : w.heap.size < w1.heap.size := (by omega); clear hS1)
    | (with_reducible refine wpList_allocV (w := w1) (by with_unfolding_all rfl) 52 (by with_unfolding_all rfl) (rlv 0 none 0 0) Try.infoRlz ?_; intro w3 hA3 hB3 hS3; have R3 := hA1.below hB3 z1; clear hS3)
    | (with_reducible refine wpList_storeH (w := w3) (by with_unfolding_all rfl) 52 (.tmp 5) (.tmp 12) (by with_unfolding_all rfl) w1.heap.size (rlv 0 none 0 0) (rlv z none 0 0) (by with_unfolding_all rfl) (by with_unfolding_all rfl) hA3 2 Try.sizeRl (by with_unfolding_all rfl) (by with_unfolding_all rfl) (rlv_one _ _ _ _) ?_; intro w4 hA4 hB4 hF4 hS4; have R4 := (Only.set hB4 hF4 hS4).row R3 (rlv_ne _ _ _ _) (Nat.ne_of_lt z1); have HS0 := KpRo.start ((hB1.trans (hB3.mono (Nat.le_of_lt z1))).trans (hB4 _ (Nat.le_of_lt z1))) R4 hA4 (Nat.le_refl _) z1; clear hS4 hF4))
  clear R3 R4 hA1 hA3 hA4 hB1 hB3 hB4 d1
  generalize w1.heap.size = GA at *
  go_loopw [6] (fun vi wr => ∃ (k : Nat) (am : Option Addr) (nm cm : Nat) (m : List Int), vi = .int .i64 (k : Int) ∧ k ≤ n ∧ Hid (m = roKs (l.take k)) ∧ Hid (∀ j (hj : j < l.length), j < k → IsSec l[j]) ∧ Hid (KpRo w w.heap.size GA z am nm cm m wr)) (fun vi _ => n - (intOf vi).toNat)
  case atStart => exact ⟨0, none, 0, 0, [], rfl, Nat.zero_le _, rfl, fun j hj h0 => absurd h0 (Nat.not_lt_zero _), HS0⟩
  case round =>
    clear HS0
    obtain ⟨k, am, nm, cm, m, rfl, hk, HM, HT, HS⟩ := hrel
    by_cases hlt : k < n
    case neg =>
      obtain rfl : k = n := by omega
      have HBe : Hid (roB z l = roleB z (roKs l)) := HIs.out (by have := HN.out; omega) (secs_yes (fun j hj => HT.out j hj (by have := HN.out; omega)))
      have HMe : Hid (m = roKs l) := by show _ = _; rw [HM.out, ← HN.out, List.take_length]
      have hml : m.length ≤ k := by rw [HMe.out]; have := roKs_len l; have := HN.out; omega
      have hRl : ∀ w0, AI w0 am m → Calls Try.prog 62 #[.agg #[.int .i64 z, .slice am nm cm]] w0 fun r w' => r = .returned (.bool (roleB z m)) ∧ Below w0.heap.size w0 w' := fun w0 hi => specRole z am cm nm m w0 HS.out.ln hi (by have := HS.out.ln; unfold maxLen; omega) (by rw [HMe.out]; exact roKs_i64 l)
      rw [← HMe.out] at HBe
      have R5 : RowV wr GA (rlv z am nm cm) := KpRo.r5H HS
      obtain ⟨p0, p1⟩ := R5.rl
      cases hr : roleB z m with
      | false =>
        have HNo : Hid (roB z l = false) := by show _ = _; rw [HBe.out, hr]
        rw [hr] at hRl
        go_wp2_with (first
          | (go_at_call 62; with_reducible refine (hRl wr HS.out.ai).mono ?_; rintro r w6 ⟨rfl, hB6⟩; have HS6 := KpRo.call HS hB6; clear p0 p1)
          | (with_reducible refine wpList_storeH (w := w6) (by with_unfolding_all rfl) 52 (.tmp 4) (.tmp 38) (by with_unfolding_all rfl) w.heap.size (rlv 0 none 0 0) (rlv 0 none 0 0) (by with_unfolding_all rfl) (by with_unfolding_all rfl) (KpRo.r2H HS6) 2 Try.sizeRl (by with_unfolding_all rfl) (by with_unfolding_all rfl) (rlv_one _ _ _ _) ?_; intro wz hAz hBz hFz hSz; have HE := KpRo.done HS6 (Only.set hBz hFz hSz)))
        exact bodyPost_ret (results_V (t := 52) rfl _ w.heap.size _ rfl hAz Try.undRl 2 Try.sizeRl rfl) rfl ⟨none, 0, roRet HNo.out, roAi HNo.out, HE.1⟩
      | true =>
        have HYes : Hid (roB z l = true) := by show _ = _; rw [HBe.out, hr]
        rw [hr] at hRl
        go_wp2_with (first
          | (go_at_call 62; with_reducible refine (hRl wr HS.out.ai).mono ?_; rintro r w6 ⟨rfl, hB6⟩; have HS6 := KpRo.call HS hB6; have R6 := R5.below hB6 (R5.lt (rlv_ne _ _ _ _)); clear p0 p1)
          | (with_reducible refine wpList_loadV (w := w6) (by with_unfolding_all rfl) 52 (.tmp 5) (by with_unfolding_all rfl) GA (rlv z am nm cm) (by with_unfolding_all rfl) R6 Try.undRl 2 Try.sizeRl (by with_unfolding_all rfl) ?_)
          | (with_reducible refine wpList_storeH (w := w6) (by with_unfolding_all rfl) 52 (.tmp 4) (.tmp 39) (by with_unfolding_all rfl) w.heap.size (rlv 0 none 0 0) (rlv z am nm cm) (by with_unfolding_all rfl) (by with_unfolding_all rfl) (KpRo.r2H HS6) 2 Try.sizeRl (by with_unfolding_all rfl) (by with_unfolding_all rfl) (rlv_one _ _ _ _) ?_; intro wz hAz hBz hFz hSz; have HE := KpRo.done HS6 (Only.set hBz hFz hSz)))
        exact bodyPost_ret (results_V (t := 52) rfl _ w.heap.size _ rfl hAz Try.undRl 2 Try.sizeRl rfl) rfl ⟨am, cm, by rw [(ro_yes HYes.out).1, (ro_yes HYes.out).2, ← HMe.out, HS.out.ln]; rfl, by rw [(ro_yes HYes.out).2, ← HMe.out]; exact HE.2, HE.1⟩
    have hkl : k < l.length := by have := HN.out; omega
    obtain ⟨b, o, rfl, hc0⟩ := HA.out k hkl
    have HAI : Hid (AI w (some ⟨b, o, none⟩) l) := HA
    have lk : (k : Int) < n := by omega
    have l0 : (0 : Int) ≤ k := by omega
    have hx := HW.out _ (List.getElem_mem hkl)
    have hc : wr.cell? ⟨b, o + k, none⟩ = some (.int .i64 l[k]) := sec_ro (x := l[k]) HAI HS (hidP ⟨hkl, rfl⟩)
    clear hc0
    have hG : ∀ w0, Calls Try.prog 59 #[.int .i64 l[k]] w0 fun r w' => r = .returned (.bool (secB l[k])) ∧ w0 = w' := fun w0 => (specSec l[k] w0 hx).mono fun r w' h => ⟨h.1, h.2.symm⟩
    by_cases hs : IsSec l[k]
    case neg =>
      have HNo : Hid (roB z l = false) := HSc.out (secs_no hkl hs)
      rw [secB_no hs] at hG
      clear hs hx HM HT
      generalize l[k] = x at *
      go_wp2_with (first
        | (go_at_call 59; with_reducible refine (hG _).mono ?_; rintro r w' ⟨rfl, rfl⟩)
        | (with_reducible refine wpList_storeH (w := wr) (by with_unfolding_all rfl) 52 (.tmp 4) (.tmp 25) (by with_unfolding_all rfl) w.heap.size (rlv 0 none 0 0) (rlv 0 none 0 0) (by with_unfolding_all rfl) (by with_unfolding_all rfl) (KpRo.r2H HS) 2 Try.sizeRl (by with_unfolding_all rfl) (by with_unfolding_all rfl) (rlv_one _ _ _ _) ?_; intro wz hAz hBz hFz hSz; have HE := KpRo.done HS (Only.set hBz hFz hSz)))
      exact bodyPost_ret (results_V (t := 52) rfl _ w.heap.size _ rfl hAz Try.undRl 2 Try.sizeRl rfl) rfl ⟨none, 0, roRet HNo.out, roAi HNo.out, HE.1⟩
    have hPb : ∀ w0, Calls Try.prog 61 #[.int .i64 l[k]] w0 fun r w' => r = .returned (.int .i64 (pubM l[k])) ∧ Below w0.heap.size w0 w' := fun w0 => (specPub l[k] w0 hx).mono fun r w' h => ⟨h.1, h.2 ▸ Below.refl _ _⟩
    have hml : m.length ≤ 400 := by rw [HM.out]; have := roKs_len (l.take k); rw [List.length_take] at this; omega
    have hPt : ∀ w0, Hid (KpRo w w.heap.size GA z am nm cm m w0) → Calls Try.prog 60 #[.slice am nm cm, .int .i64 (pubM l[k])] w0 fun r w' => ∃ a' c', r = .returned (.slice a' (putL m (pubM l[k])).length c') ∧ AI w' a' (putL m (pubM l[k])) ∧ (putL m (pubM l[k])).length ≤ c' ∧ (a' = none → c' = 0) ∧ (∀ y, a' = some y → y.spot = none) ∧ (a' = am ∨ ∀ y, a' = some y → w0.heap.size ≤ y.block) ∧ Below w0.heap.size w0 w' := fun w0 hh => specPutL am cm nm m _ w0 hh.out.ln hh.out.ai (by have := hh.out.ln; omega) hh.out.lc hh.out.nl hh.out.sp
    have HMn : Hid (putL m (pubM l[k]) = roKs (l.take (k + 1))) := by show _ = _; rw [roKs_next hkl, HM.out]
    have HTn : Hid (∀ j (hj : j < l.length), j < k + 1 → IsSec l[j]) := fun j hj hjk => by
      by_cases hjk2 : j < k
      · exact HT.out j hj hjk2
      · obtain rfl : j = k := by omega
        exact hs
    rw [secB_yes hs] at hG
    clear hx hs HM HT
    obtain ⟨x, hxe⟩ : ∃ x, l[k] = x := ⟨_, rfl⟩
    have HXl : Hid (∃ hk : k < l.length, l[k] = x) := ⟨hkl, hxe⟩
    rw [hxe] at hc hG hPb hPt HMn
    clear hxe
    generalize pubM x = Y at *
    go_wp2_with (go_at_call 59; with_reducible refine (hG _).mono ?_; rintro r w' ⟨rfl, rfl⟩)
    refine wp_region_held_drew (S := fun w' => w'.cell? ⟨b, o + k, none⟩ = some (.int .i64 x)) (by kernel_rfl) (sec_ro HAI (KpRo.drew HS) HXl) (fun hHeld => ?_)
    refine wpAnyH_take (i := 0) (oi := ⟨_, _, _, _, _, _⟩) (v := .pointer (some ⟨GA, 1, none⟩)) rfl (by kernel_rfl) (by kernel_rfl) (by kernel_rfl) (fun _ _ _ h => h) (Or.inl ⟨wanted_free rfl, fun w' hSw => ?_⟩) hHeld ?_
    · go_simp
    try simp only [Act.put, List.setIfInBounds_toArray, List.set_cons_zero, List.set_cons_succ]
    refine wpAnyH_take (i := 2) (oi := ⟨_, _, _, _, _, _⟩) (v := .slice (some ⟨b, o, none⟩) n c) rfl (by kernel_rfl) (by kernel_rfl) (by kernel_rfl) (fun _ _ _ h => h) (Or.inl ⟨wanted_free rfl, fun w' hSw => ?_⟩) hHeld ?_
    · go_simp
    try simp only [Act.put, List.setIfInBounds_toArray, List.set_cons_zero, List.set_cons_succ]
    refine wpAnyH_take (i := 3) (oi := ⟨_, _, _, _, _, _⟩) (v := .int .i64 (k : Int)) rfl (by kernel_rfl) (by kernel_rfl) (by kernel_rfl) (fun _ _ _ h => h) (Or.inl ⟨wanted_free rfl, fun w' hSw => ?_⟩) hHeld ?_
    · go_simp
    try simp only [Act.put, List.setIfInBounds_toArray, List.set_cons_zero, List.set_cons_succ]
    refine wpAnyH_take (i := 4) (oi := ⟨_, _, _, _, _, _⟩) (v := .pointer (some ⟨b, o + k, none⟩)) rfl (by kernel_rfl) (by kernel_rfl) (by kernel_rfl) (fun _ _ _ h => h) (Or.inl ⟨wanted_free rfl, fun w' hSw => ?_⟩) hHeld ?_
    · go_simp
    try simp only [Act.put, List.setIfInBounds_toArray, List.set_cons_zero, List.set_cons_succ]
    refine wpAnyH_take (i := 5) (oi := ⟨_, _, _, _, _, _⟩) (v := .int .i64 x) rfl (by kernel_rfl) (by kernel_rfl) (by kernel_rfl) (fun _ _ _ h => h) (Or.inl ⟨wanted_free rfl, fun w' hSw => ?_⟩) hHeld ?_
    · have hSc := hSw
      go_simp
    try simp only [Act.put, List.setIfInBounds_toArray, List.set_cons_zero, List.set_cons_succ]
    have HSW := KpRo.drew HS
    generalize wr.drew = W at *
    clear HS
    refine wpAnyH_ready (rs := [1, 6]) (by kernel_rfl) (by simp) (AllReadyH.cons (o := ⟨_, _, _, _, _, _⟩) rfl (fun K hK => ?_) (AllReadyH.cons (o := ⟨_, _, _, _, _, _⟩) rfl (fun K hK => ?_) AllReadyH.nil))
    · as_aux_lemma =>
      rewrite [if_pos (wanted_free rfl)]
      with_reducible refine wp_load1 50 2 (.tmp 26) (by with_unfolding_all rfl) GA 1 (.slice am nm cm) (by with_unfolding_all rfl) (KpRo.cell HSW).2 Try.underlying50 ?_
      refine hK.out _ _ (sec_ro HAI HSW HXl) (fun _ => ?_)
      clear hK K
      try simp only [Act.put, List.setIfInBounds_toArray, List.set_cons_zero, List.set_cons_succ]
      refine wpAnyH_ready (rs := [6]) (by kernel_rfl) (by simp) (AllReadyH.cons (o := ⟨_, _, _, _, _, _⟩) rfl (fun K hK => ?_) AllReadyH.nil)
      rewrite [if_pos (wanted_free rfl)]
      go_simp
      refine (hPb W).mono ?_
      rintro e Wc ⟨rfl, hBWc⟩
      have HSWc := KpRo.call HSW hBWc
      go_wp2_with fail
      refine hK.out _ _ (sec_ro HAI HSWc HXl) (fun _ => ?_)
      clear hK K
      try simp only [Act.put, List.setIfInBounds_toArray, List.set_cons_zero, List.set_cons_succ]
      refine wpAnyH_ready (rs := [7]) (by kernel_rfl) (by simp) (AllReadyH.cons (o := ⟨_, _, _, _, _, _⟩) rfl (fun K hK => ?_) AllReadyH.nil)
      rewrite [if_pos (wanted_free rfl)]
      go_simp
      refine (hPt Wc HSWc).mono ?_
      rintro e wp ⟨a7, c7, rfl, hi7, hl7, hn7, hs7, hb7, hB7⟩
      have HSp := KpRo.call HSWc hB7
      go_wp2_with fail
      refine hK.out _ _ (sec_ro HAI HSp HXl) (fun hHeld => ?_)
      clear hK K
      try simp only [Act.put, List.setIfInBounds_toArray, List.set_cons_zero, List.set_cons_succ]
      refine wpAnyH_take (i := 8) (oi := ⟨_, _, _, _, _, _⟩) (v := .pointer (some ⟨GA, 1, none⟩)) rfl (by kernel_rfl) (by kernel_rfl) (by kernel_rfl) (fun _ _ _ h => h) (Or.inl ⟨wanted_free rfl, fun w' hSw => ?_⟩) (sec_ro HAI HSp HXl) ?_
      · go_simp
      try simp only [Act.put, List.setIfInBounds_toArray, List.set_cons_zero, List.set_cons_succ]
      refine wpAnyH_ready (rs := [9]) (by kernel_rfl) (by simp) (AllReadyH.cons (o := ⟨_, _, _, _, _, _⟩) rfl (fun K hK => ?_) AllReadyH.nil)
      rewrite [if_pos (wanted_free rfl)]
      with_reducible refine wp_cellO 50 (.tmp 34) (.tmp 33) (by with_unfolding_all rfl) GA 1 (rlw z (.slice am nm cm)) (rlw z (.slice a7 (putL m Y).length c7)) (.slice a7 (putL m Y).length c7) (by with_unfolding_all rfl) (by with_unfolding_all rfl) rfl Try.size1Is (KpRo.r5H HSp) (by simp [rlw]) (by with_unfolding_all rfl) ?_
      intro wz hAz hOz
      have HSz := KpRo.put HSWc hB7 hi7 rfl hl7 hn7 hs7 hb7 hAz hOz
      refine hK.out _ _ (sec_ro HAI HSz HXl) (fun _ => ?_)
      clear hK K
      refine wpAnyH_done (by kernel_rfl) ?_ _
      clear HSW HSWc HSp
      go_wp2
      go_roundw
      case rel => exact ⟨k + 1, _, _, _, _, by go_num, by omega, HMn, HTn, HSz⟩
      case measure => simp [intOf]; omega
    · as_aux_lemma =>
      rewrite [if_pos (wanted_free rfl)]
      go_simp
      refine (hPb W).mono ?_
      rintro e Wc ⟨rfl, hBWc⟩
      have HSWc := KpRo.call HSW hBWc
      go_wp2_with fail
      refine hK.out _ _ (sec_ro HAI HSWc HXl) (fun _ => ?_)
      clear hK K
      try simp only [Act.put, List.setIfInBounds_toArray, List.set_cons_zero, List.set_cons_succ]
      refine wpAnyH_ready (rs := [1]) (by kernel_rfl) (by simp) (AllReadyH.cons (o := ⟨_, _, _, _, _, _⟩) rfl (fun K hK => ?_) AllReadyH.nil)
      rewrite [if_pos (wanted_free rfl)]
      with_reducible refine wp_load1 50 2 (.tmp 26) (by with_unfolding_all rfl) GA 1 (.slice am nm cm) (by with_unfolding_all rfl) (KpRo.cell HSWc).2 Try.underlying50 ?_
      refine hK.out _ _ (sec_ro HAI HSWc HXl) (fun _ => ?_)
      clear hK K
      try simp only [Act.put, List.setIfInBounds_toArray, List.set_cons_zero, List.set_cons_succ]
      refine wpAnyH_ready (rs := [7]) (by kernel_rfl) (by simp) (AllReadyH.cons (o := ⟨_, _, _, _, _, _⟩) rfl (fun K hK => ?_) AllReadyH.nil)
      rewrite [if_pos (wanted_free rfl)]
      go_simp
      refine (hPt Wc HSWc).mono ?_
      rintro e wp ⟨a7, c7, rfl, hi7, hl7, hn7, hs7, hb7, hB7⟩
      have HSp := KpRo.call HSWc hB7
      go_wp2_with fail
      refine hK.out _ _ (sec_ro HAI HSp HXl) (fun hHeld => ?_)
      clear hK K
      try simp only [Act.put, List.setIfInBounds_toArray, List.set_cons_zero, List.set_cons_succ]
      refine wpAnyH_take (i := 8) (oi := ⟨_, _, _, _, _, _⟩) (v := .pointer (some ⟨GA, 1, none⟩)) rfl (by kernel_rfl) (by kernel_rfl) (by kernel_rfl) (fun _ _ _ h => h) (Or.inl ⟨wanted_free rfl, fun w' hSw => ?_⟩) (sec_ro HAI HSp HXl) ?_
      · go_simp
      try simp only [Act.put, List.setIfInBounds_toArray, List.set_cons_zero, List.set_cons_succ]
      refine wpAnyH_ready (rs := [9]) (by kernel_rfl) (by simp) (AllReadyH.cons (o := ⟨_, _, _, _, _, _⟩) rfl (fun K hK => ?_) AllReadyH.nil)
      rewrite [if_pos (wanted_free rfl)]
      with_reducible refine wp_cellO 50 (.tmp 34) (.tmp 33) (by with_unfolding_all rfl) GA 1 (rlw z (.slice am nm cm)) (rlw z (.slice a7 (putL m Y).length c7)) (.slice a7 (putL m Y).length c7) (by with_unfolding_all rfl) (by with_unfolding_all rfl) rfl Try.size1Is (KpRo.r5H HSp) (by simp [rlw]) (by with_unfolding_all rfl) ?_
      intro wz hAz hOz
      have HSz := KpRo.put HSWc hB7 hi7 rfl hl7 hn7 hs7 hb7 hAz hOz
      refine hK.out _ _ (sec_ro HAI HSz HXl) (fun _ => ?_)
      clear hK K
      refine wpAnyH_done (by kernel_rfl) ?_ _
      clear HSW HSWc HSp
      go_wp2
      go_roundw
      case rel => exact ⟨k + 1, _, _, _, _, by go_num, by omega, HMn, HTn, HSz⟩
      case measure => simp [intOf]; omega
end Go.Proofs.Ytmahpmjkejnkfaa
