/- RoleOf on the program's side. -/
import Derived.Test.YtmahpmjkejnkfaaRoL
import Derived.Test.YtmahpmjkejnkfaaRlI
namespace Go.Proofs.Ytmahpmjkejnkfaa
open Go.RowKit
set_option linter.unusedVariables false

set_option maxRecDepth 100000 in
theorem implSecs (a : Option Addr) (c n : Nat) (l : List Int) (w : World) (hn : l.length = n) (h : AI w a l) (hb : n ≤ 1000000) (hw : ∀ x ∈ l, I64 x) :
    Calls Try.prog 63 #[.slice a n c] w fun r w' => r = .returned (.bool (l.all secB)) ∧ w' = w := by
  have HN : Hid (l.length = n) := hn
  have HA : Hid (AI w a l) := h
  have HW : Hid (∀ x ∈ l, I64 x) := hw
  have HNo : Hid (∀ k (hk : k < l.length), ¬ IsSec l[k] → l.all secB = false) := fun k hk h => secs_no hk h
  have HYs : Hid ((∀ k (hk : k < l.length), IsSec l[k]) → l.all secB = true) := secs_yes
  generalize l.all secB = R at *
  clear hn h hw
  go_enter Try.func63, Try.ntmps63
  go_wp2_with fail
  go_loopw [7] (fun vi wr => ∃ k : Nat, vi = .int .i64 (k : Int) ∧ k ≤ n ∧ wr = w ∧ Hid (∀ j (hj : j < l.length), j < k → IsSec l[j])) (fun vi _ => n - (intOf vi).toNat)
  case atStart => exact ⟨0, rfl, Nat.zero_le _, rfl, fun j hj h0 => absurd h0 (Nat.not_lt_zero _)⟩
  case round =>
    obtain ⟨k, rfl, hk, rfl, HT⟩ := hrel
    by_cases hlt : k < n
    case neg =>
      obtain rfl : k = n := by omega
      have HF : Hid (R = true) := HYs.out (fun j hj => HT.out j hj (by have := HN.out; omega))
      go_wp2
      go_ret
      exact ⟨retY HF.out.symm, rfl⟩
    have hkl : k < l.length := by have := HN.out; omega
    obtain ⟨b, o, rfl, hc⟩ := HA.out k hkl
    have lk : (k : Int) < n := by omega
    have l0 : (0 : Int) ≤ k := by omega
    have hG : ∀ w0, Calls Try.prog 102 #[.int .i64 l[k]] w0 fun r w' => r = .returned (.bool (secB l[k])) ∧ w0 = w' := fun w0 => (implSec l[k] w0 (HW.out _ (List.getElem_mem hkl))).mono fun r w' h => ⟨h.1, h.2.symm⟩
    have HNo2 := hidP (HNo.out k hkl)
    by_cases hs : IsSec l[k]
    · rw [secB_yes hs] at hG
      have HT2 : Hid (∀ j (hj : j < l.length), j < k + 1 → IsSec l[j]) := fun j hj hjk => by
        by_cases hjk2 : j < k
        · exact HT.out j hj hjk2
        · obtain rfl : j = k := by omega
          exact hs
      clear hs HNo2 HT
      generalize l[k] = x at *
      go_wp2_with (go_at_call 102; with_reducible refine (hG _).mono ?_; rintro r w5 ⟨rfl, rfl⟩)
      go_roundw
      case rel => exact ⟨k + 1, by go_num, by omega, by first | rfl | trivial, HT2⟩
      case measure => simp [intOf]; omega
    · rw [secB_no hs] at hG
      have HF : Hid (R = false) := HNo2.out hs
      clear hs HNo2 HT
      generalize l[k] = x at *
      go_wp2_with (go_at_call 102; with_reducible refine (hG _).mono ?_; rintro r w5 ⟨rfl, rfl⟩)
      go_ret
      exact ⟨retY HF.out.symm, rfl⟩
set_option maxRecDepth 100000 in
set_option maxHeartbeats 2000000 in
theorem implKeys (a : Option Addr) (c n : Nat) (l : List Int) (w : World) (hn : l.length = n) (h : AI w a l) (hb : n ≤ 400) (hw : ∀ x ∈ l, I64 x) :
    Calls Try.prog 64 #[.slice a n c] w fun r w' => ∃ v, r = .returned v ∧ OwnI w' w.heap.size v (roKs l) ∧ Below w.heap.size w w' := by
  have HN : Hid (l.length = n) := hn
  have HA : Hid (AI w a l) := h
  have HW : Hid (∀ x ∈ l, I64 x) := hw
  clear hn h hw
  go_enter Try.func64, Try.ntmps64
  go_wp2_with fail
  go_loopw [3, 8] (fun vk vi wr => ∃ (k : Nat) (v : Value) (m : List Int), v = vk ∧ vi = .int .i64 (k : Int) ∧ k ≤ n ∧ Hid (m = (l.take k).map pubM) ∧ Hid (OwnI wr w.heap.size v m) ∧ Hid (Below w.heap.size w wr)) (fun _ vi _ => n - (intOf vi).toNat)
  case atStart => exact ⟨0, _, [], rfl, rfl, Nat.zero_le _, rfl, ownI_nil, Below.refl _ _⟩
  case round =>
    obtain ⟨k, v, m, rfl, rfl, hk, HM, HO, HB⟩ := hrel
    have hm400 : m.length ≤ 400 := by rw [HM.out, List.length_map, List.length_take]; omega
    by_cases hlt : k < n
    case neg =>
      obtain rfl : k = n := by omega
      have HMe : Hid (m = l.map pubM) := by show _ = _; rw [HM.out, ← HN.out, List.take_length]
      have hSo := implSort v w.heap.size m wr HO.out (by omega) HB.out.size
      have hCo : ∀ w0, OwnI w0 w.heap.size v (m.mergeSort fun x y => decide (x ≤ y)) → w.heap.size ≤ w0.heap.size → Calls Try.prog 105 #[v] w0 fun e w' => ∃ v', e = .returned v' ∧ OwnI w' w.heap.size v' (roKs l) ∧ Below w.heap.size w0 w' := fun w0 h1 h2 => (implCmp v w.heap.size _ w0 h1 (by rw [(List.mergeSort_perm ..).length_eq]; omega) h2).mono (by
        rintro e w' ⟨v', rfl, h3, h4⟩
        rw [sort_strike, HMe.out] at h3
        exact ⟨v', rfl, h3, h4⟩)
      go_wp2_with (first
        | (go_at_call 104; with_reducible refine hSo.mono ?_; rintro r w5 ⟨rfl, hO5, hB5⟩; have O5 := hidP hO5; have B5 := hidP (HB.out.trans hB5); clear hO5 hB5)
        | (go_at_call 105; with_reducible refine (hCo w5 O5.out B5.out.size).mono ?_; rintro r w6 ⟨v6, rfl, hO6, hB6⟩; have O6 := hidP hO6; have B6 := hidP (B5.out.trans hB6); clear hO6 hB6))
      go_ret
      exact ⟨v6, rfl, O6.out, B6.out⟩
    have hkl : k < l.length := by have := HN.out; omega
    obtain ⟨b, o, rfl, hc⟩ := (HA.out.below HB.out) k hkl
    have lk : (k : Int) < n := by omega
    have l0 : (0 : Int) ≤ k := by omega
    have hPb : ∀ w0, Calls Try.prog 103 #[.int .i64 l[k]] w0 fun r w' => r = .returned (.int .i64 (pubM l[k])) ∧ w0 = w' := fun w0 => (implPub l[k] w0 (HW.out _ (List.getElem_mem hkl))).mono fun r w' h => ⟨h.1, h.2.symm⟩
    have HMn : Hid (m ++ [pubM l[k]] = (l.take (k + 1)).map pubM) := by show _ = _; rw [HM.out, List.take_add_one, List.getElem?_eq_getElem hkl, List.map_append]; rfl
    generalize pubM l[k] = Y at *
    generalize l[k] = x at *
    clear HM
    go_wp2_with (first
      | (go_at_call 103; with_reducible refine (hPb _).mono ?_; rintro r w' ⟨rfl, rfl⟩)
      | (with_reducible refine wpList_buildI (w := wr) (by with_unfolding_all rfl) (.tmp 14) (by with_unfolding_all rfl) Y (by with_unfolding_all rfl) ?_; intro w5 hA5 hB5; have O5 := hidP (HO.out.below hB5); have A5 := hidP (ai_one hA5); have B5 := hidP (HB.out.trans (hB5.mono HB.out.size)); clear hA5 hB5)
      | (with_reducible refine wpList_appendI (W := w5) (by with_unfolding_all rfl) (.tmp 12) (.tmp 15) (by with_unfolding_all rfl) w.heap.size v m wr.heap.size 0 1 1 [Y] (by with_unfolding_all rfl) O5.out (by with_unfolding_all rfl) rfl A5.out (by omega) B5.out.size ?_; intro v6 w6 hO6 hG6 hL6; have B6 := hidP (B5.out.trans (O5.out.grown hG6 B5.out.size)); have O6 := hidP hO6; clear hO6 hG6 hL6))
    go_roundw
    case rel => exact ⟨k + 1, v6, m ++ [Y], rfl, by go_num, by omega, HMn, O6, B6⟩
    case measure => simp [intOf]; omega
theorem ro_own {z : Int} {l : List Int} {w : World} {B : Nat} (h : roB z l = false) : OwnI w B (.slice none (roL z l).length 0) (roL z l) := by rw [(ro_no h).2]; exact ownI_nil
theorem ownI_off {w w' : World} {base G : Nat} {v : Value} {l : List Int} (h : OwnI w base v l) (ho : Only G w w') (hn : ∀ k, v.ownBlock = some k → k ≠ G) : OwnI w' base v l := ownI_same h (fun k hk hl => ho.blk k (hn k hk) hl)
set_option maxRecDepth 100000 in
set_option maxHeartbeats 4000000 in
theorem implRoleOf (z : Int) (a : Option Addr) (c n : Nat) (l : List Int) (w : World) (hn : l.length = n) (h : AI w a l) (hb : n ≤ maxLen) (hw : ∀ x ∈ l, I64 x) (hz : I64 z) :
    Calls Try.prog 25 #[.int .i64 z, .slice a n c] w fun r w' => ∃ a' c', r = .returned (.agg #[.int .i64 (roZ z l), .slice a' (roL z l).length c']) ∧ OwnI w' w.heap.size (.slice a' (roL z l).length c') (roL z l) ∧ Below w.heap.size w w' := by
  unfold maxLen at hb
  have HN : Hid (l.length = n) := hn
  have HA : Hid (AI w a l) := h
  have HW : Hid (∀ x ∈ l, I64 x) := hw
  have HLg : Hid (¬ l.length ≤ 400 → roB z l = false) := roB_long
  have HSc : Hid (l.all secB = false → roB z l = false) := roB_sec
  have HIs : Hid (l.length ≤ 400 → l.all secB = true → roB z l = roleB z (roKs l)) := roB_is
  clear hn h hw
  by_cases c1 : 400 < n
  · have d1 : decide ((400 : Int) < (n : Int)) = true := decide_eq_true (by omega)
    have HNo : Hid (roB z l = false) := HLg.out (by have := HN.out; omega)
    go_enter Try.func25, Try.ntmps25
    go_wp2_with (first
      | (with_reducible refine wpList_allocV (w := w) (by with_unfolding_all rfl) 52 (by with_unfolding_all rfl) (rlv 0 none 0 0) Try.infoRlz ?_; intro w1 hA1 hB1 hS1; have z1 : w.heap.size < w1.heap.size := (by omega); clear hS1)
      | (with_reducible refine wpList_storeH (w := w1) (by with_unfolding_all rfl) 52 (.tmp 4) (.tmp 14) (by with_unfolding_all rfl) w.heap.size (rlv 0 none 0 0) (rlv 0 none 0 0) (by with_unfolding_all rfl) (by with_unfolding_all rfl) hA1 2 Try.sizeRl (by with_unfolding_all rfl) (by with_unfolding_all rfl) (rlv_one _ _ _ _) ?_; intro w5 hA5 hB5 hF5 hS5))
    exact bodyPost_ret (results_V (t := 52) rfl _ w.heap.size _ rfl hA5 Try.undRl 2 Try.sizeRl rfl) rfl ⟨none, 0, roRet HNo.out, ro_own HNo.out, (hB1.trans (hB5 _ (Nat.le_refl _)))⟩
  have d1 : decide ((400 : Int) < (n : Int)) = false := decide_eq_false (by omega)
  have hR : ∀ w0, Below w.heap.size w w0 → Calls Try.prog 63 #[.slice a n c] w0 fun r w' => r = .returned (.bool (l.all secB)) ∧ w0 = w' := fun w0 hb0 => (implSecs a c n l w0 HN.out (HA.out.below hb0) (by omega) HW.out).mono fun r w' h => ⟨h.1, h.2.symm⟩
  cases hq : l.all secB with
  | false =>
    have HNo : Hid (roB z l = false) := HSc.out hq
    rw [hq] at hR
    clear hq
    go_enter Try.func25, Try.ntmps25
    go_wp2_with (first
      | (with_reducible refine wpList_allocV (w := w) (by with_unfolding_all rfl) 52 (by with_unfolding_all rfl) (rlv 0 none 0 0) Try.infoRlz ?_; intro w1 hA1 hB1 hS1; have z1 : w.heap.size < w1.heap.size := (by omega); clear hS1)
      | (go_at_call 63; with_reducible refine (hR w1 hB1).mono ?_; rintro r w' ⟨rfl, rfl⟩)
      | (with_reducible refine wpList_storeH (w := w1) (by with_unfolding_all rfl) 52 (.tmp 4) (.tmp 14) (by with_unfolding_all rfl) w.heap.size (rlv 0 none 0 0) (rlv 0 none 0 0) (by with_unfolding_all rfl) (by with_unfolding_all rfl) hA1 2 Try.sizeRl (by with_unfolding_all rfl) (by with_unfolding_all rfl) (rlv_one _ _ _ _) ?_; intro w5 hA5 hB5 hF5 hS5))
    exact bodyPost_ret (results_V (t := 52) rfl _ w.heap.size _ rfl hA5 Try.undRl 2 Try.sizeRl rfl) rfl ⟨none, 0, roRet HNo.out, ro_own HNo.out, (hB1.trans (hB5 _ (Nat.le_refl _)))⟩
  | true =>
  have HBe : Hid (roB z l = roleB z (roKs l)) := HIs.out (by have := HN.out; omega) hq
  rw [hq] at hR
  clear hq HLg HSc HIs
  have hK : ∀ w0, Below w.heap.size w w0 → Calls Try.prog 64 #[.slice a n c] w0 fun r w' => ∃ a5 c5, r = .returned (.slice a5 (roKs l).length c5) ∧ OwnI w' w0.heap.size (.slice a5 (roKs l).length c5) (roKs l) ∧ Below w0.heap.size w0 w' := fun w0 hb0 => (implKeys a c n l w0 HN.out (HA.out.below hb0) (by omega) HW.out).mono (by
    rintro r w' ⟨v, rfl, h1, h2⟩
    obtain ⟨a5, c5, rfl, -, -⟩ := OwnI.form h1
    exact ⟨a5, c5, rfl, h1, h2⟩)
  have hlen := roKs_len l
  obtain ⟨N, hNe⟩ : ∃ N, (roKs l).length = N := ⟨_, rfl⟩
  have hRl : ∀ w0 a5 c5, OwnI w0 w.heap.size (.slice a5 N c5) (roKs l) → Calls Try.prog 65 #[.agg #[.int .i64 z, .slice a5 N c5]] w0 fun r w' => r = .returned (.bool (roleB z (roKs l))) ∧ Below w0.heap.size w0 w' := fun w0 a5 c5 hi => implRole z a5 c5 N (roKs l) w0 hNe (ownI_ai hi) (by have := HN.out; unfold maxLen; omega) (roKs_i64 l)
  rw [hNe] at hK
  clear hlen
  cases hr : roleB z (roKs l) with
  | false =>
    have HNo : Hid (roB z l = false) := by show _ = _; rw [HBe.out, hr]
    rw [hr] at hRl
    clear HBe hr
    go_enter Try.func25, Try.ntmps25
    go_wp2_with (first
      | (with_reducible refine wpList_allocV (w := w) (by with_unfolding_all rfl) 52 (by with_unfolding_all rfl) (rlv 0 none 0 0) Try.infoRlz ?_; intro w1 hA1 hB1 hS1; have z1 : w.heap.size < w1.heap.size := (by omega); clear hS1)
      | (go_at_call 63; with_reducible refine (hR w1 hB1).mono ?_; rintro r w' ⟨rfl, rfl⟩)
      | (go_at_call 64; with_reducible refine (hK w1 hB1).mono ?_; rintro r w2 ⟨a5, c5, rfl, hO2, hB2⟩; have O2 := hidP hO2; have R2 := hA1.below hB2 z1; have B2 := hidP (hB1.trans (hB2.mono (Nat.le_of_lt z1))); have z2 := hB2.size; clear hO2)
      | (with_reducible refine wpList_allocV (w := w2) (by with_unfolding_all rfl) 52 (by with_unfolding_all rfl) (rlv 0 none 0 0) Try.infoRlz ?_; intro w3 hA3 hB3 hS3; have R3 := R2.below hB3 (Nat.lt_of_lt_of_le z1 z2); have O3 := hidP (O2.out.below hB3); clear hS3)
      | (with_reducible refine wpList_storeH (w := w3) (by with_unfolding_all rfl) 52 (.tmp 5) (.tmp 18) (by with_unfolding_all rfl) w2.heap.size (rlv 0 none 0 0) (rlv z a5 N c5) (by with_unfolding_all rfl) (by with_unfolding_all rfl) hA3 2 Try.sizeRl (by with_unfolding_all rfl) (by with_unfolding_all rfl) (rlv_one _ _ _ _) ?_; intro w4 hA4 hB4 hF4 hS4; have oo := Only.set hB4 hF4 hS4; have R4 := oo.row R3 (rlv_ne _ _ _ _) (Nat.ne_of_lt (Nat.lt_of_lt_of_le z1 z2)); have O4 := hidP (ownI_off (ownI_mono O3.out (Nat.le_of_lt z1)) oo (fun k hk => Nat.ne_of_lt (ownI_ge O2.out hk).2)); have K4 := hidP (fun k (hk : (Value.slice a5 N c5).ownBlock = some k) => (ownI_ge O2.out hk).1); have B4 := hidP ((B2.out.trans (hB3.mono B2.out.size)).trans (hB4 _ B2.out.size)); have z4 := hA4.lt (rlv_ne _ _ _ _); obtain ⟨p0, p1⟩ := hA4.rl; clear hF4 hS4 oo hB3 hB4 O2 O3 R2 R3)
      | (go_at_call 65; with_reducible refine (hRl w4 a5 c5 O4.out).mono ?_; rintro r w6 ⟨rfl, hB6⟩; have R6 := hA4.below hB6 z4; have Q6 := R4.below hB6 (R4.lt (rlv_ne _ _ _ _)); have O6 := hidP (O4.out.below hB6); have B6 := hidP (B4.out.trans (hB6.mono B4.out.size)); clear p0 p1 hB6)
      | (with_reducible refine wpList_storeH (w := w6) (by with_unfolding_all rfl) 52 (.tmp 4) (.tmp 22) (by with_unfolding_all rfl) w.heap.size (rlv 0 none 0 0) (rlv 0 none 0 0) (by with_unfolding_all rfl) (by with_unfolding_all rfl) Q6 2 Try.sizeRl (by with_unfolding_all rfl) (by with_unfolding_all rfl) (rlv_one _ _ _ _) ?_; intro wz hAz hBz hFz hSz; have oz := Only.set hBz hFz hSz; have OZ := hidP (ownI_off O6.out oz (fun k hk => Nat.ne_of_gt (Nat.lt_of_lt_of_le z1 (K4.out k hk)))); have BZ := hidP (B6.out.trans (oz.bel (Nat.le_refl _))); clear hBz hFz hSz oz))
    exact bodyPost_ret (results_V (t := 52) rfl _ w.heap.size _ rfl hAz Try.undRl 2 Try.sizeRl rfl) rfl ⟨none, 0, roRet HNo.out, ro_own HNo.out, BZ.out⟩
  | true =>
    have HYes : Hid (roB z l = true) := by show _ = _; rw [HBe.out, hr]
    rw [hr] at hRl
    clear HBe hr
    go_enter Try.func25, Try.ntmps25
    go_wp2_with (first
      | (with_reducible refine wpList_allocV (w := w) (by with_unfolding_all rfl) 52 (by with_unfolding_all rfl) (rlv 0 none 0 0) Try.infoRlz ?_; intro w1 hA1 hB1 hS1; have z1 : w.heap.size < w1.heap.size := (by omega); clear hS1)
      | (go_at_call 63; with_reducible refine (hR w1 hB1).mono ?_; rintro r w' ⟨rfl, rfl⟩)
      | (go_at_call 64; with_reducible refine (hK w1 hB1).mono ?_; rintro r w2 ⟨a5, c5, rfl, hO2, hB2⟩; have O2 := hidP hO2; have R2 := hA1.below hB2 z1; have B2 := hidP (hB1.trans (hB2.mono (Nat.le_of_lt z1))); have z2 := hB2.size; clear hO2)
      | (with_reducible refine wpList_allocV (w := w2) (by with_unfolding_all rfl) 52 (by with_unfolding_all rfl) (rlv 0 none 0 0) Try.infoRlz ?_; intro w3 hA3 hB3 hS3; have R3 := R2.below hB3 (Nat.lt_of_lt_of_le z1 z2); have O3 := hidP (O2.out.below hB3); clear hS3)
      | (with_reducible refine wpList_storeH (w := w3) (by with_unfolding_all rfl) 52 (.tmp 5) (.tmp 18) (by with_unfolding_all rfl) w2.heap.size (rlv 0 none 0 0) (rlv z a5 N c5) (by with_unfolding_all rfl) (by with_unfolding_all rfl) hA3 2 Try.sizeRl (by with_unfolding_all rfl) (by with_unfolding_all rfl) (rlv_one _ _ _ _) ?_; intro w4 hA4 hB4 hF4 hS4; have oo := Only.set hB4 hF4 hS4; have R4 := oo.row R3 (rlv_ne _ _ _ _) (Nat.ne_of_lt (Nat.lt_of_lt_of_le z1 z2)); have O4 := hidP (ownI_off (ownI_mono O3.out (Nat.le_of_lt z1)) oo (fun k hk => Nat.ne_of_lt (ownI_ge O2.out hk).2)); have K4 := hidP (fun k (hk : (Value.slice a5 N c5).ownBlock = some k) => (ownI_ge O2.out hk).1); have B4 := hidP ((B2.out.trans (hB3.mono B2.out.size)).trans (hB4 _ B2.out.size)); have z4 := hA4.lt (rlv_ne _ _ _ _); obtain ⟨p0, p1⟩ := hA4.rl; clear hF4 hS4 oo hB3 hB4 O2 O3 R2 R3)
      | (go_at_call 65; with_reducible refine (hRl w4 a5 c5 O4.out).mono ?_; rintro r w6 ⟨rfl, hB6⟩; have R6 := hA4.below hB6 z4; have Q6 := R4.below hB6 (R4.lt (rlv_ne _ _ _ _)); have O6 := hidP (O4.out.below hB6); have B6 := hidP (B4.out.trans (hB6.mono B4.out.size)); clear p0 p1 hB6)
      | (with_reducible refine wpList_loadV (w := w6) (by with_unfolding_all rfl) 52 (.tmp 5) (by with_unfolding_all rfl) w2.heap.size (rlv z a5 N c5) (by with_unfolding_all rfl) R6 Try.undRl 2 Try.sizeRl (by with_unfolding_all rfl) ?_)
      | (with_reducible refine wpList_storeH (w := w6) (by with_unfolding_all rfl) 52 (.tmp 4) (.tmp 23) (by with_unfolding_all rfl) w.heap.size (rlv 0 none 0 0) (rlv z a5 N c5) (by with_unfolding_all rfl) (by with_unfolding_all rfl) Q6 2 Try.sizeRl (by with_unfolding_all rfl) (by with_unfolding_all rfl) (rlv_one _ _ _ _) ?_; intro wz hAz hBz hFz hSz; have oz := Only.set hBz hFz hSz; have OZ := hidP (ownI_off O6.out oz (fun k hk => Nat.ne_of_gt (Nat.lt_of_lt_of_le z1 (K4.out k hk)))); have BZ := hidP (B6.out.trans (oz.bel (Nat.le_refl _))); clear hBz hFz hSz oz))
    exact bodyPost_ret (results_V (t := 52) rfl _ w.heap.size _ rfl hAz Try.undRl 2 Try.sizeRl rfl) rfl ⟨a5, c5, by rw [(ro_yes HYes.out).1, (ro_yes HYes.out).2, hNe]; rfl, by rw [(ro_yes HYes.out).2, hNe]; exact OZ.out, BZ.out⟩
end Go.Proofs.Ytmahpmjkejnkfaa
