/- What the specification's GetNum answers, for every text and place. The specification's reader: num, bytes, first, done. The specification's reader: bytes, first, done. What the specification's GetText answers, for every text and place. The specification's reader: text, many. -/
import Derived.Test.YtmahpmjkejnkfaaNum
import Derived.Test.YtmahpmjkejnkfaaLnI
import Derived.Test.YtmahpmjkejnkfaaCu2
import Derived.Test.YtmahpmjkejnkfaaTxt
import Derived.WalkSpells
import Derived.Test.YtmahpmjkejnkfaaCu3
namespace Go.Proofs.Ytmahpmjkejnkfaa
open Go.RowKit
set_option linter.unusedVariables false


set_option maxRecDepth 100000 in
set_option maxHeartbeats 1000000 in
theorem specGet (s : ByteArray) (p : Int) (w : World) (hs : s.size ≤ maxLen) (hp : I64 p) :
    Calls Try.prog 113 #[.string s, .int .i64 p] w fun e w' => e = .returned (gv (getN s p)) ∧ Below w.heap.size w w' := by
  unfold maxLen at hs
  by_cases hbig : 20000 < s.size
  · have HR : Hid (gv (getN s p) = gv ⟨0, 0, 2⟩) := by show gv _ = _; unfold getN; rw [if_pos hbig]
    go_enter Try.func113, Try.ntmps113
    go_wp2
    exact bodyPost_ret (v := .agg #[.int .i64 0, .int .i64 0, .int .i64 2]) (by simp [results, Try.results113, go_sem]) rfl ⟨by rw [HR.out]; rfl, (Below.refl _ _).alloc (Nat.le_refl _) _⟩
  by_cases hneg : p < 0
  · have HR : Hid (gv (getN s p) = gv ⟨0, 0, 1⟩) := by show gv _ = _; unfold getN; rw [if_neg hbig, if_pos hneg]
    go_enter Try.func113, Try.ntmps113
    go_wp2
    exact bodyPost_ret (v := .agg #[.int .i64 0, .int .i64 0, .int .i64 1]) (by simp [results, Try.results113, go_sem]) rfl ⟨by rw [HR.out]; rfl, (Below.refl _ _).alloc (Nat.le_refl _) _⟩
  obtain ⟨a, rfl⟩ := Int.eq_ofNat_of_zero_le (show 0 ≤ p by omega)
  have ha : (a : Int) ≤ 9223372036854775807 := hp.bd.2
  have HR : Hid (getN s (a : Int) = scan s a 10 0 0) := by show getN _ _ = _; unfold getN; rw [if_neg hbig, if_neg hneg]; rfl
  have hst := Rd.start s a
  generalize scan s a 10 0 0 = R at *
  clear hp hneg
  go_enter Try.func113, Try.ntmps113
  go_wp2
  go_loop [5, 6] (fun x i => ∃ k u : Nat, i = .int .i64 k ∧ x = .int .u64 u ∧ Rd s a R k u) (fun _ i => 10 - (intOf i).toNat)
  case atStart => exact ⟨0, 0, rfl, rfl, hst⟩
  case round =>
    obtain ⟨k, u, rfl, rfl, hrd⟩ := hrel
    have hk := hrd.1
    have HRd : Hid (Rd s a R k u) := hrd
    clear hrd hst
    by_cases hlt : a + k < s.size
    · obtain ⟨c, hc⟩ : ∃ c : Nat, s[a + k].toNat = c := ⟨_, rfl⟩
      have hc1 : c ≤ 255 := by have := s[a + k].toNat_lt; omega
      have hc2 : (s[a + k].toNat : Int) = (c : Int) := by omega
      have HC : Hid (s[a + k].toNat = c) := hc
      clear hc
      by_cases hbad : 9 ≤ k ∧ 1 < c
      · obtain ⟨hb1, hb2⟩ := hbad
        have HF : Hid (gv (getN s a) = gv ⟨0, 0, 3⟩) := by show gv _ = _; rw [HR.out, HRd.out.last hlt HC.out (by omega), fin_bad (by omega)]
        clear HR HRd
        go_wp2
        exact bodyPost_ret (v := .agg #[.int .i64 0, .int .i64 0, .int .i64 3]) (by simp [results, Try.results113, go_sem]) rfl ⟨by rw [HF.out]; rfl, (Below.refl _ _).alloc (Nat.le_refl _) _⟩
      by_cases h128 : 128 ≤ c
      · have h9 : k < 9 := by omega
        obtain ⟨z, hz⟩ : ∃ z : Nat, (c - 128) * 128 ^ k = z := ⟨_, rfl⟩
        have hsum := HRd.out.sum (d := c - 128) (by omega) (by omega)
        have e1 : IntKind.u64.wrap ((c : Int) % 128 * 2 ^ (7 * k)) = (z : Int) := by
          rw [show (c : Int) % 128 = ((c - 128 : Nat) : Int) by omega, shl_z (by omega), hz]
        have HRd2 : Hid (Rd s a R (k + 1) (u + z)) := by show Rd _ _ _ _ _; rw [← hz]; exact HRd.out.more hlt HC.out h128 (by omega)
        rw [hz] at hsum
        have hsum2 : (u : Int) + (z : Int) ≤ 18446744073709551615 := by omega
        clear hz hsum HRd
        go_wp2
        go_round
        case rel => exact ⟨k + 1, u + z, by go_num, by go_num, HRd2.out⟩
        case measure => simp [intOf]; omega
      have h9c : k = 9 → c ≤ 1 := by omega
      obtain ⟨z, hz⟩ : ∃ z : Nat, c * 128 ^ k = z := ⟨_, rfl⟩
      have hsum := HRd.out.sum (d := c) (by omega) h9c
      have e1 : IntKind.u64.wrap ((c : Int) % 128 * 2 ^ (7 * k)) = (z : Int) := by
        rw [show (c : Int) % 128 = (c : Int) by omega, shl_z (by omega), hz]
      rw [hz] at hsum
      have hsum2 : (u : Int) + (z : Int) ≤ 18446744073709551615 := by omega
      by_cases hz0 : c = 0 ∧ 0 < k
      · have HF : Hid (gv (getN s a) = gv ⟨0, 0, 3⟩) := by show gv _ = _; rw [HR.out, HRd.out.last hlt HC.out (by omega), fin_bad (by omega)]
        have hc0 : c ≤ 0 := by omega
        have hk0 : 0 < k := hz0.2
        clear HR HRd hz hsum hz0
        by_cases hk9 : 9 ≤ k
        all_goals
          clear h9c
          go_wp2
          exact bodyPost_ret (v := .agg #[.int .i64 0, .int .i64 0, .int .i64 3]) (by simp [results, Try.results113, go_sem]) rfl ⟨by rw [HF.out]; rfl, (Below.refl _ _).alloc (Nat.le_refl _) _⟩
      · have HF : Hid (getN s a = ⟨unf (u + z), ((a + k + 1 : Nat) : Int), 0⟩) := by show getN _ _ = _; rw [HR.out, HRd.out.last hlt HC.out (by omega), fin_good (by omega), hz]
        clear HR HRd hz hsum
        have hways : (9 ≤ k ∧ 0 < c ∧ c ≤ 1 ∧ 0 < k) ∨ (k < 9 ∧ 0 < c) ∨ (k < 9 ∧ c ≤ 0 ∧ k ≤ 0) := by omega
        clear hbad h9c hz0
        rcases Nat.mod_two_eq_zero_or_one (u + z) with hpar | hpar
        · have HU := unf_even hpar
          have HU2 : Hid (unf (u + z) = ((u : Int) + (z : Int)) / 2) := by show unf _ = _; rw [HU]; omega
          have hpi : ((u : Int) + (z : Int)) % 2 < 1 := by omega
          clear HU hpar
          rcases hways with ⟨hw1, hw2, hw3, hw4⟩ | ⟨hw1, hw2⟩ | ⟨hw1, hw2, hw3⟩
          all_goals
            try have hb9 : ((k : Int) == 9) = true := beq_iff_eq.2 (by omega)
            go_wp2
            exact bodyPost_ret (v := .agg #[.int .i64 (((u : Int) + (z : Int)) / 2), .int .i64 ((a : Int) + (k : Int) + 1), .int .i64 0]) (by simp [results, Try.results113, go_sem]) rfl ⟨by rw [HF.out]; exact gv_eq HU2.out.symm (by show _ = ((a + k + 1 : Nat) : Int); omega) rfl, (Below.refl _ _).alloc (Nat.le_refl _) _⟩
        · have HU := unf_odd hpar
          have HU2 : Hid (unf (u + z) = -(((u : Int) + (z : Int)) / 2) - 1) := by show unf _ = _; rw [HU]; omega
          have hpi : 1 ≤ ((u : Int) + (z : Int)) % 2 := by omega
          clear HU hpar
          rcases hways with ⟨hw1, hw2, hw3, hw4⟩ | ⟨hw1, hw2⟩ | ⟨hw1, hw2, hw3⟩
          all_goals
            try have hb9 : ((k : Int) == 9) = true := beq_iff_eq.2 (by omega)
            go_wp2
            exact bodyPost_ret (v := .agg #[.int .i64 (-(((u : Int) + (z : Int)) / 2) - 1), .int .i64 ((a : Int) + (k : Int) + 1), .int .i64 0]) (by simp [results, Try.results113, go_sem]) rfl ⟨by rw [HF.out]; exact gv_eq HU2.out.symm (by show _ = ((a + k + 1 : Nat) : Int); omega) rfl, (Below.refl _ _).alloc (Nat.le_refl _) _⟩
    · have HF : Hid (gv (getN s a) = gv ⟨0, 0, 4⟩) := by show gv _ = _; rw [HR.out, HRd.out.short hlt]
      clear HR HRd
      go_wp2
      exact bodyPost_ret (v := .agg #[.int .i64 0, .int .i64 0, .int .i64 4]) (by simp [results, Try.results113, go_sem]) rfl ⟨by rw [HF.out]; rfl, (Below.refl _ _).alloc (Nat.le_refl _) _⟩
end Go.Proofs.Ytmahpmjkejnkfaa
namespace Go.Proofs.Ytmahpmjkejnkfaa
open Go.RowKit
set_option linter.unusedVariables false

def gvr (n b c : Int) : List Value := [.int .i64 n, .int .i64 b, .int .i64 c]
theorem gvr_ne (n b c : Int) : gvr n b c ≠ [] := by simp [gvr]
theorem gvr_one (n b c : Int) : ∀ y ∈ gvr n b c, y.oneCell' = true := by
  intro y hy
  simp [gvr] at hy
  rcases hy with h | h | h <;> (rw [h]; rfl)
theorem RowV.gvr {w : World} {g : Nat} {n b c : Int} (h : RowV w g (gvr n b c)) : w.cell? ⟨g, 0, none⟩ = some (.int .i64 n) ∧ w.cell? ⟨g, 1, none⟩ = some (.int .i64 b) ∧ w.cell? ⟨g, 2, none⟩ = some (.int .i64 c) := ⟨h.cell (k := 0) rfl, h.cell (k := 1) rfl, h.cell (k := 2) rfl⟩
theorem Try.infoNo : (Try.prog.info? 142).map (fun i => i.zero) = some (some (.agg (Go.Proofs.Ytmahpmjkejnkfaa.gvr 0 0 0).toArray)) := by kernel_rfl
theorem Try.sizeNo : (Try.prog.info? 142).map (·.size) = some 3 := by kernel_rfl
set_option maxRecDepth 100000 in
set_option maxHeartbeats 1000000 in
theorem spNumBad (g p : Nat) (t : ByteArray) (w : World) (hs : t.size ≤ maxLen) (hp : p ≤ t.size) (bad : Bool) (hb : bad = true ∨ numO t p = none) (h : RowV w g (srv t p bad)) :
    Calls Try.prog 83 #[.pointer (some ⟨g, 0, none⟩)] w fun e w' => e = .returned (.int .i64 0) ∧ RowV w' g (srv t p true) ∧ Only g w w' := by
  obtain ⟨n, b, c, hg, hc⟩ : ∃ n b c, getN t p = ⟨n, b, c⟩ ∧ (bad = true ∨ ¬ c = 0) := by
    rcases hb with hb | hb
    · exact ⟨(getN t p).n, (getN t p).behind, (getN t p).code, rfl, Or.inl hb⟩
    · obtain ⟨c, hc, hg⟩ := numO_none hb
      exact ⟨0, 0, c, hg, Or.inr hc⟩
  have hN : ∀ w0, Calls Try.prog 113 #[.string t, .int .i64 (p : Int)] w0 fun e w' => e = .returned (.agg #[.int .i64 n, .int .i64 b, .int .i64 c]) ∧ Below w0.heap.size w0 w' := fun w0 => by
    have := specGet t p w0 hs (i64n (by unfold maxLen at hs; omega))
    rw [hg] at this
    exact this
  clear hg hb
  cases bad with
  | true =>
    go_enter Try.func83, Try.ntmps83
    go_wp2_with fail
    refine wp_region_held_drew (S := fun w' => w'.cell? ⟨g, 0, none⟩ = some (.string t) ∧ w'.cell? ⟨g, 1, none⟩ = some (.int .i64 (p : Int)) ∧ w'.cell? ⟨g, 2, none⟩ = some (.bool true)) (by kernel_rfl) h.drew.sr (fun hHeld => ?_)
    refine wpAnyH_take (i := 0) (oi := ⟨_, _, _, _, _, _⟩) (v := .pointer (some ⟨g, 0, none⟩)) rfl (by kernel_rfl) (by kernel_rfl) (by kernel_rfl) (fun _ _ _ h => h) (Or.inl ⟨wanted_free rfl, fun w' hSw => ?_⟩) hHeld ?_
    · obtain ⟨s0, s1, s2⟩ := hSw
      go_simp
    try simp only [Act.put, List.setIfInBounds_toArray, List.set_cons_zero, List.set_cons_succ]
    refine wpAnyH_take (i := 1) (oi := ⟨_, _, _, _, _, _⟩) (v := .pointer (some ⟨g, 0, none⟩)) rfl (by kernel_rfl) (by kernel_rfl) (by kernel_rfl) (fun _ _ _ h => h) (Or.inl ⟨wanted_free rfl, fun w' hSw => ?_⟩) hHeld ?_
    · obtain ⟨s0, s1, s2⟩ := hSw
      go_simp
    try simp only [Act.put, List.setIfInBounds_toArray, List.set_cons_zero, List.set_cons_succ]
    refine wpAnyH_take (i := 2) (oi := ⟨_, _, _, _, _, _⟩) (v := .pointer (some ⟨g, 0, none⟩)) rfl (by kernel_rfl) (by kernel_rfl) (by kernel_rfl) (fun _ _ _ h => h) (Or.inl ⟨wanted_free rfl, fun w' hSw => ?_⟩) hHeld ?_
    · obtain ⟨s0, s1, s2⟩ := hSw
      go_simp
    try simp only [Act.put, List.setIfInBounds_toArray, List.set_cons_zero, List.set_cons_succ]
    refine wpAnyH_take (i := 3) (oi := ⟨_, _, _, _, _, _⟩) (v := .string t) rfl (by kernel_rfl) (by kernel_rfl) (by kernel_rfl) (fun _ _ _ h => h) (Or.inl ⟨wanted_free rfl, fun w' hSw => ?_⟩) hHeld ?_
    · obtain ⟨s0, s1, s2⟩ := hSw
      go_simp
    try simp only [Act.put, List.setIfInBounds_toArray, List.set_cons_zero, List.set_cons_succ]
    refine wpAnyH_take (i := 4) (oi := ⟨_, _, _, _, _, _⟩) (v := .pointer (some ⟨g, 0, none⟩)) rfl (by kernel_rfl) (by kernel_rfl) (by kernel_rfl) (fun _ _ _ h => h) (Or.inl ⟨wanted_free rfl, fun w' hSw => ?_⟩) hHeld ?_
    · obtain ⟨s0, s1, s2⟩ := hSw
      go_simp
    try simp only [Act.put, List.setIfInBounds_toArray, List.set_cons_zero, List.set_cons_succ]
    refine wpAnyH_take (i := 5) (oi := ⟨_, _, _, _, _, _⟩) (v := .pointer (some ⟨g, 0, none⟩)) rfl (by kernel_rfl) (by kernel_rfl) (by kernel_rfl) (fun _ _ _ h => h) (Or.inl ⟨wanted_free rfl, fun w' hSw => ?_⟩) hHeld ?_
    · obtain ⟨s0, s1, s2⟩ := hSw
      go_simp
    try simp only [Act.put, List.setIfInBounds_toArray, List.set_cons_zero, List.set_cons_succ]
    refine wpAnyH_take (i := 6) (oi := ⟨_, _, _, _, _, _⟩) (v := .pointer (some ⟨g, 1, none⟩)) rfl (by kernel_rfl) (by kernel_rfl) (by kernel_rfl) (fun _ _ _ h => h) (Or.inl ⟨wanted_free rfl, fun w' hSw => ?_⟩) hHeld ?_
    · obtain ⟨s0, s1, s2⟩ := hSw
      go_simp
    try simp only [Act.put, List.setIfInBounds_toArray, List.set_cons_zero, List.set_cons_succ]
    refine wpAnyH_take (i := 7) (oi := ⟨_, _, _, _, _, _⟩) (v := .int .i64 (p : Int)) rfl (by kernel_rfl) (by kernel_rfl) (by kernel_rfl) (fun _ _ _ h => h) (Or.inl ⟨wanted_free rfl, fun w' hSw => ?_⟩) hHeld ?_
    · obtain ⟨s0, s1, s2⟩ := hSw
      go_simp
    try simp only [Act.put, List.setIfInBounds_toArray, List.set_cons_zero, List.set_cons_succ]
    have HKW := KpM.drew (KpM.start h (srv_ne _ _ _))
    generalize w.drew = W at *
    clear hHeld h
    refine wpAnyH_ready (rs := [8, 9]) (by kernel_rfl) (by simp) (AllReadyH.cons (o := ⟨_, _, _, _, _, _⟩) rfl (fun K hK => ?_) (AllReadyH.cons (o := ⟨_, _, _, _, _, _⟩) rfl (fun K hK => ?_) AllReadyH.nil))
    · as_aux_lemma =>
      rewrite [if_pos (wanted_free rfl)]
      go_simp
      refine (hN W).mono ?_
      rintro e Wc ⟨rfl, hBWc⟩
      have HKWc := KpM.call HKW hBWc
      go_wp2_with fail
      refine hK.out _ _ (KpM.rowH HKWc).sr (fun _ => ?_)
      clear hK K
      try simp only [Act.put, List.setIfInBounds_toArray, List.set_cons_zero, List.set_cons_succ]
      refine wpAnyH_ready (rs := [9]) (by kernel_rfl) (by simp) (AllReadyH.cons (o := ⟨_, _, _, _, _, _⟩) rfl (fun K hK => ?_) AllReadyH.nil)
      rewrite [if_pos (wanted_free rfl)]
      with_reducible refine wp_allocV 142 (by with_unfolding_all rfl) (gvr 0 0 0) Try.infoNo ?_
      intro Wca hAWca hBWca
      have HKWca := KpM.new HKWc hAWca (gvr_ne _ _ _) hBWca
      refine hK.out _ _ (KpM.rowH HKWca).sr (fun _ => ?_)
      clear hK K
      try simp only [Act.put, List.setIfInBounds_toArray, List.set_cons_zero, List.set_cons_succ]
      refine wpAnyH_ready (rs := [10]) (by kernel_rfl) (by simp) (AllReadyH.cons (o := ⟨_, _, _, _, _, _⟩) rfl (fun K hK => ?_) AllReadyH.nil)
      rewrite [if_pos (wanted_free rfl)]
      with_reducible refine wp_storeV 142 (.tmp 3) (.tmp 12) (by with_unfolding_all rfl) Wc.heap.size (gvr 0 0 0) (gvr n b c) (by with_unfolding_all rfl) (by with_unfolding_all rfl) (KpM.get HKWca (List.mem_cons_self ..)) 3 Try.sizeNo (by with_unfolding_all rfl) (by with_unfolding_all rfl) (gvr_one _ _ _) ?_
      intro wf hAf hOf
      have HKf := KpM.put HKWca (fun x hx => by cases hx) hAf (gvr_ne _ _ _) hOf
      refine hK.out _ _ (KpM.rowH HKf).sr (fun _ => ?_)
      clear hK K
      refine wpAnyH_done (by kernel_rfl) ?_ _
      generalize Wc.heap.size = GA at *
      obtain ⟨r0, r1, r2⟩ := (KpM.rowH HKf).sr
      obtain ⟨x0, x1, x2⟩ := (KpM.get HKf (List.mem_cons_self ..)).gvr
      clear HKW HKWc HKWca
      go_wp2_with (first
        | (with_reducible refine wpList_cellB (w := wf) (by with_unfolding_all rfl) 4 (.tmp 24) (.const (.bool true)) (by with_unfolding_all rfl) g 2 (srv t p true) (srv t p true) true (by with_unfolding_all rfl) (by with_unfolding_all rfl) Try.siz1B (KpM.rowH HKf) (by simp [srv]) (by with_unfolding_all rfl) ?_; intro wz hAz hBz hFz hSz; have Oz := HKf.out.only.trans (Only.set hBz hFz hSz)))
      go_ret
      exact ⟨rfl, hAz, Oz⟩
    · as_aux_lemma =>
      rewrite [if_pos (wanted_free rfl)]
      with_reducible refine wp_allocV 142 (by with_unfolding_all rfl) (gvr 0 0 0) Try.infoNo ?_
      intro Wa hAWa hBWa
      have HKWa := KpM.new HKW hAWa (gvr_ne _ _ _) hBWa
      refine hK.out _ _ (KpM.rowH HKWa).sr (fun _ => ?_)
      clear hK K
      try simp only [Act.put, List.setIfInBounds_toArray, List.set_cons_zero, List.set_cons_succ]
      refine wpAnyH_ready (rs := [8]) (by kernel_rfl) (by simp) (AllReadyH.cons (o := ⟨_, _, _, _, _, _⟩) rfl (fun K hK => ?_) AllReadyH.nil)
      rewrite [if_pos (wanted_free rfl)]
      go_simp
      refine (hN Wa).mono ?_
      rintro e Wac ⟨rfl, hBWac⟩
      have HKWac := KpM.call HKWa hBWac
      go_wp2_with fail
      refine hK.out _ _ (KpM.rowH HKWac).sr (fun _ => ?_)
      clear hK K
      try simp only [Act.put, List.setIfInBounds_toArray, List.set_cons_zero, List.set_cons_succ]
      refine wpAnyH_ready (rs := [10]) (by kernel_rfl) (by simp) (AllReadyH.cons (o := ⟨_, _, _, _, _, _⟩) rfl (fun K hK => ?_) AllReadyH.nil)
      rewrite [if_pos (wanted_free rfl)]
      with_reducible refine wp_storeV 142 (.tmp 3) (.tmp 12) (by with_unfolding_all rfl) W.heap.size (gvr 0 0 0) (gvr n b c) (by with_unfolding_all rfl) (by with_unfolding_all rfl) (KpM.get HKWac (List.mem_cons_self ..)) 3 Try.sizeNo (by with_unfolding_all rfl) (by with_unfolding_all rfl) (gvr_one _ _ _) ?_
      intro wf hAf hOf
      have HKf := KpM.put HKWac (fun x hx => by cases hx) hAf (gvr_ne _ _ _) hOf
      refine hK.out _ _ (KpM.rowH HKf).sr (fun _ => ?_)
      clear hK K
      refine wpAnyH_done (by kernel_rfl) ?_ _
      generalize W.heap.size = GA at *
      obtain ⟨r0, r1, r2⟩ := (KpM.rowH HKf).sr
      obtain ⟨x0, x1, x2⟩ := (KpM.get HKf (List.mem_cons_self ..)).gvr
      clear HKW HKWa HKWac
      go_wp2_with (first
        | (with_reducible refine wpList_cellB (w := wf) (by with_unfolding_all rfl) 4 (.tmp 24) (.const (.bool true)) (by with_unfolding_all rfl) g 2 (srv t p true) (srv t p true) true (by with_unfolding_all rfl) (by with_unfolding_all rfl) Try.siz1B (KpM.rowH HKf) (by simp [srv]) (by with_unfolding_all rfl) ?_; intro wz hAz hBz hFz hSz; have Oz := HKf.out.only.trans (Only.set hBz hFz hSz)))
      go_ret
      exact ⟨rfl, hAz, Oz⟩
  | false =>
    have hc' : ¬ c = 0 := hc.elim (fun h => by cases h) id
    have e1 : (c == 0) = false := beq_eq_false_iff_ne.2 hc'
    clear hc
    go_enter Try.func83, Try.ntmps83
    go_wp2_with fail
    refine wp_region_held_drew (S := fun w' => w'.cell? ⟨g, 0, none⟩ = some (.string t) ∧ w'.cell? ⟨g, 1, none⟩ = some (.int .i64 (p : Int)) ∧ w'.cell? ⟨g, 2, none⟩ = some (.bool false)) (by kernel_rfl) h.drew.sr (fun hHeld => ?_)
    refine wpAnyH_take (i := 0) (oi := ⟨_, _, _, _, _, _⟩) (v := .pointer (some ⟨g, 0, none⟩)) rfl (by kernel_rfl) (by kernel_rfl) (by kernel_rfl) (fun _ _ _ h => h) (Or.inl ⟨wanted_free rfl, fun w' hSw => ?_⟩) hHeld ?_
    · obtain ⟨s0, s1, s2⟩ := hSw
      go_simp
    try simp only [Act.put, List.setIfInBounds_toArray, List.set_cons_zero, List.set_cons_succ]
    refine wpAnyH_take (i := 1) (oi := ⟨_, _, _, _, _, _⟩) (v := .pointer (some ⟨g, 0, none⟩)) rfl (by kernel_rfl) (by kernel_rfl) (by kernel_rfl) (fun _ _ _ h => h) (Or.inl ⟨wanted_free rfl, fun w' hSw => ?_⟩) hHeld ?_
    · obtain ⟨s0, s1, s2⟩ := hSw
      go_simp
    try simp only [Act.put, List.setIfInBounds_toArray, List.set_cons_zero, List.set_cons_succ]
    refine wpAnyH_take (i := 2) (oi := ⟨_, _, _, _, _, _⟩) (v := .pointer (some ⟨g, 0, none⟩)) rfl (by kernel_rfl) (by kernel_rfl) (by kernel_rfl) (fun _ _ _ h => h) (Or.inl ⟨wanted_free rfl, fun w' hSw => ?_⟩) hHeld ?_
    · obtain ⟨s0, s1, s2⟩ := hSw
      go_simp
    try simp only [Act.put, List.setIfInBounds_toArray, List.set_cons_zero, List.set_cons_succ]
    refine wpAnyH_take (i := 3) (oi := ⟨_, _, _, _, _, _⟩) (v := .string t) rfl (by kernel_rfl) (by kernel_rfl) (by kernel_rfl) (fun _ _ _ h => h) (Or.inl ⟨wanted_free rfl, fun w' hSw => ?_⟩) hHeld ?_
    · obtain ⟨s0, s1, s2⟩ := hSw
      go_simp
    try simp only [Act.put, List.setIfInBounds_toArray, List.set_cons_zero, List.set_cons_succ]
    refine wpAnyH_take (i := 4) (oi := ⟨_, _, _, _, _, _⟩) (v := .pointer (some ⟨g, 0, none⟩)) rfl (by kernel_rfl) (by kernel_rfl) (by kernel_rfl) (fun _ _ _ h => h) (Or.inl ⟨wanted_free rfl, fun w' hSw => ?_⟩) hHeld ?_
    · obtain ⟨s0, s1, s2⟩ := hSw
      go_simp
    try simp only [Act.put, List.setIfInBounds_toArray, List.set_cons_zero, List.set_cons_succ]
    refine wpAnyH_take (i := 5) (oi := ⟨_, _, _, _, _, _⟩) (v := .pointer (some ⟨g, 0, none⟩)) rfl (by kernel_rfl) (by kernel_rfl) (by kernel_rfl) (fun _ _ _ h => h) (Or.inl ⟨wanted_free rfl, fun w' hSw => ?_⟩) hHeld ?_
    · obtain ⟨s0, s1, s2⟩ := hSw
      go_simp
    try simp only [Act.put, List.setIfInBounds_toArray, List.set_cons_zero, List.set_cons_succ]
    refine wpAnyH_take (i := 6) (oi := ⟨_, _, _, _, _, _⟩) (v := .pointer (some ⟨g, 1, none⟩)) rfl (by kernel_rfl) (by kernel_rfl) (by kernel_rfl) (fun _ _ _ h => h) (Or.inl ⟨wanted_free rfl, fun w' hSw => ?_⟩) hHeld ?_
    · obtain ⟨s0, s1, s2⟩ := hSw
      go_simp
    try simp only [Act.put, List.setIfInBounds_toArray, List.set_cons_zero, List.set_cons_succ]
    refine wpAnyH_take (i := 7) (oi := ⟨_, _, _, _, _, _⟩) (v := .int .i64 (p : Int)) rfl (by kernel_rfl) (by kernel_rfl) (by kernel_rfl) (fun _ _ _ h => h) (Or.inl ⟨wanted_free rfl, fun w' hSw => ?_⟩) hHeld ?_
    · obtain ⟨s0, s1, s2⟩ := hSw
      go_simp
    try simp only [Act.put, List.setIfInBounds_toArray, List.set_cons_zero, List.set_cons_succ]
    have HKW := KpM.drew (KpM.start h (srv_ne _ _ _))
    generalize w.drew = W at *
    clear hHeld h
    refine wpAnyH_ready (rs := [8, 9]) (by kernel_rfl) (by simp) (AllReadyH.cons (o := ⟨_, _, _, _, _, _⟩) rfl (fun K hK => ?_) (AllReadyH.cons (o := ⟨_, _, _, _, _, _⟩) rfl (fun K hK => ?_) AllReadyH.nil))
    · as_aux_lemma =>
      rewrite [if_pos (wanted_free rfl)]
      go_simp
      refine (hN W).mono ?_
      rintro e Wc ⟨rfl, hBWc⟩
      have HKWc := KpM.call HKW hBWc
      go_wp2_with fail
      refine hK.out _ _ (KpM.rowH HKWc).sr (fun _ => ?_)
      clear hK K
      try simp only [Act.put, List.setIfInBounds_toArray, List.set_cons_zero, List.set_cons_succ]
      refine wpAnyH_ready (rs := [9]) (by kernel_rfl) (by simp) (AllReadyH.cons (o := ⟨_, _, _, _, _, _⟩) rfl (fun K hK => ?_) AllReadyH.nil)
      rewrite [if_pos (wanted_free rfl)]
      with_reducible refine wp_allocV 142 (by with_unfolding_all rfl) (gvr 0 0 0) Try.infoNo ?_
      intro Wca hAWca hBWca
      have HKWca := KpM.new HKWc hAWca (gvr_ne _ _ _) hBWca
      refine hK.out _ _ (KpM.rowH HKWca).sr (fun _ => ?_)
      clear hK K
      try simp only [Act.put, List.setIfInBounds_toArray, List.set_cons_zero, List.set_cons_succ]
      refine wpAnyH_ready (rs := [10]) (by kernel_rfl) (by simp) (AllReadyH.cons (o := ⟨_, _, _, _, _, _⟩) rfl (fun K hK => ?_) AllReadyH.nil)
      rewrite [if_pos (wanted_free rfl)]
      with_reducible refine wp_storeV 142 (.tmp 3) (.tmp 12) (by with_unfolding_all rfl) Wc.heap.size (gvr 0 0 0) (gvr n b c) (by with_unfolding_all rfl) (by with_unfolding_all rfl) (KpM.get HKWca (List.mem_cons_self ..)) 3 Try.sizeNo (by with_unfolding_all rfl) (by with_unfolding_all rfl) (gvr_one _ _ _) ?_
      intro wf hAf hOf
      have HKf := KpM.put HKWca (fun x hx => by cases hx) hAf (gvr_ne _ _ _) hOf
      refine hK.out _ _ (KpM.rowH HKf).sr (fun _ => ?_)
      clear hK K
      refine wpAnyH_done (by kernel_rfl) ?_ _
      generalize Wc.heap.size = GA at *
      obtain ⟨r0, r1, r2⟩ := (KpM.rowH HKf).sr
      obtain ⟨x0, x1, x2⟩ := (KpM.get HKf (List.mem_cons_self ..)).gvr
      clear HKW HKWc HKWca
      go_wp2_with (first
        | (with_reducible refine wpList_cellB (w := wf) (by with_unfolding_all rfl) 4 (.tmp 24) (.const (.bool true)) (by with_unfolding_all rfl) g 2 (srv t p false) (srv t p true) true (by with_unfolding_all rfl) (by with_unfolding_all rfl) Try.siz1B (KpM.rowH HKf) (by simp [srv]) (by with_unfolding_all rfl) ?_; intro wz hAz hBz hFz hSz; have Oz := HKf.out.only.trans (Only.set hBz hFz hSz)))
      go_ret
      exact ⟨rfl, hAz, Oz⟩
    · as_aux_lemma =>
      rewrite [if_pos (wanted_free rfl)]
      with_reducible refine wp_allocV 142 (by with_unfolding_all rfl) (gvr 0 0 0) Try.infoNo ?_
      intro Wa hAWa hBWa
      have HKWa := KpM.new HKW hAWa (gvr_ne _ _ _) hBWa
      refine hK.out _ _ (KpM.rowH HKWa).sr (fun _ => ?_)
      clear hK K
      try simp only [Act.put, List.setIfInBounds_toArray, List.set_cons_zero, List.set_cons_succ]
      refine wpAnyH_ready (rs := [8]) (by kernel_rfl) (by simp) (AllReadyH.cons (o := ⟨_, _, _, _, _, _⟩) rfl (fun K hK => ?_) AllReadyH.nil)
      rewrite [if_pos (wanted_free rfl)]
      go_simp
      refine (hN Wa).mono ?_
      rintro e Wac ⟨rfl, hBWac⟩
      have HKWac := KpM.call HKWa hBWac
      go_wp2_with fail
      refine hK.out _ _ (KpM.rowH HKWac).sr (fun _ => ?_)
      clear hK K
      try simp only [Act.put, List.setIfInBounds_toArray, List.set_cons_zero, List.set_cons_succ]
      refine wpAnyH_ready (rs := [10]) (by kernel_rfl) (by simp) (AllReadyH.cons (o := ⟨_, _, _, _, _, _⟩) rfl (fun K hK => ?_) AllReadyH.nil)
      rewrite [if_pos (wanted_free rfl)]
      with_reducible refine wp_storeV 142 (.tmp 3) (.tmp 12) (by with_unfolding_all rfl) W.heap.size (gvr 0 0 0) (gvr n b c) (by with_unfolding_all rfl) (by with_unfolding_all rfl) (KpM.get HKWac (List.mem_cons_self ..)) 3 Try.sizeNo (by with_unfolding_all rfl) (by with_unfolding_all rfl) (gvr_one _ _ _) ?_
      intro wf hAf hOf
      have HKf := KpM.put HKWac (fun x hx => by cases hx) hAf (gvr_ne _ _ _) hOf
      refine hK.out _ _ (KpM.rowH HKf).sr (fun _ => ?_)
      clear hK K
      refine wpAnyH_done (by kernel_rfl) ?_ _
      generalize W.heap.size = GA at *
      obtain ⟨r0, r1, r2⟩ := (KpM.rowH HKf).sr
      obtain ⟨x0, x1, x2⟩ := (KpM.get HKf (List.mem_cons_self ..)).gvr
      clear HKW HKWa HKWac
      go_wp2_with (first
        | (with_reducible refine wpList_cellB (w := wf) (by with_unfolding_all rfl) 4 (.tmp 24) (.const (.bool true)) (by with_unfolding_all rfl) g 2 (srv t p false) (srv t p true) true (by with_unfolding_all rfl) (by with_unfolding_all rfl) Try.siz1B (KpM.rowH HKf) (by simp [srv]) (by with_unfolding_all rfl) ?_; intro wz hAz hBz hFz hSz; have Oz := HKf.out.only.trans (Only.set hBz hFz hSz)))
      go_ret
      exact ⟨rfl, hAz, Oz⟩
set_option maxRecDepth 100000 in
set_option maxHeartbeats 1000000 in
theorem spNumYes (g p : Nat) (t : ByteArray) (w : World) (hs : t.size ≤ maxLen) (hp : p ≤ t.size) (b : Nat) (n : Int) (hn : numO t p = some (n, b)) (h : RowV w g (srv t p false)) :
    Calls Try.prog 83 #[.pointer (some ⟨g, 0, none⟩)] w fun e w' => e = .returned (.int .i64 n) ∧ RowV w' g (srv t b false) ∧ Only g w w' := by
  obtain ⟨hg, -, -⟩ := numO_some hn
  have hN : ∀ w0, Calls Try.prog 113 #[.string t, .int .i64 (p : Int)] w0 fun e w' => e = .returned (.agg #[.int .i64 n, .int .i64 (b : Int), .int .i64 0]) ∧ Below w0.heap.size w0 w' := fun w0 => by
    have := specGet t p w0 hs (i64n (by unfold maxLen at hs; omega))
    rw [hg] at this
    exact this
  clear hg hn
  go_enter Try.func83, Try.ntmps83
  go_wp2_with fail
  refine wp_region_held_drew (S := fun w' => w'.cell? ⟨g, 0, none⟩ = some (.string t) ∧ w'.cell? ⟨g, 1, none⟩ = some (.int .i64 (p : Int)) ∧ w'.cell? ⟨g, 2, none⟩ = some (.bool false)) (by kernel_rfl) h.drew.sr (fun hHeld => ?_)
  refine wpAnyH_take (i := 0) (oi := ⟨_, _, _, _, _, _⟩) (v := .pointer (some ⟨g, 0, none⟩)) rfl (by kernel_rfl) (by kernel_rfl) (by kernel_rfl) (fun _ _ _ h => h) (Or.inl ⟨wanted_free rfl, fun w' hSw => ?_⟩) hHeld ?_
  · obtain ⟨s0, s1, s2⟩ := hSw
    go_simp
  try simp only [Act.put, List.setIfInBounds_toArray, List.set_cons_zero, List.set_cons_succ]
  refine wpAnyH_take (i := 1) (oi := ⟨_, _, _, _, _, _⟩) (v := .pointer (some ⟨g, 0, none⟩)) rfl (by kernel_rfl) (by kernel_rfl) (by kernel_rfl) (fun _ _ _ h => h) (Or.inl ⟨wanted_free rfl, fun w' hSw => ?_⟩) hHeld ?_
  · obtain ⟨s0, s1, s2⟩ := hSw
    go_simp
  try simp only [Act.put, List.setIfInBounds_toArray, List.set_cons_zero, List.set_cons_succ]
  refine wpAnyH_take (i := 2) (oi := ⟨_, _, _, _, _, _⟩) (v := .pointer (some ⟨g, 0, none⟩)) rfl (by kernel_rfl) (by kernel_rfl) (by kernel_rfl) (fun _ _ _ h => h) (Or.inl ⟨wanted_free rfl, fun w' hSw => ?_⟩) hHeld ?_
  · obtain ⟨s0, s1, s2⟩ := hSw
    go_simp
  try simp only [Act.put, List.setIfInBounds_toArray, List.set_cons_zero, List.set_cons_succ]
  refine wpAnyH_take (i := 3) (oi := ⟨_, _, _, _, _, _⟩) (v := .string t) rfl (by kernel_rfl) (by kernel_rfl) (by kernel_rfl) (fun _ _ _ h => h) (Or.inl ⟨wanted_free rfl, fun w' hSw => ?_⟩) hHeld ?_
  · obtain ⟨s0, s1, s2⟩ := hSw
    go_simp
  try simp only [Act.put, List.setIfInBounds_toArray, List.set_cons_zero, List.set_cons_succ]
  refine wpAnyH_take (i := 4) (oi := ⟨_, _, _, _, _, _⟩) (v := .pointer (some ⟨g, 0, none⟩)) rfl (by kernel_rfl) (by kernel_rfl) (by kernel_rfl) (fun _ _ _ h => h) (Or.inl ⟨wanted_free rfl, fun w' hSw => ?_⟩) hHeld ?_
  · obtain ⟨s0, s1, s2⟩ := hSw
    go_simp
  try simp only [Act.put, List.setIfInBounds_toArray, List.set_cons_zero, List.set_cons_succ]
  refine wpAnyH_take (i := 5) (oi := ⟨_, _, _, _, _, _⟩) (v := .pointer (some ⟨g, 0, none⟩)) rfl (by kernel_rfl) (by kernel_rfl) (by kernel_rfl) (fun _ _ _ h => h) (Or.inl ⟨wanted_free rfl, fun w' hSw => ?_⟩) hHeld ?_
  · obtain ⟨s0, s1, s2⟩ := hSw
    go_simp
  try simp only [Act.put, List.setIfInBounds_toArray, List.set_cons_zero, List.set_cons_succ]
  refine wpAnyH_take (i := 6) (oi := ⟨_, _, _, _, _, _⟩) (v := .pointer (some ⟨g, 1, none⟩)) rfl (by kernel_rfl) (by kernel_rfl) (by kernel_rfl) (fun _ _ _ h => h) (Or.inl ⟨wanted_free rfl, fun w' hSw => ?_⟩) hHeld ?_
  · obtain ⟨s0, s1, s2⟩ := hSw
    go_simp
  try simp only [Act.put, List.setIfInBounds_toArray, List.set_cons_zero, List.set_cons_succ]
  refine wpAnyH_take (i := 7) (oi := ⟨_, _, _, _, _, _⟩) (v := .int .i64 (p : Int)) rfl (by kernel_rfl) (by kernel_rfl) (by kernel_rfl) (fun _ _ _ h => h) (Or.inl ⟨wanted_free rfl, fun w' hSw => ?_⟩) hHeld ?_
  · obtain ⟨s0, s1, s2⟩ := hSw
    go_simp
  try simp only [Act.put, List.setIfInBounds_toArray, List.set_cons_zero, List.set_cons_succ]
  have HKW := KpM.drew (KpM.start h (srv_ne _ _ _))
  generalize w.drew = W at *
  clear hHeld h
  refine wpAnyH_ready (rs := [8, 9]) (by kernel_rfl) (by simp) (AllReadyH.cons (o := ⟨_, _, _, _, _, _⟩) rfl (fun K hK => ?_) (AllReadyH.cons (o := ⟨_, _, _, _, _, _⟩) rfl (fun K hK => ?_) AllReadyH.nil))
  · as_aux_lemma =>
    rewrite [if_pos (wanted_free rfl)]
    go_simp
    refine (hN W).mono ?_
    rintro e Wc ⟨rfl, hBWc⟩
    have HKWc := KpM.call HKW hBWc
    go_wp2_with fail
    refine hK.out _ _ (KpM.rowH HKWc).sr (fun _ => ?_)
    clear hK K
    try simp only [Act.put, List.setIfInBounds_toArray, List.set_cons_zero, List.set_cons_succ]
    refine wpAnyH_ready (rs := [9]) (by kernel_rfl) (by simp) (AllReadyH.cons (o := ⟨_, _, _, _, _, _⟩) rfl (fun K hK => ?_) AllReadyH.nil)
    rewrite [if_pos (wanted_free rfl)]
    with_reducible refine wp_allocV 142 (by with_unfolding_all rfl) (gvr 0 0 0) Try.infoNo ?_
    intro Wca hAWca hBWca
    have HKWca := KpM.new HKWc hAWca (gvr_ne _ _ _) hBWca
    refine hK.out _ _ (KpM.rowH HKWca).sr (fun _ => ?_)
    clear hK K
    try simp only [Act.put, List.setIfInBounds_toArray, List.set_cons_zero, List.set_cons_succ]
    refine wpAnyH_ready (rs := [10]) (by kernel_rfl) (by simp) (AllReadyH.cons (o := ⟨_, _, _, _, _, _⟩) rfl (fun K hK => ?_) AllReadyH.nil)
    rewrite [if_pos (wanted_free rfl)]
    with_reducible refine wp_storeV 142 (.tmp 3) (.tmp 12) (by with_unfolding_all rfl) Wc.heap.size (gvr 0 0 0) (gvr n (b : Int) 0) (by with_unfolding_all rfl) (by with_unfolding_all rfl) (KpM.get HKWca (List.mem_cons_self ..)) 3 Try.sizeNo (by with_unfolding_all rfl) (by with_unfolding_all rfl) (gvr_one _ _ _) ?_
    intro wf hAf hOf
    have HKf := KpM.put HKWca (fun x hx => by cases hx) hAf (gvr_ne _ _ _) hOf
    refine hK.out _ _ (KpM.rowH HKf).sr (fun _ => ?_)
    clear hK K
    refine wpAnyH_done (by kernel_rfl) ?_ _
    generalize Wc.heap.size = GA at *
    obtain ⟨r0, r1, r2⟩ := (KpM.rowH HKf).sr
    obtain ⟨x0, x1, x2⟩ := (KpM.get HKf (List.mem_cons_self ..)).gvr
    clear HKW HKWc HKWca
    go_wp2_with (first
      | (with_reducible refine wpList_cellH (w := wf) (by with_unfolding_all rfl) 2 (.tmp 29) (.tmp 27) (by with_unfolding_all rfl) g 1 (srv t p false) (srv t b false) (.int .i64 (b : Int)) (by with_unfolding_all rfl) (by with_unfolding_all rfl) rfl Try.siz1I (KpM.rowH HKf) (by simp [srv]) (by with_unfolding_all rfl) ?_; intro wz hAz hBz hFz hSz; have Oz := HKf.out.only.trans (Only.set hBz hFz hSz); obtain ⟨y0, y1, y2⟩ := ((Only.set hBz hFz hSz).row (KpM.get HKf (List.mem_cons_self ..)) (gvr_ne _ _ _) (by have := (HKf.out.own _ (List.mem_cons_self ..)).1; have := HKf.out.lt; simp at *; omega)).gvr))
    go_ret
    exact ⟨rfl, hAz, Oz⟩
  · as_aux_lemma =>
    rewrite [if_pos (wanted_free rfl)]
    with_reducible refine wp_allocV 142 (by with_unfolding_all rfl) (gvr 0 0 0) Try.infoNo ?_
    intro Wa hAWa hBWa
    have HKWa := KpM.new HKW hAWa (gvr_ne _ _ _) hBWa
    refine hK.out _ _ (KpM.rowH HKWa).sr (fun _ => ?_)
    clear hK K
    try simp only [Act.put, List.setIfInBounds_toArray, List.set_cons_zero, List.set_cons_succ]
    refine wpAnyH_ready (rs := [8]) (by kernel_rfl) (by simp) (AllReadyH.cons (o := ⟨_, _, _, _, _, _⟩) rfl (fun K hK => ?_) AllReadyH.nil)
    rewrite [if_pos (wanted_free rfl)]
    go_simp
    refine (hN Wa).mono ?_
    rintro e Wac ⟨rfl, hBWac⟩
    have HKWac := KpM.call HKWa hBWac
    go_wp2_with fail
    refine hK.out _ _ (KpM.rowH HKWac).sr (fun _ => ?_)
    clear hK K
    try simp only [Act.put, List.setIfInBounds_toArray, List.set_cons_zero, List.set_cons_succ]
    refine wpAnyH_ready (rs := [10]) (by kernel_rfl) (by simp) (AllReadyH.cons (o := ⟨_, _, _, _, _, _⟩) rfl (fun K hK => ?_) AllReadyH.nil)
    rewrite [if_pos (wanted_free rfl)]
    with_reducible refine wp_storeV 142 (.tmp 3) (.tmp 12) (by with_unfolding_all rfl) W.heap.size (gvr 0 0 0) (gvr n (b : Int) 0) (by with_unfolding_all rfl) (by with_unfolding_all rfl) (KpM.get HKWac (List.mem_cons_self ..)) 3 Try.sizeNo (by with_unfolding_all rfl) (by with_unfolding_all rfl) (gvr_one _ _ _) ?_
    intro wf hAf hOf
    have HKf := KpM.put HKWac (fun x hx => by cases hx) hAf (gvr_ne _ _ _) hOf
    refine hK.out _ _ (KpM.rowH HKf).sr (fun _ => ?_)
    clear hK K
    refine wpAnyH_done (by kernel_rfl) ?_ _
    generalize W.heap.size = GA at *
    obtain ⟨r0, r1, r2⟩ := (KpM.rowH HKf).sr
    obtain ⟨x0, x1, x2⟩ := (KpM.get HKf (List.mem_cons_self ..)).gvr
    clear HKW HKWa HKWac
    go_wp2_with (first
      | (with_reducible refine wpList_cellH (w := wf) (by with_unfolding_all rfl) 2 (.tmp 29) (.tmp 27) (by with_unfolding_all rfl) g 1 (srv t p false) (srv t b false) (.int .i64 (b : Int)) (by with_unfolding_all rfl) (by with_unfolding_all rfl) rfl Try.siz1I (KpM.rowH HKf) (by simp [srv]) (by with_unfolding_all rfl) ?_; intro wz hAz hBz hFz hSz; have Oz := HKf.out.only.trans (Only.set hBz hFz hSz); obtain ⟨y0, y1, y2⟩ := ((Only.set hBz hFz hSz).row (KpM.get HKf (List.mem_cons_self ..)) (gvr_ne _ _ _) (by have := (HKf.out.own _ (List.mem_cons_self ..)).1; have := HKf.out.lt; simp at *; omega)).gvr))
    go_ret
    exact ⟨rfl, hAz, Oz⟩
/- What num tells, whatever the reader's state. -/
def NumR (t : ByteArray) (p : Nat) (bad : Bool) (n : Int) (p' : Nat) (bad' : Bool) : Prop := p' ≤ t.size ∧ ((bad = false ∧ numO t p = some (n, p') ∧ bad' = false) ∨ ((bad = true ∨ numO t p = none) ∧ bad' = true))
theorem spNum (g p : Nat) (t : ByteArray) (w : World) (hs : t.size ≤ maxLen) (hp : p ≤ t.size) (bad : Bool) (h : RowV w g (srv t p bad)) :
    Calls Try.prog 83 #[.pointer (some ⟨g, 0, none⟩)] w fun e w' => ∃ n p' bad', e = .returned (.int .i64 n) ∧ NumR t p bad n p' bad' ∧ RowV w' g (srv t p' bad') ∧ Only g w w' := by
  by_cases hb : bad = true ∨ numO t p = none
  · refine (spNumBad g p t w hs hp bad hb h).mono ?_
    rintro e w' ⟨rfl, h1, h2⟩
    exact ⟨0, p, true, rfl, ⟨hp, Or.inr ⟨hb, rfl⟩⟩, h1, h2⟩
  · have hb1 : bad = false := by cases bad with
      | true => exact absurd (Or.inl rfl) hb
      | false => rfl
    subst hb1
    cases hn : numO t p with
    | none => exact absurd (Or.inr hn) hb
    | some x =>
      obtain ⟨n, b⟩ := x
      refine (spNumYes g p t w hs hp b n hn h).mono ?_
      rintro e w' ⟨rfl, h1, h2⟩
      exact ⟨n, b, false, rfl, ⟨(numO_some hn).2.1, Or.inl ⟨rfl, hn, rfl⟩⟩, h1, h2⟩
end Go.Proofs.Ytmahpmjkejnkfaa
namespace Go.Proofs.Ytmahpmjkejnkfaa
open Go.RowKit
set_option linter.unusedVariables false

theorem onlyN {g : Nat} {w : World} (n : Nat) : Only g w (w.drewN n) := ⟨belowN (Below.refl _ _) _, fun _ _ _ => rfl, Nat.le_refl _⟩
set_option maxRecDepth 100000 in
set_option maxHeartbeats 1000000 in
theorem spBytesBad (g p m : Nat) (t : ByteArray) (w : World) (hs : t.size ≤ maxLen) (hp : p ≤ t.size) (hm : m ≤ 1000) (bad : Bool) (hb : bad = true ∨ t.size < p + m) (h : RowV w g (srv t p bad)) :
    Calls Try.prog 92 #[.pointer (some ⟨g, 0, none⟩), .int .i64 (m : Int)] w fun e w' => e = .returned (.string ⟨#[]⟩) ∧ RowV w' g (srv t p true) ∧ Only g w w' := by
  unfold maxLen at hs
  obtain ⟨c0, c1, c2⟩ := h.sr
  have HR : Hid (RowV w g (srv t p bad)) := h
  clear h
  obtain ⟨d, hd⟩ : ∃ d : Int, (t.size : Int) - (m : Int) = d := ⟨_, rfl⟩
  have ed : IntKind.i64.wrap d = d := by rw [IntKind.wrap_i64]; omega
  cases bad with
  | true =>
    clear hb
    go_enter Try.func92, Try.ntmps92
    go_wp2_with fail
    go_quiet (fail)
    have R1 : RowV (w.drewN nq) g (srv t p true) := HR.out.drewN _
    have O1 : Only g w (w.drewN nq) := onlyN _
    clear HR c0 c1 c2
    generalize w.drewN nq = w1 at *
    go_wp2_with (first
      | (with_reducible refine wpList_cellB (w := w1) (by with_unfolding_all rfl) 4 (.tmp 25) (.const (.bool true)) (by with_unfolding_all rfl) g 2 (srv t p true) (srv t p true) true (by with_unfolding_all rfl) (by with_unfolding_all rfl) Try.siz1B R1 (by simp [srv]) (by with_unfolding_all rfl) ?_; intro wz hAz hBz hFz hSz; have Oz := O1.trans (Only.set hBz hFz hSz)))
    go_ret
    exact ⟨rfl, hAz, Oz⟩
  | false =>
    have hb' : t.size < p + m := hb.elim (fun h => by cases h) id
    have d1 : decide (d < (p : Int)) = true := decide_eq_true (by omega)
    clear hb
    go_enter Try.func92, Try.ntmps92
    go_wp2_with fail
    go_quiet (fail)
    have R1 : RowV (w.drewN nq) g (srv t p false) := HR.out.drewN _
    have O1 : Only g w (w.drewN nq) := onlyN _
    clear HR c0 c1 c2
    generalize w.drewN nq = w1 at *
    go_wp2_with (first
      | (with_reducible refine wpList_cellB (w := w1) (by with_unfolding_all rfl) 4 (.tmp 25) (.const (.bool true)) (by with_unfolding_all rfl) g 2 (srv t p false) (srv t p true) true (by with_unfolding_all rfl) (by with_unfolding_all rfl) Try.siz1B R1 (by simp [srv]) (by with_unfolding_all rfl) ?_; intro wz hAz hBz hFz hSz; have Oz := O1.trans (Only.set hBz hFz hSz)))
    go_ret
    exact ⟨rfl, hAz, Oz⟩
set_option maxRecDepth 100000 in
set_option maxHeartbeats 1000000 in
theorem spBytesYes (g p m q : Nat) (t : ByteArray) (w : World) (hs : t.size ≤ maxLen) (hq : p + m = q) (hm : q ≤ t.size) (h : RowV w g (srv t p false)) :
    Calls Try.prog 92 #[.pointer (some ⟨g, 0, none⟩), .int .i64 (m : Int)] w fun e w' => e = .returned (.string (t.extract p q)) ∧ RowV w' g (srv t q false) ∧ Only g w w' := by
  unfold maxLen at hs
  obtain ⟨c0, c1, c2⟩ := h.sr
  have HR : Hid (RowV w g (srv t p false)) := h
  clear h
  obtain ⟨d, hd⟩ : ∃ d : Int, (t.size : Int) - (m : Int) = d := ⟨_, rfl⟩
  have ed : IntKind.i64.wrap d = d := by rw [IntKind.wrap_i64]; omega
  have d1 : decide (d < (p : Int)) = false := decide_eq_false (by omega)
  have e1 : (p : Int) + (m : Int) = (q : Int) := by omega
  have e2 : (q : Int) - (m : Int) = (p : Int) := by omega
  have e3 : IntKind.i64.wrap (p : Int) = (p : Int) := by rw [IntKind.wrap_i64]; omega
  obtain ⟨x, hx⟩ : ∃ x, t.extract p q = x := ⟨_, rfl⟩
  have hsl : ∀ w0 : World, (Instr.slice 9 (.string t) (some (.int .i64 (p : Int))) (some (.int .i64 (q : Int))) none).run Try.prog w0 = .ok (.string x) w0 := by
    intro w0
    rw [run_slice_string_if w0 9 t .i64 .i64 p q Try.underlying9, if_pos ⟨by omega, by omega⟩, if_pos ⟨by omega, by omega⟩, ← hx]
    simp
  rw [hx]
  clear hx
  go_enter Try.func92, Try.ntmps92
  go_wp2_with fail
  go_quiet (fail)
  have R1 : RowV (w.drewN nq) g (srv t p false) := HR.out.drewN _
  have O1 : Only g w (w.drewN nq) := onlyN _
  clear HR c0 c1 c2
  generalize w.drewN nq = w1 at *
  obtain ⟨c0, c1, c2⟩ := R1.sr
  go_wp2_with (first
    | (with_reducible refine wpList_cellH (w := w1) (by with_unfolding_all rfl) 2 (.tmp 34) (.tmp 32) (by with_unfolding_all rfl) g 1 (srv t p false) (srv t q false) (.int .i64 (q : Int)) (by with_unfolding_all rfl) (by with_unfolding_all rfl) rfl Try.siz1I R1 (by simp [srv]) (by with_unfolding_all rfl) ?_; intro w2 hA2 hB2 hF2 hS2; have O2 := O1.trans (Only.set hB2 hF2 hS2); clear c0 c1 c2; obtain ⟨c0, c1, c2⟩ := hA2.sr))
  go_quiet (fail)
  have R3 : RowV (w2.drewN nq) g (srv t q false) := hA2.drewN _
  have O3 : Only g w (w2.drewN nq) := O2.trans (onlyN _)
  clear hA2 hB2 hF2 hS2 c0 c1 c2
  generalize w2.drewN nq = w3 at *
  go_wp2
  go_ret
  exact ⟨rfl, R3, O3⟩
/- The first byte, as it must be. -/
def FstR (t : ByteArray) (m : ByteArray) (p' : Nat) (bad' : Bool) : Prop := p' ≤ t.size ∧ ((∃ y, m = ⟨#[y]⟩ ∧ FirstB t y ∧ p' = 1 ∧ bad' = false) ∨ ((¬ ∃ y, m = ⟨#[y]⟩ ∧ FirstB t y) ∧ bad' = true))
theorem one_byte (t : ByteArray) (h : 1 ≤ t.size) : ∃ y, t.extract 0 1 = ⟨#[y]⟩ := by
  refine ⟨t[0], ?_⟩
  apply ByteArray.ext
  apply Array.ext
  · simp; omega
  · intro i h1 h2
    have : i = 0 := by simp at h2; omega
    subst this
    simp
    rfl
set_option maxRecDepth 100000 in
set_option maxHeartbeats 1000000 in
theorem spFirst (g : Nat) (t m : ByteArray) (w : World) (hs : t.size ≤ maxLen) (h : RowV w g (srv t 0 false)) :
    Calls Try.prog 80 #[.pointer (some ⟨g, 0, none⟩), .string m] w fun e w' => ∃ p' bad', e = .returned (.tuple #[]) ∧ FstR t m p' bad' ∧ RowV w' g (srv t p' bad') ∧ Only g w w' := by
  by_cases h1 : 1 ≤ t.size
  · obtain ⟨y, hy⟩ := one_byte t h1
    have HB : Hid (Calls Try.prog 92 #[.pointer (some ⟨g, 0, none⟩), .int .i64 1] w fun e w' => e = .returned (.string ⟨#[y]⟩) ∧ RowV w' g (srv t 1 false) ∧ Only g w w') := by
      have := spBytesYes g 0 1 1 t w hs rfl h1 h
      rw [hy] at this
      exact this
    by_cases he : m = ⟨#[y]⟩
    · have HF : Hid (FstR t m 1 false) := ⟨h1, Or.inl ⟨y, he, ⟨h1, hy⟩, rfl, rfl⟩⟩
      rw [← he] at HB
      have e1 := txt_eq m
      clear he hy h
      go_enter Try.func80, Try.ntmps80
      go_wp2_with (first
        | (go_at_call 92; refine Calls.mono HB.out ?_; rintro e w1 ⟨rfl, hR1, hO1⟩))
      first | go_end0 | refine bodyPost_ret (results_none rfl _ _ _) rfl ?_
      exact ⟨1, false, rfl, HF.out, hR1, hO1⟩
    · have HF : Hid (FstR t m 1 true) := ⟨h1, Or.inr ⟨fun ⟨z, hz, hf⟩ => he (by rw [hz, ← hf.2, hy]), rfl⟩⟩
      have e1 : ((⟨#[y]⟩ : ByteArray).toList == m.toList) = false := txt_ne (fun e => he e.symm)
      obtain ⟨M, hM⟩ : ∃ M : ByteArray, M = ⟨#[y]⟩ := ⟨_, rfl⟩
      rw [← hM] at HB e1
      clear he hy h hM
      go_enter Try.func80, Try.ntmps80
      go_wp2_with (first
        | (go_at_call 92; refine Calls.mono HB.out ?_; rintro e w1 ⟨rfl, hR1, hO1⟩; obtain ⟨c0, c1, c2⟩ := hR1.sr)
        | (with_reducible refine wpList_cellB (w := w1) (by with_unfolding_all rfl) 4 (.tmp 10) (.const (.bool true)) (by with_unfolding_all rfl) g 2 (srv t 1 false) (srv t 1 true) true (by with_unfolding_all rfl) (by with_unfolding_all rfl) Try.siz1B hR1 (by simp [srv]) (by with_unfolding_all rfl) ?_; intro wz hAz hBz hFz hSz; have Oz := hO1.trans (Only.set hBz hFz hSz)))
      first | go_end0 | refine bodyPost_ret (results_none rfl _ _ _) rfl ?_
      first | exact ⟨1, true, rfl, HF.out, hAz, Oz⟩ | exact ⟨rfl, 1, Or.inr ⟨HF.out, hAz, Oz⟩⟩
  · have HB : Hid (Calls Try.prog 92 #[.pointer (some ⟨g, 0, none⟩), .int .i64 1] w fun e w' => e = .returned (.string ⟨#[]⟩) ∧ RowV w' g (srv t 0 true) ∧ Only g w w') := spBytesBad g 0 1 t w hs (Nat.zero_le _) (by omega) false (Or.inr (by omega)) h
    have HF : Hid (FstR t m 0 true) := ⟨Nat.zero_le _, Or.inr ⟨fun ⟨z, hz, hf⟩ => h1 hf.1, rfl⟩⟩
    clear h
    by_cases he : m = ⟨#[]⟩
    · rw [← he] at HB
      have e1 := txt_eq m
      clear he
      go_enter Try.func80, Try.ntmps80
      go_wp2_with (first
        | (go_at_call 92; refine Calls.mono HB.out ?_; rintro e w1 ⟨rfl, hR1, hO1⟩))
      first | go_end0 | refine bodyPost_ret (results_none rfl _ _ _) rfl ?_
      exact ⟨0, true, rfl, HF.out, hR1, hO1⟩
    · have e1 : ((⟨#[]⟩ : ByteArray).toList == m.toList) = false := txt_ne (fun e => he e.symm)
      obtain ⟨M, hM⟩ : ∃ M : ByteArray, M = ⟨#[]⟩ := ⟨_, rfl⟩
      rw [← hM] at HB e1
      clear he hM
      go_enter Try.func80, Try.ntmps80
      go_wp2_with (first
        | (go_at_call 92; refine Calls.mono HB.out ?_; rintro e w1 ⟨rfl, hR1, hO1⟩; obtain ⟨c0, c1, c2⟩ := hR1.sr)
        | (with_reducible refine wpList_cellB (w := w1) (by with_unfolding_all rfl) 4 (.tmp 10) (.const (.bool true)) (by with_unfolding_all rfl) g 2 (srv t 0 true) (srv t 0 true) true (by with_unfolding_all rfl) (by with_unfolding_all rfl) Try.siz1B hR1 (by simp [srv]) (by with_unfolding_all rfl) ?_; intro wz hAz hBz hFz hSz; have Oz := hO1.trans (Only.set hBz hFz hSz)))
      first | go_end0 | refine bodyPost_ret (results_none rfl _ _ _) rfl ?_
      first | exact ⟨0, true, rfl, HF.out, hAz, Oz⟩ | exact ⟨rfl, 0, Or.inr ⟨HF.out, hAz, Oz⟩⟩
def doneB (t : ByteArray) (p : Nat) (bad : Bool) : Bool := !bad && decide (p = t.size)
set_option maxRecDepth 100000 in
set_option maxHeartbeats 1000000 in
theorem spDone (g p : Nat) (t : ByteArray) (w : World) (hs : t.size ≤ maxLen) (hp : p ≤ t.size) (bad : Bool) (h : RowV w g (srv t p bad)) :
    Calls Try.prog 84 #[.pointer (some ⟨g, 0, none⟩)] w fun e w' => e = .returned (.bool (doneB t p bad)) ∧ Below w.heap.size w w' := by
  unfold maxLen at hs
  obtain ⟨c0, c1, c2⟩ := h.sr
  clear h
  unfold doneB
  cases bad with
  | true =>
    go_enter Try.func84, Try.ntmps84
    go_wp2_with fail
    go_quiet (fail)
    go_wp2
    go_ret
    exact ⟨rfl, belowN (Below.refl _ _) _⟩
  | false =>
    by_cases hq : p = t.size
    · rw [decide_eq_true hq]
      have e1 : ((p : Int) == (t.size : Int)) = true := by rw [hq]; simp
      have e2 : (p == t.size) = true := by rw [hq]; simp
      clear hq
      go_enter Try.func84, Try.ntmps84
      go_wp2_with fail
      go_quiet (fail)
      go_wp2
      go_ret
      exact ⟨rfl, belowN (Below.refl _ _) _⟩
    · rw [decide_eq_false hq]
      have e1 : ((p : Int) == (t.size : Int)) = false := beq_eq_false_iff_ne.2 (by omega)
      have e2 : (p == t.size) = false := beq_eq_false_iff_ne.2 hq
      clear hq
      go_enter Try.func84, Try.ntmps84
      go_wp2_with fail
      go_quiet (fail)
      go_wp2
      go_ret
      exact ⟨rfl, belowN (Below.refl _ _) _⟩
end Go.Proofs.Ytmahpmjkejnkfaa
namespace Go.Proofs.Ytmahpmjkejnkfaa
open Go.RowKit
set_option linter.unusedVariables false

set_option maxRecDepth 100000 in
set_option maxHeartbeats 1000000 in
theorem specTxt (s : ByteArray) (p : Int) (w : World) (hs : s.size ≤ maxLen) (hp : I64 p) :
    Calls Try.prog 112 #[.string s, .int .i64 p] w fun e w' => e = .returned (tv (getT s p)) ∧ Below w.heap.size w w' := by
  have HG : Hid (∀ w1, Calls Try.prog 113 #[.string s, .int .i64 p] w1 fun e w' => e = .returned (gv (getN s p)) ∧ Below w1.heap.size w1 w') := fun w1 => specGet s p w1 hs hp
  have HB0 : Hid (Below w.heap.size w (w.alloc (.cells #[.string noText, .int .i64 0, .int .i64 0] 139))) := (Below.refl _ _).alloc (Nat.le_refl _) _
  have cells : ∀ w1 : World, Below (w.alloc (.cells #[.string noText, .int .i64 0, .int .i64 0] 139)).heap.size (w.alloc (.cells #[.string noText, .int .i64 0, .int .i64 0] 139)) w1 →
      Hid (Below w.heap.size w w1) ∧ w.heap.size < w1.heap.size ∧ w1.cell? ⟨w.heap.size, 0, none⟩ = some (.string noText) ∧ w1.cell? ⟨w.heap.size, 1, none⟩ = some (.int .i64 0) ∧ w1.cell? ⟨w.heap.size, 2, none⟩ = some (.int .i64 0) ∧
      w1.frozen? ⟨w.heap.size, 0, none⟩ = false ∧ w1.frozen? ⟨w.heap.size, 1, none⟩ = false ∧ w1.frozen? ⟨w.heap.size, 2, none⟩ = false := by
    intro w1 hb
    exact ⟨HB0.out.trans (hb.mono (by simp)), by have := hb.size; simp at this; omega, (hb.cell (by simp)).trans (by simp), (hb.cell (by simp)).trans (by simp), (hb.cell (by simp)).trans (by simp),
      (hb.frozen (by simp)).trans (by simp), (hb.frozen (by simp)).trans (by simp), (hb.frozen (by simp)).trans (by simp)⟩
  have HC : Hid _ := cells
  unfold maxLen at hs
  clear HB0 cells
  rcases getT_ways s p with ⟨c, hc, hg, ht⟩ | ⟨n, b, hg, hn, hz, hbs, ht⟩ | ⟨m, b, hg, hm, hlt, hz, hbs, ht⟩ | ⟨m, b, hg, hm, hlt, hz, hbs, ht⟩
  · rw [ht]
    rw [hg] at HG
    unfold gv at HG
    have hc' : (c != 0) = true := bne_iff_ne.2 hc
    clear ht hg hc
    go_enter Try.func112, Try.ntmps112
    go_wp2_with fail
    refine (HG.out _).mono ?_
    rintro e w1 ⟨rfl, hb1⟩
    obtain ⟨HB, hz1, c0, c1, c2, f0, f1, f2⟩ := HC.out w1 hb1
    clear HG HC hb1
    go_wp2
    exact bodyPost_ret (v := .agg #[.string ⟨#[]⟩, .int .i64 0, .int .i64 c]) (by simp [results, Try.results112, go_sem, c0, c1, c2, hz1]) rfl ⟨rfl, below_end HB.out (by omega)⟩
  · rw [ht]
    rw [hg] at HG
    unfold gv at HG
    clear ht hg
    rcases hn with hn | hn
    all_goals
      go_enter Try.func112, Try.ntmps112
      go_wp2_with fail
      refine (HG.out _).mono ?_
      rintro e w1 ⟨rfl, hb1⟩
      obtain ⟨HB, hz1, c0, c1, c2, f0, f1, f2⟩ := HC.out w1 hb1
      clear HG HC hb1
      go_wp2
      exact bodyPost_ret (v := .agg #[.string ⟨#[]⟩, .int .i64 0, .int .i64 3]) (by simp [results, Try.results112, go_sem, c0, c1, c2, hz1]) rfl ⟨rfl, below_end HB.out (by omega)⟩
  · rw [ht]
    rw [hg] at HG
    unfold gv at HG
    clear ht hg
    go_enter Try.func112, Try.ntmps112
    go_wp2_with fail
    refine (HG.out _).mono ?_
    rintro e w1 ⟨rfl, hb1⟩
    obtain ⟨HB, hz1, c0, c1, c2, f0, f1, f2⟩ := HC.out w1 hb1
    clear HG HC hb1
    go_wp2
    exact bodyPost_ret (v := .agg #[.string ⟨#[]⟩, .int .i64 0, .int .i64 4]) (by simp [results, Try.results112, go_sem, c0, c1, c2, hz1]) rfl ⟨rfl, below_end HB.out (by omega)⟩
  · rw [ht]
    rw [hg] at HG
    unfold gv at HG
    clear ht hg
    obtain ⟨x, hx⟩ : ∃ x, s.extract b (b + m) = x := ⟨_, rfl⟩
    obtain ⟨q, hq⟩ : ∃ q : Nat, q = b + m := ⟨_, rfl⟩
    have ew : IntKind.i64.wrap ((b : Int) + (m : Int)) = (q : Int) := by simp [IntKind.wrap, IntKind.signed, IntKind.bits]; omega
    have hsl : ∀ w0 : World, (Instr.slice 9 (.string s) (some (.int .i64 (b : Int))) (some (.int .i64 (q : Int))) none).run Try.prog w0 = .ok (.string x) w0 := by
      intro w0
      rw [run_slice_string_if w0 9 s .i64 .i64 b q Try.underlying9, if_pos ⟨by omega, by omega⟩, if_pos ⟨by omega, by omega⟩, ← hx, hq]
      rfl
    rw [hx]
    rw [← hq]
    have HQ : Hid (q = b + m) := hq
    clear hq hx
    go_enter Try.func112, Try.ntmps112
    go_wp2_with fail
    refine (HG.out _).mono ?_
    rintro e w1 ⟨rfl, hb1⟩
    obtain ⟨HB, hz1, c0, c1, c2, f0, f1, f2⟩ := HC.out w1 hb1
    clear HG HC hb1
    go_wp2
    go_region
    all_goals go_wp2
    exact bodyPost_ret (v := .agg #[.string x, .int .i64 q, .int .i64 0]) (by simp [results, Try.results112, go_sem, c0, c1, c2, hz1]) rfl ⟨rfl, (below_end HB.out (by omega)).drew⟩
end Go.Proofs.Ytmahpmjkejnkfaa
namespace Go.Proofs.Ytmahpmjkejnkfaa
open Go.RowKit
set_option linter.unusedVariables false

def tvr (n : ByteArray) (b c : Int) : List Value := [.string n, .int .i64 b, .int .i64 c]
theorem tvr_ne (n : ByteArray) (b c : Int) : tvr n b c ≠ [] := by simp [tvr]
theorem tvr_one (n : ByteArray) (b c : Int) : ∀ y ∈ tvr n b c, y.oneCell' = true := by
  intro y hy
  simp [tvr] at hy
  rcases hy with h | h | h <;> (rw [h]; rfl)
theorem RowV.tvr {w : World} {g : Nat} {n : ByteArray} {b c : Int} (h : RowV w g (tvr n b c)) : w.cell? ⟨g, 0, none⟩ = some (.string n) ∧ w.cell? ⟨g, 1, none⟩ = some (.int .i64 b) ∧ w.cell? ⟨g, 2, none⟩ = some (.int .i64 c) := ⟨h.cell (k := 0) rfl, h.cell (k := 1) rfl, h.cell (k := 2) rfl⟩
theorem Try.infoTo : (Try.prog.info? 139).map (fun i => i.zero) = some (some (.agg (Go.Proofs.Ytmahpmjkejnkfaa.tvr ⟨#[]⟩ 0 0).toArray)) := by kernel_rfl
theorem Try.sizeTo : (Try.prog.info? 139).map (·.size) = some 3 := by kernel_rfl
set_option maxRecDepth 100000 in
set_option maxHeartbeats 1000000 in
theorem spTxtBad (g p : Nat) (t : ByteArray) (w : World) (hs : t.size ≤ maxLen) (hp : p ≤ t.size) (bad : Bool) (hb : bad = true ∨ textO t p = none) (h : RowV w g (srv t p bad)) :
    Calls Try.prog 81 #[.pointer (some ⟨g, 0, none⟩)] w fun e w' => e = .returned (.string ⟨#[]⟩) ∧ RowV w' g (srv t p true) ∧ Only g w w' := by
  obtain ⟨n, b, c, hg, hc⟩ : ∃ n b c, getT t p = ⟨n, b, c⟩ ∧ (bad = true ∨ ¬ c = 0) := by
    rcases hb with hb | hb
    · exact ⟨(getT t p).text, (getT t p).behind, (getT t p).code, rfl, Or.inl hb⟩
    · obtain ⟨c, hc, hg⟩ := textO_none hb
      exact ⟨noText, 0, c, hg, Or.inr hc⟩
  have hN : ∀ w0, Calls Try.prog 112 #[.string t, .int .i64 (p : Int)] w0 fun e w' => e = .returned (.agg #[.string n, .int .i64 b, .int .i64 c]) ∧ Below w0.heap.size w0 w' := fun w0 => by
    have := specTxt t p w0 hs (i64n (by unfold maxLen at hs; omega))
    rw [hg] at this
    exact this
  clear hg hb
  cases bad with
  | true =>
    go_enter Try.func81, Try.ntmps81
    go_wp2_with fail
    refine wp_region_held_drew (S := fun w' => w'.cell? ⟨g, 0, none⟩ = some (.string t) ∧ w'.cell? ⟨g, 1, none⟩ = some (.int .i64 (p : Int)) ∧ w'.cell? ⟨g, 2, none⟩ = some (.bool true)) (by kernel_rfl) h.drew.sr (fun hHeld => ?_)
    refine wpAnyH_take (i := 0) (oi := ⟨_, _, _, _, _, _⟩) (v := .pointer (some ⟨g, 0, none⟩)) rfl (by kernel_rfl) (by kernel_rfl) (by kernel_rfl) (fun _ _ _ h => h) (Or.inl ⟨wanted_free rfl, fun w' hSw => ?_⟩) hHeld ?_
    · obtain ⟨s0, s1, s2⟩ := hSw
      go_simp
    try simp only [Act.put, List.setIfInBounds_toArray, List.set_cons_zero, List.set_cons_succ]
    refine wpAnyH_take (i := 1) (oi := ⟨_, _, _, _, _, _⟩) (v := .pointer (some ⟨g, 0, none⟩)) rfl (by kernel_rfl) (by kernel_rfl) (by kernel_rfl) (fun _ _ _ h => h) (Or.inl ⟨wanted_free rfl, fun w' hSw => ?_⟩) hHeld ?_
    · obtain ⟨s0, s1, s2⟩ := hSw
      go_simp
    try simp only [Act.put, List.setIfInBounds_toArray, List.set_cons_zero, List.set_cons_succ]
    refine wpAnyH_take (i := 2) (oi := ⟨_, _, _, _, _, _⟩) (v := .pointer (some ⟨g, 0, none⟩)) rfl (by kernel_rfl) (by kernel_rfl) (by kernel_rfl) (fun _ _ _ h => h) (Or.inl ⟨wanted_free rfl, fun w' hSw => ?_⟩) hHeld ?_
    · obtain ⟨s0, s1, s2⟩ := hSw
      go_simp
    try simp only [Act.put, List.setIfInBounds_toArray, List.set_cons_zero, List.set_cons_succ]
    refine wpAnyH_take (i := 3) (oi := ⟨_, _, _, _, _, _⟩) (v := .string t) rfl (by kernel_rfl) (by kernel_rfl) (by kernel_rfl) (fun _ _ _ h => h) (Or.inl ⟨wanted_free rfl, fun w' hSw => ?_⟩) hHeld ?_
    · obtain ⟨s0, s1, s2⟩ := hSw
      go_simp
    try simp only [Act.put, List.setIfInBounds_toArray, List.set_cons_zero, List.set_cons_succ]
    refine wpAnyH_take (i := 4) (oi := ⟨_, _, _, _, _, _⟩) (v := .pointer (some ⟨g, 0, none⟩)) rfl (by kernel_rfl) (by kernel_rfl) (by kernel_rfl) (fun _ _ _ h => h) (Or.inl ⟨wanted_free rfl, fun w' hSw => ?_⟩) hHeld ?_
    · obtain ⟨s0, s1, s2⟩ := hSw
      go_simp
    try simp only [Act.put, List.setIfInBounds_toArray, List.set_cons_zero, List.set_cons_succ]
    refine wpAnyH_take (i := 5) (oi := ⟨_, _, _, _, _, _⟩) (v := .pointer (some ⟨g, 0, none⟩)) rfl (by kernel_rfl) (by kernel_rfl) (by kernel_rfl) (fun _ _ _ h => h) (Or.inl ⟨wanted_free rfl, fun w' hSw => ?_⟩) hHeld ?_
    · obtain ⟨s0, s1, s2⟩ := hSw
      go_simp
    try simp only [Act.put, List.setIfInBounds_toArray, List.set_cons_zero, List.set_cons_succ]
    refine wpAnyH_take (i := 6) (oi := ⟨_, _, _, _, _, _⟩) (v := .pointer (some ⟨g, 1, none⟩)) rfl (by kernel_rfl) (by kernel_rfl) (by kernel_rfl) (fun _ _ _ h => h) (Or.inl ⟨wanted_free rfl, fun w' hSw => ?_⟩) hHeld ?_
    · obtain ⟨s0, s1, s2⟩ := hSw
      go_simp
    try simp only [Act.put, List.setIfInBounds_toArray, List.set_cons_zero, List.set_cons_succ]
    refine wpAnyH_take (i := 7) (oi := ⟨_, _, _, _, _, _⟩) (v := .int .i64 (p : Int)) rfl (by kernel_rfl) (by kernel_rfl) (by kernel_rfl) (fun _ _ _ h => h) (Or.inl ⟨wanted_free rfl, fun w' hSw => ?_⟩) hHeld ?_
    · obtain ⟨s0, s1, s2⟩ := hSw
      go_simp
    try simp only [Act.put, List.setIfInBounds_toArray, List.set_cons_zero, List.set_cons_succ]
    have HKW := KpM.drew (KpM.start h (srv_ne _ _ _))
    generalize w.drew = W at *
    clear hHeld h
    refine wpAnyH_ready (rs := [8, 9]) (by kernel_rfl) (by simp) (AllReadyH.cons (o := ⟨_, _, _, _, _, _⟩) rfl (fun K hK => ?_) (AllReadyH.cons (o := ⟨_, _, _, _, _, _⟩) rfl (fun K hK => ?_) AllReadyH.nil))
    · as_aux_lemma =>
      rewrite [if_pos (wanted_free rfl)]
      go_simp
      refine (hN W).mono ?_
      rintro e Wc ⟨rfl, hBWc⟩
      have HKWc := KpM.call HKW hBWc
      go_wp2_with fail
      refine hK.out _ _ (KpM.rowH HKWc).sr (fun _ => ?_)
      clear hK K
      try simp only [Act.put, List.setIfInBounds_toArray, List.set_cons_zero, List.set_cons_succ]
      refine wpAnyH_ready (rs := [9]) (by kernel_rfl) (by simp) (AllReadyH.cons (o := ⟨_, _, _, _, _, _⟩) rfl (fun K hK => ?_) AllReadyH.nil)
      rewrite [if_pos (wanted_free rfl)]
      with_reducible refine wp_allocV 139 (by with_unfolding_all rfl) (tvr ⟨#[]⟩ 0 0) Try.infoTo ?_
      intro Wca hAWca hBWca
      have HKWca := KpM.new HKWc hAWca (tvr_ne _ _ _) hBWca
      refine hK.out _ _ (KpM.rowH HKWca).sr (fun _ => ?_)
      clear hK K
      try simp only [Act.put, List.setIfInBounds_toArray, List.set_cons_zero, List.set_cons_succ]
      refine wpAnyH_ready (rs := [10]) (by kernel_rfl) (by simp) (AllReadyH.cons (o := ⟨_, _, _, _, _, _⟩) rfl (fun K hK => ?_) AllReadyH.nil)
      rewrite [if_pos (wanted_free rfl)]
      with_reducible refine wp_storeV 139 (.tmp 3) (.tmp 12) (by with_unfolding_all rfl) Wc.heap.size (tvr ⟨#[]⟩ 0 0) (tvr n b c) (by with_unfolding_all rfl) (by with_unfolding_all rfl) (KpM.get HKWca (List.mem_cons_self ..)) 3 Try.sizeTo (by with_unfolding_all rfl) (by with_unfolding_all rfl) (tvr_one _ _ _) ?_
      intro wf hAf hOf
      have HKf := KpM.put HKWca (fun x hx => by cases hx) hAf (tvr_ne _ _ _) hOf
      refine hK.out _ _ (KpM.rowH HKf).sr (fun _ => ?_)
      clear hK K
      refine wpAnyH_done (by kernel_rfl) ?_ _
      generalize Wc.heap.size = GA at *
      obtain ⟨r0, r1, r2⟩ := (KpM.rowH HKf).sr
      obtain ⟨x0, x1, x2⟩ := (KpM.get HKf (List.mem_cons_self ..)).tvr
      clear HKW HKWc HKWca
      go_wp2_with (first
        | (with_reducible refine wpList_cellB (w := wf) (by with_unfolding_all rfl) 4 (.tmp 24) (.const (.bool true)) (by with_unfolding_all rfl) g 2 (srv t p true) (srv t p true) true (by with_unfolding_all rfl) (by with_unfolding_all rfl) Try.siz1B (KpM.rowH HKf) (by simp [srv]) (by with_unfolding_all rfl) ?_; intro wz hAz hBz hFz hSz; have Oz := HKf.out.only.trans (Only.set hBz hFz hSz)))
      go_ret
      exact ⟨rfl, hAz, Oz⟩
    · as_aux_lemma =>
      rewrite [if_pos (wanted_free rfl)]
      with_reducible refine wp_allocV 139 (by with_unfolding_all rfl) (tvr ⟨#[]⟩ 0 0) Try.infoTo ?_
      intro Wa hAWa hBWa
      have HKWa := KpM.new HKW hAWa (tvr_ne _ _ _) hBWa
      refine hK.out _ _ (KpM.rowH HKWa).sr (fun _ => ?_)
      clear hK K
      try simp only [Act.put, List.setIfInBounds_toArray, List.set_cons_zero, List.set_cons_succ]
      refine wpAnyH_ready (rs := [8]) (by kernel_rfl) (by simp) (AllReadyH.cons (o := ⟨_, _, _, _, _, _⟩) rfl (fun K hK => ?_) AllReadyH.nil)
      rewrite [if_pos (wanted_free rfl)]
      go_simp
      refine (hN Wa).mono ?_
      rintro e Wac ⟨rfl, hBWac⟩
      have HKWac := KpM.call HKWa hBWac
      go_wp2_with fail
      refine hK.out _ _ (KpM.rowH HKWac).sr (fun _ => ?_)
      clear hK K
      try simp only [Act.put, List.setIfInBounds_toArray, List.set_cons_zero, List.set_cons_succ]
      refine wpAnyH_ready (rs := [10]) (by kernel_rfl) (by simp) (AllReadyH.cons (o := ⟨_, _, _, _, _, _⟩) rfl (fun K hK => ?_) AllReadyH.nil)
      rewrite [if_pos (wanted_free rfl)]
      with_reducible refine wp_storeV 139 (.tmp 3) (.tmp 12) (by with_unfolding_all rfl) W.heap.size (tvr ⟨#[]⟩ 0 0) (tvr n b c) (by with_unfolding_all rfl) (by with_unfolding_all rfl) (KpM.get HKWac (List.mem_cons_self ..)) 3 Try.sizeTo (by with_unfolding_all rfl) (by with_unfolding_all rfl) (tvr_one _ _ _) ?_
      intro wf hAf hOf
      have HKf := KpM.put HKWac (fun x hx => by cases hx) hAf (tvr_ne _ _ _) hOf
      refine hK.out _ _ (KpM.rowH HKf).sr (fun _ => ?_)
      clear hK K
      refine wpAnyH_done (by kernel_rfl) ?_ _
      generalize W.heap.size = GA at *
      obtain ⟨r0, r1, r2⟩ := (KpM.rowH HKf).sr
      obtain ⟨x0, x1, x2⟩ := (KpM.get HKf (List.mem_cons_self ..)).tvr
      clear HKW HKWa HKWac
      go_wp2_with (first
        | (with_reducible refine wpList_cellB (w := wf) (by with_unfolding_all rfl) 4 (.tmp 24) (.const (.bool true)) (by with_unfolding_all rfl) g 2 (srv t p true) (srv t p true) true (by with_unfolding_all rfl) (by with_unfolding_all rfl) Try.siz1B (KpM.rowH HKf) (by simp [srv]) (by with_unfolding_all rfl) ?_; intro wz hAz hBz hFz hSz; have Oz := HKf.out.only.trans (Only.set hBz hFz hSz)))
      go_ret
      exact ⟨rfl, hAz, Oz⟩
  | false =>
    have hc' : ¬ c = 0 := hc.elim (fun h => by cases h) id
    have e1 : (c == 0) = false := beq_eq_false_iff_ne.2 hc'
    clear hc
    go_enter Try.func81, Try.ntmps81
    go_wp2_with fail
    refine wp_region_held_drew (S := fun w' => w'.cell? ⟨g, 0, none⟩ = some (.string t) ∧ w'.cell? ⟨g, 1, none⟩ = some (.int .i64 (p : Int)) ∧ w'.cell? ⟨g, 2, none⟩ = some (.bool false)) (by kernel_rfl) h.drew.sr (fun hHeld => ?_)
    refine wpAnyH_take (i := 0) (oi := ⟨_, _, _, _, _, _⟩) (v := .pointer (some ⟨g, 0, none⟩)) rfl (by kernel_rfl) (by kernel_rfl) (by kernel_rfl) (fun _ _ _ h => h) (Or.inl ⟨wanted_free rfl, fun w' hSw => ?_⟩) hHeld ?_
    · obtain ⟨s0, s1, s2⟩ := hSw
      go_simp
    try simp only [Act.put, List.setIfInBounds_toArray, List.set_cons_zero, List.set_cons_succ]
    refine wpAnyH_take (i := 1) (oi := ⟨_, _, _, _, _, _⟩) (v := .pointer (some ⟨g, 0, none⟩)) rfl (by kernel_rfl) (by kernel_rfl) (by kernel_rfl) (fun _ _ _ h => h) (Or.inl ⟨wanted_free rfl, fun w' hSw => ?_⟩) hHeld ?_
    · obtain ⟨s0, s1, s2⟩ := hSw
      go_simp
    try simp only [Act.put, List.setIfInBounds_toArray, List.set_cons_zero, List.set_cons_succ]
    refine wpAnyH_take (i := 2) (oi := ⟨_, _, _, _, _, _⟩) (v := .pointer (some ⟨g, 0, none⟩)) rfl (by kernel_rfl) (by kernel_rfl) (by kernel_rfl) (fun _ _ _ h => h) (Or.inl ⟨wanted_free rfl, fun w' hSw => ?_⟩) hHeld ?_
    · obtain ⟨s0, s1, s2⟩ := hSw
      go_simp
    try simp only [Act.put, List.setIfInBounds_toArray, List.set_cons_zero, List.set_cons_succ]
    refine wpAnyH_take (i := 3) (oi := ⟨_, _, _, _, _, _⟩) (v := .string t) rfl (by kernel_rfl) (by kernel_rfl) (by kernel_rfl) (fun _ _ _ h => h) (Or.inl ⟨wanted_free rfl, fun w' hSw => ?_⟩) hHeld ?_
    · obtain ⟨s0, s1, s2⟩ := hSw
      go_simp
    try simp only [Act.put, List.setIfInBounds_toArray, List.set_cons_zero, List.set_cons_succ]
    refine wpAnyH_take (i := 4) (oi := ⟨_, _, _, _, _, _⟩) (v := .pointer (some ⟨g, 0, none⟩)) rfl (by kernel_rfl) (by kernel_rfl) (by kernel_rfl) (fun _ _ _ h => h) (Or.inl ⟨wanted_free rfl, fun w' hSw => ?_⟩) hHeld ?_
    · obtain ⟨s0, s1, s2⟩ := hSw
      go_simp
    try simp only [Act.put, List.setIfInBounds_toArray, List.set_cons_zero, List.set_cons_succ]
    refine wpAnyH_take (i := 5) (oi := ⟨_, _, _, _, _, _⟩) (v := .pointer (some ⟨g, 0, none⟩)) rfl (by kernel_rfl) (by kernel_rfl) (by kernel_rfl) (fun _ _ _ h => h) (Or.inl ⟨wanted_free rfl, fun w' hSw => ?_⟩) hHeld ?_
    · obtain ⟨s0, s1, s2⟩ := hSw
      go_simp
    try simp only [Act.put, List.setIfInBounds_toArray, List.set_cons_zero, List.set_cons_succ]
    refine wpAnyH_take (i := 6) (oi := ⟨_, _, _, _, _, _⟩) (v := .pointer (some ⟨g, 1, none⟩)) rfl (by kernel_rfl) (by kernel_rfl) (by kernel_rfl) (fun _ _ _ h => h) (Or.inl ⟨wanted_free rfl, fun w' hSw => ?_⟩) hHeld ?_
    · obtain ⟨s0, s1, s2⟩ := hSw
      go_simp
    try simp only [Act.put, List.setIfInBounds_toArray, List.set_cons_zero, List.set_cons_succ]
    refine wpAnyH_take (i := 7) (oi := ⟨_, _, _, _, _, _⟩) (v := .int .i64 (p : Int)) rfl (by kernel_rfl) (by kernel_rfl) (by kernel_rfl) (fun _ _ _ h => h) (Or.inl ⟨wanted_free rfl, fun w' hSw => ?_⟩) hHeld ?_
    · obtain ⟨s0, s1, s2⟩ := hSw
      go_simp
    try simp only [Act.put, List.setIfInBounds_toArray, List.set_cons_zero, List.set_cons_succ]
    have HKW := KpM.drew (KpM.start h (srv_ne _ _ _))
    generalize w.drew = W at *
    clear hHeld h
    refine wpAnyH_ready (rs := [8, 9]) (by kernel_rfl) (by simp) (AllReadyH.cons (o := ⟨_, _, _, _, _, _⟩) rfl (fun K hK => ?_) (AllReadyH.cons (o := ⟨_, _, _, _, _, _⟩) rfl (fun K hK => ?_) AllReadyH.nil))
    · as_aux_lemma =>
      rewrite [if_pos (wanted_free rfl)]
      go_simp
      refine (hN W).mono ?_
      rintro e Wc ⟨rfl, hBWc⟩
      have HKWc := KpM.call HKW hBWc
      go_wp2_with fail
      refine hK.out _ _ (KpM.rowH HKWc).sr (fun _ => ?_)
      clear hK K
      try simp only [Act.put, List.setIfInBounds_toArray, List.set_cons_zero, List.set_cons_succ]
      refine wpAnyH_ready (rs := [9]) (by kernel_rfl) (by simp) (AllReadyH.cons (o := ⟨_, _, _, _, _, _⟩) rfl (fun K hK => ?_) AllReadyH.nil)
      rewrite [if_pos (wanted_free rfl)]
      with_reducible refine wp_allocV 139 (by with_unfolding_all rfl) (tvr ⟨#[]⟩ 0 0) Try.infoTo ?_
      intro Wca hAWca hBWca
      have HKWca := KpM.new HKWc hAWca (tvr_ne _ _ _) hBWca
      refine hK.out _ _ (KpM.rowH HKWca).sr (fun _ => ?_)
      clear hK K
      try simp only [Act.put, List.setIfInBounds_toArray, List.set_cons_zero, List.set_cons_succ]
      refine wpAnyH_ready (rs := [10]) (by kernel_rfl) (by simp) (AllReadyH.cons (o := ⟨_, _, _, _, _, _⟩) rfl (fun K hK => ?_) AllReadyH.nil)
      rewrite [if_pos (wanted_free rfl)]
      with_reducible refine wp_storeV 139 (.tmp 3) (.tmp 12) (by with_unfolding_all rfl) Wc.heap.size (tvr ⟨#[]⟩ 0 0) (tvr n b c) (by with_unfolding_all rfl) (by with_unfolding_all rfl) (KpM.get HKWca (List.mem_cons_self ..)) 3 Try.sizeTo (by with_unfolding_all rfl) (by with_unfolding_all rfl) (tvr_one _ _ _) ?_
      intro wf hAf hOf
      have HKf := KpM.put HKWca (fun x hx => by cases hx) hAf (tvr_ne _ _ _) hOf
      refine hK.out _ _ (KpM.rowH HKf).sr (fun _ => ?_)
      clear hK K
      refine wpAnyH_done (by kernel_rfl) ?_ _
      generalize Wc.heap.size = GA at *
      obtain ⟨r0, r1, r2⟩ := (KpM.rowH HKf).sr
      obtain ⟨x0, x1, x2⟩ := (KpM.get HKf (List.mem_cons_self ..)).tvr
      clear HKW HKWc HKWca
      go_wp2_with (first
        | (with_reducible refine wpList_cellB (w := wf) (by with_unfolding_all rfl) 4 (.tmp 24) (.const (.bool true)) (by with_unfolding_all rfl) g 2 (srv t p false) (srv t p true) true (by with_unfolding_all rfl) (by with_unfolding_all rfl) Try.siz1B (KpM.rowH HKf) (by simp [srv]) (by with_unfolding_all rfl) ?_; intro wz hAz hBz hFz hSz; have Oz := HKf.out.only.trans (Only.set hBz hFz hSz)))
      go_ret
      exact ⟨rfl, hAz, Oz⟩
    · as_aux_lemma =>
      rewrite [if_pos (wanted_free rfl)]
      with_reducible refine wp_allocV 139 (by with_unfolding_all rfl) (tvr ⟨#[]⟩ 0 0) Try.infoTo ?_
      intro Wa hAWa hBWa
      have HKWa := KpM.new HKW hAWa (tvr_ne _ _ _) hBWa
      refine hK.out _ _ (KpM.rowH HKWa).sr (fun _ => ?_)
      clear hK K
      try simp only [Act.put, List.setIfInBounds_toArray, List.set_cons_zero, List.set_cons_succ]
      refine wpAnyH_ready (rs := [8]) (by kernel_rfl) (by simp) (AllReadyH.cons (o := ⟨_, _, _, _, _, _⟩) rfl (fun K hK => ?_) AllReadyH.nil)
      rewrite [if_pos (wanted_free rfl)]
      go_simp
      refine (hN Wa).mono ?_
      rintro e Wac ⟨rfl, hBWac⟩
      have HKWac := KpM.call HKWa hBWac
      go_wp2_with fail
      refine hK.out _ _ (KpM.rowH HKWac).sr (fun _ => ?_)
      clear hK K
      try simp only [Act.put, List.setIfInBounds_toArray, List.set_cons_zero, List.set_cons_succ]
      refine wpAnyH_ready (rs := [10]) (by kernel_rfl) (by simp) (AllReadyH.cons (o := ⟨_, _, _, _, _, _⟩) rfl (fun K hK => ?_) AllReadyH.nil)
      rewrite [if_pos (wanted_free rfl)]
      with_reducible refine wp_storeV 139 (.tmp 3) (.tmp 12) (by with_unfolding_all rfl) W.heap.size (tvr ⟨#[]⟩ 0 0) (tvr n b c) (by with_unfolding_all rfl) (by with_unfolding_all rfl) (KpM.get HKWac (List.mem_cons_self ..)) 3 Try.sizeTo (by with_unfolding_all rfl) (by with_unfolding_all rfl) (tvr_one _ _ _) ?_
      intro wf hAf hOf
      have HKf := KpM.put HKWac (fun x hx => by cases hx) hAf (tvr_ne _ _ _) hOf
      refine hK.out _ _ (KpM.rowH HKf).sr (fun _ => ?_)
      clear hK K
      refine wpAnyH_done (by kernel_rfl) ?_ _
      generalize W.heap.size = GA at *
      obtain ⟨r0, r1, r2⟩ := (KpM.rowH HKf).sr
      obtain ⟨x0, x1, x2⟩ := (KpM.get HKf (List.mem_cons_self ..)).tvr
      clear HKW HKWa HKWac
      go_wp2_with (first
        | (with_reducible refine wpList_cellB (w := wf) (by with_unfolding_all rfl) 4 (.tmp 24) (.const (.bool true)) (by with_unfolding_all rfl) g 2 (srv t p false) (srv t p true) true (by with_unfolding_all rfl) (by with_unfolding_all rfl) Try.siz1B (KpM.rowH HKf) (by simp [srv]) (by with_unfolding_all rfl) ?_; intro wz hAz hBz hFz hSz; have Oz := HKf.out.only.trans (Only.set hBz hFz hSz)))
      go_ret
      exact ⟨rfl, hAz, Oz⟩
set_option maxRecDepth 100000 in
set_option maxHeartbeats 1000000 in
theorem spTxtYes (g p : Nat) (t : ByteArray) (w : World) (hs : t.size ≤ maxLen) (hp : p ≤ t.size) (b : Nat) (n : ByteArray) (hn : textO t p = some (n, b)) (h : RowV w g (srv t p false)) :
    Calls Try.prog 81 #[.pointer (some ⟨g, 0, none⟩)] w fun e w' => e = .returned (.string n) ∧ RowV w' g (srv t b false) ∧ Only g w w' := by
  obtain ⟨hg, -, -, -⟩ := textO_some hn
  have hN : ∀ w0, Calls Try.prog 112 #[.string t, .int .i64 (p : Int)] w0 fun e w' => e = .returned (.agg #[.string n, .int .i64 (b : Int), .int .i64 0]) ∧ Below w0.heap.size w0 w' := fun w0 => by
    have := specTxt t p w0 hs (i64n (by unfold maxLen at hs; omega))
    rw [hg] at this
    exact this
  clear hg hn
  go_enter Try.func81, Try.ntmps81
  go_wp2_with fail
  refine wp_region_held_drew (S := fun w' => w'.cell? ⟨g, 0, none⟩ = some (.string t) ∧ w'.cell? ⟨g, 1, none⟩ = some (.int .i64 (p : Int)) ∧ w'.cell? ⟨g, 2, none⟩ = some (.bool false)) (by kernel_rfl) h.drew.sr (fun hHeld => ?_)
  refine wpAnyH_take (i := 0) (oi := ⟨_, _, _, _, _, _⟩) (v := .pointer (some ⟨g, 0, none⟩)) rfl (by kernel_rfl) (by kernel_rfl) (by kernel_rfl) (fun _ _ _ h => h) (Or.inl ⟨wanted_free rfl, fun w' hSw => ?_⟩) hHeld ?_
  · obtain ⟨s0, s1, s2⟩ := hSw
    go_simp
  try simp only [Act.put, List.setIfInBounds_toArray, List.set_cons_zero, List.set_cons_succ]
  refine wpAnyH_take (i := 1) (oi := ⟨_, _, _, _, _, _⟩) (v := .pointer (some ⟨g, 0, none⟩)) rfl (by kernel_rfl) (by kernel_rfl) (by kernel_rfl) (fun _ _ _ h => h) (Or.inl ⟨wanted_free rfl, fun w' hSw => ?_⟩) hHeld ?_
  · obtain ⟨s0, s1, s2⟩ := hSw
    go_simp
  try simp only [Act.put, List.setIfInBounds_toArray, List.set_cons_zero, List.set_cons_succ]
  refine wpAnyH_take (i := 2) (oi := ⟨_, _, _, _, _, _⟩) (v := .pointer (some ⟨g, 0, none⟩)) rfl (by kernel_rfl) (by kernel_rfl) (by kernel_rfl) (fun _ _ _ h => h) (Or.inl ⟨wanted_free rfl, fun w' hSw => ?_⟩) hHeld ?_
  · obtain ⟨s0, s1, s2⟩ := hSw
    go_simp
  try simp only [Act.put, List.setIfInBounds_toArray, List.set_cons_zero, List.set_cons_succ]
  refine wpAnyH_take (i := 3) (oi := ⟨_, _, _, _, _, _⟩) (v := .string t) rfl (by kernel_rfl) (by kernel_rfl) (by kernel_rfl) (fun _ _ _ h => h) (Or.inl ⟨wanted_free rfl, fun w' hSw => ?_⟩) hHeld ?_
  · obtain ⟨s0, s1, s2⟩ := hSw
    go_simp
  try simp only [Act.put, List.setIfInBounds_toArray, List.set_cons_zero, List.set_cons_succ]
  refine wpAnyH_take (i := 4) (oi := ⟨_, _, _, _, _, _⟩) (v := .pointer (some ⟨g, 0, none⟩)) rfl (by kernel_rfl) (by kernel_rfl) (by kernel_rfl) (fun _ _ _ h => h) (Or.inl ⟨wanted_free rfl, fun w' hSw => ?_⟩) hHeld ?_
  · obtain ⟨s0, s1, s2⟩ := hSw
    go_simp
  try simp only [Act.put, List.setIfInBounds_toArray, List.set_cons_zero, List.set_cons_succ]
  refine wpAnyH_take (i := 5) (oi := ⟨_, _, _, _, _, _⟩) (v := .pointer (some ⟨g, 0, none⟩)) rfl (by kernel_rfl) (by kernel_rfl) (by kernel_rfl) (fun _ _ _ h => h) (Or.inl ⟨wanted_free rfl, fun w' hSw => ?_⟩) hHeld ?_
  · obtain ⟨s0, s1, s2⟩ := hSw
    go_simp
  try simp only [Act.put, List.setIfInBounds_toArray, List.set_cons_zero, List.set_cons_succ]
  refine wpAnyH_take (i := 6) (oi := ⟨_, _, _, _, _, _⟩) (v := .pointer (some ⟨g, 1, none⟩)) rfl (by kernel_rfl) (by kernel_rfl) (by kernel_rfl) (fun _ _ _ h => h) (Or.inl ⟨wanted_free rfl, fun w' hSw => ?_⟩) hHeld ?_
  · obtain ⟨s0, s1, s2⟩ := hSw
    go_simp
  try simp only [Act.put, List.setIfInBounds_toArray, List.set_cons_zero, List.set_cons_succ]
  refine wpAnyH_take (i := 7) (oi := ⟨_, _, _, _, _, _⟩) (v := .int .i64 (p : Int)) rfl (by kernel_rfl) (by kernel_rfl) (by kernel_rfl) (fun _ _ _ h => h) (Or.inl ⟨wanted_free rfl, fun w' hSw => ?_⟩) hHeld ?_
  · obtain ⟨s0, s1, s2⟩ := hSw
    go_simp
  try simp only [Act.put, List.setIfInBounds_toArray, List.set_cons_zero, List.set_cons_succ]
  have HKW := KpM.drew (KpM.start h (srv_ne _ _ _))
  generalize w.drew = W at *
  clear hHeld h
  refine wpAnyH_ready (rs := [8, 9]) (by kernel_rfl) (by simp) (AllReadyH.cons (o := ⟨_, _, _, _, _, _⟩) rfl (fun K hK => ?_) (AllReadyH.cons (o := ⟨_, _, _, _, _, _⟩) rfl (fun K hK => ?_) AllReadyH.nil))
  · as_aux_lemma =>
    rewrite [if_pos (wanted_free rfl)]
    go_simp
    refine (hN W).mono ?_
    rintro e Wc ⟨rfl, hBWc⟩
    have HKWc := KpM.call HKW hBWc
    go_wp2_with fail
    refine hK.out _ _ (KpM.rowH HKWc).sr (fun _ => ?_)
    clear hK K
    try simp only [Act.put, List.setIfInBounds_toArray, List.set_cons_zero, List.set_cons_succ]
    refine wpAnyH_ready (rs := [9]) (by kernel_rfl) (by simp) (AllReadyH.cons (o := ⟨_, _, _, _, _, _⟩) rfl (fun K hK => ?_) AllReadyH.nil)
    rewrite [if_pos (wanted_free rfl)]
    with_reducible refine wp_allocV 139 (by with_unfolding_all rfl) (tvr ⟨#[]⟩ 0 0) Try.infoTo ?_
    intro Wca hAWca hBWca
    have HKWca := KpM.new HKWc hAWca (tvr_ne _ _ _) hBWca
    refine hK.out _ _ (KpM.rowH HKWca).sr (fun _ => ?_)
    clear hK K
    try simp only [Act.put, List.setIfInBounds_toArray, List.set_cons_zero, List.set_cons_succ]
    refine wpAnyH_ready (rs := [10]) (by kernel_rfl) (by simp) (AllReadyH.cons (o := ⟨_, _, _, _, _, _⟩) rfl (fun K hK => ?_) AllReadyH.nil)
    rewrite [if_pos (wanted_free rfl)]
    with_reducible refine wp_storeV 139 (.tmp 3) (.tmp 12) (by with_unfolding_all rfl) Wc.heap.size (tvr ⟨#[]⟩ 0 0) (tvr n (b : Int) 0) (by with_unfolding_all rfl) (by with_unfolding_all rfl) (KpM.get HKWca (List.mem_cons_self ..)) 3 Try.sizeTo (by with_unfolding_all rfl) (by with_unfolding_all rfl) (tvr_one _ _ _) ?_
    intro wf hAf hOf
    have HKf := KpM.put HKWca (fun x hx => by cases hx) hAf (tvr_ne _ _ _) hOf
    refine hK.out _ _ (KpM.rowH HKf).sr (fun _ => ?_)
    clear hK K
    refine wpAnyH_done (by kernel_rfl) ?_ _
    generalize Wc.heap.size = GA at *
    obtain ⟨r0, r1, r2⟩ := (KpM.rowH HKf).sr
    obtain ⟨x0, x1, x2⟩ := (KpM.get HKf (List.mem_cons_self ..)).tvr
    clear HKW HKWc HKWca
    go_wp2_with (first
      | (with_reducible refine wpList_cellH (w := wf) (by with_unfolding_all rfl) 2 (.tmp 29) (.tmp 27) (by with_unfolding_all rfl) g 1 (srv t p false) (srv t b false) (.int .i64 (b : Int)) (by with_unfolding_all rfl) (by with_unfolding_all rfl) rfl Try.siz1I (KpM.rowH HKf) (by simp [srv]) (by with_unfolding_all rfl) ?_; intro wz hAz hBz hFz hSz; have Oz := HKf.out.only.trans (Only.set hBz hFz hSz); obtain ⟨y0, y1, y2⟩ := ((Only.set hBz hFz hSz).row (KpM.get HKf (List.mem_cons_self ..)) (tvr_ne _ _ _) (by have := (HKf.out.own _ (List.mem_cons_self ..)).1; have := HKf.out.lt; simp at *; omega)).tvr))
    go_ret
    exact ⟨rfl, hAz, Oz⟩
  · as_aux_lemma =>
    rewrite [if_pos (wanted_free rfl)]
    with_reducible refine wp_allocV 139 (by with_unfolding_all rfl) (tvr ⟨#[]⟩ 0 0) Try.infoTo ?_
    intro Wa hAWa hBWa
    have HKWa := KpM.new HKW hAWa (tvr_ne _ _ _) hBWa
    refine hK.out _ _ (KpM.rowH HKWa).sr (fun _ => ?_)
    clear hK K
    try simp only [Act.put, List.setIfInBounds_toArray, List.set_cons_zero, List.set_cons_succ]
    refine wpAnyH_ready (rs := [8]) (by kernel_rfl) (by simp) (AllReadyH.cons (o := ⟨_, _, _, _, _, _⟩) rfl (fun K hK => ?_) AllReadyH.nil)
    rewrite [if_pos (wanted_free rfl)]
    go_simp
    refine (hN Wa).mono ?_
    rintro e Wac ⟨rfl, hBWac⟩
    have HKWac := KpM.call HKWa hBWac
    go_wp2_with fail
    refine hK.out _ _ (KpM.rowH HKWac).sr (fun _ => ?_)
    clear hK K
    try simp only [Act.put, List.setIfInBounds_toArray, List.set_cons_zero, List.set_cons_succ]
    refine wpAnyH_ready (rs := [10]) (by kernel_rfl) (by simp) (AllReadyH.cons (o := ⟨_, _, _, _, _, _⟩) rfl (fun K hK => ?_) AllReadyH.nil)
    rewrite [if_pos (wanted_free rfl)]
    with_reducible refine wp_storeV 139 (.tmp 3) (.tmp 12) (by with_unfolding_all rfl) W.heap.size (tvr ⟨#[]⟩ 0 0) (tvr n (b : Int) 0) (by with_unfolding_all rfl) (by with_unfolding_all rfl) (KpM.get HKWac (List.mem_cons_self ..)) 3 Try.sizeTo (by with_unfolding_all rfl) (by with_unfolding_all rfl) (tvr_one _ _ _) ?_
    intro wf hAf hOf
    have HKf := KpM.put HKWac (fun x hx => by cases hx) hAf (tvr_ne _ _ _) hOf
    refine hK.out _ _ (KpM.rowH HKf).sr (fun _ => ?_)
    clear hK K
    refine wpAnyH_done (by kernel_rfl) ?_ _
    generalize W.heap.size = GA at *
    obtain ⟨r0, r1, r2⟩ := (KpM.rowH HKf).sr
    obtain ⟨x0, x1, x2⟩ := (KpM.get HKf (List.mem_cons_self ..)).tvr
    clear HKW HKWa HKWac
    go_wp2_with (first
      | (with_reducible refine wpList_cellH (w := wf) (by with_unfolding_all rfl) 2 (.tmp 29) (.tmp 27) (by with_unfolding_all rfl) g 1 (srv t p false) (srv t b false) (.int .i64 (b : Int)) (by with_unfolding_all rfl) (by with_unfolding_all rfl) rfl Try.siz1I (KpM.rowH HKf) (by simp [srv]) (by with_unfolding_all rfl) ?_; intro wz hAz hBz hFz hSz; have Oz := HKf.out.only.trans (Only.set hBz hFz hSz); obtain ⟨y0, y1, y2⟩ := ((Only.set hBz hFz hSz).row (KpM.get HKf (List.mem_cons_self ..)) (tvr_ne _ _ _) (by have := (HKf.out.own _ (List.mem_cons_self ..)).1; have := HKf.out.lt; simp at *; omega)).tvr))
    go_ret
    exact ⟨rfl, hAz, Oz⟩
/- What num tells, whatever the reader's state. -/
def TxtR (t : ByteArray) (p : Nat) (bad : Bool) (n : ByteArray) (p' : Nat) (bad' : Bool) : Prop := p' ≤ t.size ∧ ((bad = false ∧ textO t p = some (n, p') ∧ bad' = false) ∨ ((bad = true ∨ textO t p = none) ∧ bad' = true ∧ n = ⟨#[]⟩))
theorem spTxt (g p : Nat) (t : ByteArray) (w : World) (hs : t.size ≤ maxLen) (hp : p ≤ t.size) (bad : Bool) (h : RowV w g (srv t p bad)) :
    Calls Try.prog 81 #[.pointer (some ⟨g, 0, none⟩)] w fun e w' => ∃ n p' bad', e = .returned (.string n) ∧ TxtR t p bad n p' bad' ∧ RowV w' g (srv t p' bad') ∧ Only g w w' := by
  by_cases hb : bad = true ∨ textO t p = none
  · refine (spTxtBad g p t w hs hp bad hb h).mono ?_
    rintro e w' ⟨rfl, h1, h2⟩
    exact ⟨⟨#[]⟩, p, true, rfl, ⟨hp, Or.inr ⟨hb, rfl, rfl⟩⟩, h1, h2⟩
  · have hb1 : bad = false := by cases bad with
      | true => exact absurd (Or.inl rfl) hb
      | false => rfl
    subst hb1
    cases hn : textO t p with
    | none => exact absurd (Or.inr hn) hb
    | some x =>
      obtain ⟨n, b⟩ := x
      refine (spTxtYes g p t w hs hp b n hn h).mono ?_
      rintro e w' ⟨rfl, h1, h2⟩
      exact ⟨n, b, false, rfl, ⟨(textO_some hn).2.1, Or.inl ⟨rfl, hn, rfl⟩⟩, h1, h2⟩
/- What many tells, whatever the reader's state. -/
def ManR (t : ByteArray) (p : Nat) (bad : Bool) (m k : Nat) (p' : Nat) (bad' : Bool) : Prop := p' ≤ t.size ∧ k ≤ m ∧ ((bad = false ∧ countO t p m = some (k, p') ∧ bad' = false) ∨ ((bad = true ∨ countO t p m = none) ∧ bad' = true))
theorem countO_out {t : ByteArray} {p m b : Nat} {n : Int} (h : numO t p = some (n, b)) (hn : ¬ (0 ≤ n ∧ n ≤ (m : Int))) : countO t p m = none := by
  unfold countO
  rw [h]
  simp only
  rw [if_neg hn]
theorem countO_in {t : ByteArray} {p m b k : Nat} (h : numO t p = some ((k : Int), b)) (hn : k ≤ m) : countO t p m = some (k, b) := by
  unfold countO
  rw [h]
  simp only
  rw [if_pos ⟨by omega, by omega⟩]
  simp
theorem countO_non {t : ByteArray} {p m : Nat} (h : numO t p = none) : countO t p m = none := by
  unfold countO
  rw [h]
set_option maxRecDepth 100000 in
set_option maxHeartbeats 1000000 in
theorem spMany (g p m : Nat) (t : ByteArray) (w : World) (hs : t.size ≤ maxLen) (hp : p ≤ t.size) (bad : Bool) (h : RowV w g (srv t p bad)) :
    Calls Try.prog 82 #[.pointer (some ⟨g, 0, none⟩), .int .i64 (m : Int)] w fun e w' => ∃ k p' bad', e = .returned (.int .i64 (k : Nat)) ∧ ManR t p bad m k p' bad' ∧ RowV w' g (srv t p' bad') ∧ Only g w w' := by
  have HN : Hid (Calls Try.prog 83 #[.pointer (some ⟨g, 0, none⟩)] w fun e w' => ∃ n p' bad', e = .returned (.int .i64 n) ∧ NumR t p bad n p' bad' ∧ RowV w' g (srv t p' bad') ∧ Only g w w') := spNum g p t w hs hp bad h
  clear h
  go_enter Try.func82, Try.ntmps82
  go_wp2_with fail
  refine Calls.mono HN.out ?_
  rintro e w1 ⟨n, p', d', rfl, hr, hA1, hO1⟩
  obtain ⟨hp', hr⟩ := hr
  clear HN
  by_cases hin : 0 ≤ n ∧ n ≤ (m : Int)
  · obtain ⟨k, rfl⟩ : ∃ k : Nat, n = (k : Int) := ⟨n.toNat, by omega⟩
    have d1 : decide ((k : Int) < 0) = false := decide_eq_false (by omega)
    have d2 : decide ((m : Int) < (k : Int)) = false := decide_eq_false (by omega)
    have d3 : decide (m < k) = false := decide_eq_false (by omega)
    obtain ⟨c0, c1, c2⟩ := hA1.sr
    cases d' with
    | false =>
      have HM : Hid (ManR t p bad m k p' false) := ⟨hp', by omega, Or.inl (by
        rcases hr with ⟨e1, e2, _⟩ | ⟨_, e3⟩
        · exact ⟨e1, countO_in e2 (by omega), rfl⟩
        · cases e3)⟩
      clear hr
      go_wp2
      go_ret
      exact ⟨k, p', false, rfl, HM.out, hA1, hO1⟩
    | true =>
      have HM : Hid (ManR t p bad m 0 p' true) := ⟨hp', by omega, Or.inr (by
        rcases hr with ⟨_, _, e3⟩ | ⟨e1, _⟩
        · cases e3
        · exact ⟨e1.imp id countO_non, rfl⟩)⟩
      clear hr
      go_wp2
      go_ret
      exact ⟨0, p', true, rfl, HM.out, hA1, hO1⟩
  · have HM : Hid (ManR t p bad m 0 p' true) := ⟨hp', by omega, Or.inr ⟨by
      rcases hr with ⟨_, e2, _⟩ | ⟨e1, _⟩
      · exact Or.inr (countO_out e2 hin)
      · exact e1.imp id countO_non, rfl⟩⟩
    clear hr
    by_cases h0 : n < 0
    · have d1 : decide (n < 0) = true := decide_eq_true h0
      clear hin
      go_wp2_with (first
        | (with_reducible refine wpList_cellB (w := w1) (by with_unfolding_all rfl) 4 (.tmp 17) (.const (.bool true)) (by with_unfolding_all rfl) g 2 (srv t p' d') (srv t p' true) true (by with_unfolding_all rfl) (by with_unfolding_all rfl) Try.siz1B hA1 (by simp [srv]) (by with_unfolding_all rfl) ?_; intro wz hAz hBz hFz hSz; obtain ⟨c0, c1, c2⟩ := hAz.sr))
      go_ret
      exact ⟨0, p', true, rfl, HM.out, hAz, hO1.trans (Only.set hBz hFz hSz)⟩
    · have d1 : decide (n < 0) = false := decide_eq_false h0
      have d2 : decide ((m : Int) < n) = true := decide_eq_true (by omega)
      clear hin
      go_wp2_with (first
        | (with_reducible refine wpList_cellB (w := w1) (by with_unfolding_all rfl) 4 (.tmp 17) (.const (.bool true)) (by with_unfolding_all rfl) g 2 (srv t p' d') (srv t p' true) true (by with_unfolding_all rfl) (by with_unfolding_all rfl) Try.siz1B hA1 (by simp [srv]) (by with_unfolding_all rfl) ?_; intro wz hAz hBz hFz hSz; obtain ⟨c0, c1, c2⟩ := hAz.sr))
      go_ret
      exact ⟨0, p', true, rfl, HM.out, hAz, hO1.trans (Only.set hBz hFz hSz)⟩
end Go.Proofs.Ytmahpmjkejnkfaa
