/- The specification's reader: num, bytes, first, done. -/
import Derived.Test.YtchfpiadfmnphaaLnI
import Derived.Test.YtchfpiadfmnphaaGetS
namespace Go.Proofs.Ytchfpiadfmnphaa
open Go.RowKit
set_option linter.unusedVariables false

def gvr (n b c : Int) : List Value := [.int .i64 n, .int .i64 b, .int .i64 c]
theorem gvr_ne (n b c : Int) : gvr n b c ≠ [] := by simp [gvr]
theorem gvr_one (n b c : Int) : ∀ y ∈ gvr n b c, y.oneCell' = true := by
  intro y hy
  simp [gvr] at hy
  rcases hy with h | h | h <;> (rw [h]; rfl)
theorem RowV.gvr {w : World} {g : Nat} {n b c : Int} (h : RowV w g (gvr n b c)) : w.cell? ⟨g, 0, none⟩ = some (.int .i64 n) ∧ w.cell? ⟨g, 1, none⟩ = some (.int .i64 b) ∧ w.cell? ⟨g, 2, none⟩ = some (.int .i64 c) := ⟨h.cell (k := 0) rfl, h.cell (k := 1) rfl, h.cell (k := 2) rfl⟩
theorem Try.infoNo : (Try.prog.info? 161).map (fun i => i.zero) = some (some (.agg (Go.Proofs.Ytchfpiadfmnphaa.gvr 0 0 0).toArray)) := by kernel_rfl
theorem Try.sizeNo : (Try.prog.info? 161).map (·.size) = some 3 := by kernel_rfl
set_option maxRecDepth 100000 in
set_option maxHeartbeats 1000000 in
theorem spNumBad (g p : Nat) (t : ByteArray) (w : World) (hs : t.size ≤ maxLen) (hp : p ≤ t.size) (bad : Bool) (hb : bad = true ∨ numO t p = none) (h : RowV w g (srv t p bad)) :
    Calls Try.prog 104 #[.pointer (some ⟨g, 0, none⟩)] w fun e w' => e = .returned (.int .i64 0) ∧ RowV w' g (srv t p true) ∧ Only g w w' := by
  obtain ⟨n, b, c, hg, hc⟩ : ∃ n b c, getN t p = ⟨n, b, c⟩ ∧ (bad = true ∨ ¬ c = 0) := by
    rcases hb with hb | hb
    · exact ⟨(getN t p).n, (getN t p).behind, (getN t p).code, rfl, Or.inl hb⟩
    · obtain ⟨c, hc, hg⟩ := numO_none hb
      exact ⟨0, 0, c, hg, Or.inr hc⟩
  have hN : ∀ w0, Calls Try.prog 140 #[.string t, .int .i64 (p : Int)] w0 fun e w' => e = .returned (.agg #[.int .i64 n, .int .i64 b, .int .i64 c]) ∧ Below w0.heap.size w0 w' := fun w0 => by
    have := specGet t p w0 hs (i64n (by unfold maxLen at hs; omega))
    rw [hg] at this
    exact this
  clear hg hb
  cases bad with
  | true =>
    go_enter Try.func104, Try.ntmps104
    go_wp2_with fail
    refine wp_region_held_drew (S := fun w' => w'.cell? ⟨g, 0, none⟩ = some (.string t) ∧ w'.cell? ⟨g, 1, none⟩ = some (.int .i64 (p : Int)) ∧ w'.cell? ⟨g, 2, none⟩ = some (.bool true)) (by kernel_rfl) h.drew.sr (fun hHeld => ?_)
    refine wpAnyH_take (i := 0) (oi := ⟨_, _, _, _, _, _⟩) (v := .pointer (some ⟨g, 0, none⟩)) rfl (by kernel_rfl) (by kernel_rfl) (by kernel_rfl) (fun _ _ _ h => h) (Or.inl ⟨wanted_free rfl, fun w' hSw => ?_⟩) hHeld ?_
    · obtain ⟨s0, s1, s2⟩ := hSw
      go_simp
    try simp only [Act.put, List.setIfInBounds_toArray, List.set_cons_zero, List.set_cons_succ]
    refine wpAnyH_take (i := 1) (oi := ⟨_, _, _, _, _, _⟩) (v := .pointer (some ⟨g, 0, none⟩)) rfl (by kernel_rfl) (by kernel_rfl) (by kernel_rfl) (fun _ _ _ h => h) (Or.inl ⟨wanted_free rfl, fun w' hSw => ?_⟩) hHeld ?_
    · obtain ⟨s0, s1, s2⟩ := hSw
      go_simp
    try simp only [Act.put, List.setIfInBounds_toArray, List.set_cons_zero, List.set_cons_succ]
    refine wpAnyH_take (i := 2) (oi := ⟨_, _, _, _, _, _⟩) (v := .pointer (some ⟨g, 0, none⟩)) rfl (by kernel_rfl) (by kernel_rfl) (by kernel_rfl) (fun _ _ _ h => h) (Or.inl ⟨wanted_free rfl, fun w' hSw => ?_⟩) hHeld ?_
    · obtain ⟨s0, s1, s2⟩ := hSw
      go_simp
    try simp only [Act.put, List.setIfInBounds_toArray, List.set_cons_zero, List.set_cons_succ]
    refine wpAnyH_take (i := 3) (oi := ⟨_, _, _, _, _, _⟩) (v := .string t) rfl (by kernel_rfl) (by kernel_rfl) (by kernel_rfl) (fun _ _ _ h => h) (Or.inl ⟨wanted_free rfl, fun w' hSw => ?_⟩) hHeld ?_
    · obtain ⟨s0, s1, s2⟩ := hSw
      go_simp
    try simp only [Act.put, List.setIfInBounds_toArray, List.set_cons_zero, List.set_cons_succ]
    refine wpAnyH_take (i := 4) (oi := ⟨_, _, _, _, _, _⟩) (v := .pointer (some ⟨g, 0, none⟩)) rfl (by kernel_rfl) (by kernel_rfl) (by kernel_rfl) (fun _ _ _ h => h) (Or.inl ⟨wanted_free rfl, fun w' hSw => ?_⟩) hHeld ?_
    · obtain ⟨s0, s1, s2⟩ := hSw
      go_simp
    try simp only [Act.put, List.setIfInBounds_toArray, List.set_cons_zero, List.set_cons_succ]
    refine wpAnyH_take (i := 5) (oi := ⟨_, _, _, _, _, _⟩) (v := .pointer (some ⟨g, 0, none⟩)) rfl (by kernel_rfl) (by kernel_rfl) (by kernel_rfl) (fun _ _ _ h => h) (Or.inl ⟨wanted_free rfl, fun w' hSw => ?_⟩) hHeld ?_
    · obtain ⟨s0, s1, s2⟩ := hSw
      go_simp
    try simp only [Act.put, List.setIfInBounds_toArray, List.set_cons_zero, List.set_cons_succ]
    refine wpAnyH_take (i := 6) (oi := ⟨_, _, _, _, _, _⟩) (v := .pointer (some ⟨g, 1, none⟩)) rfl (by kernel_rfl) (by kernel_rfl) (by kernel_rfl) (fun _ _ _ h => h) (Or.inl ⟨wanted_free rfl, fun w' hSw => ?_⟩) hHeld ?_
    · obtain ⟨s0, s1, s2⟩ := hSw
      go_simp
    try simp only [Act.put, List.setIfInBounds_toArray, List.set_cons_zero, List.set_cons_succ]
    refine wpAnyH_take (i := 7) (oi := ⟨_, _, _, _, _, _⟩) (v := .int .i64 (p : Int)) rfl (by kernel_rfl) (by kernel_rfl) (by kernel_rfl) (fun _ _ _ h => h) (Or.inl ⟨wanted_free rfl, fun w' hSw => ?_⟩) hHeld ?_
    · obtain ⟨s0, s1, s2⟩ := hSw
      go_simp
    try simp only [Act.put, List.setIfInBounds_toArray, List.set_cons_zero, List.set_cons_succ]
    have HKW := KpM.drew (KpM.start h (srv_ne _ _ _))
    generalize w.drew = W at *
    clear hHeld h
    refine wpAnyH_ready (rs := [8, 9]) (by kernel_rfl) (by simp) (AllReadyH.cons (o := ⟨_, _, _, _, _, _⟩) rfl (fun K hK => ?_) (AllReadyH.cons (o := ⟨_, _, _, _, _, _⟩) rfl (fun K hK => ?_) AllReadyH.nil))
    · as_aux_lemma =>
      rewrite [if_pos (wanted_free rfl)]
      go_simp
      refine (hN W).mono ?_
      rintro e Wc ⟨rfl, hBWc⟩
      have HKWc := KpM.call HKW hBWc
      go_wp2_with fail
      refine hK.out _ _ (KpM.rowH HKWc).sr (fun _ => ?_)
      clear hK K
      try simp only [Act.put, List.setIfInBounds_toArray, List.set_cons_zero, List.set_cons_succ]
      refine wpAnyH_ready (rs := [9]) (by kernel_rfl) (by simp) (AllReadyH.cons (o := ⟨_, _, _, _, _, _⟩) rfl (fun K hK => ?_) AllReadyH.nil)
      rewrite [if_pos (wanted_free rfl)]
      with_reducible refine wp_allocV 161 (by with_unfolding_all rfl) (gvr 0 0 0) Try.infoNo ?_
      intro Wca hAWca hBWca
      have HKWca := KpM.new HKWc hAWca (gvr_ne _ _ _) hBWca
      refine hK.out _ _ (KpM.rowH HKWca).sr (fun _ => ?_)
      clear hK K
      try simp only [Act.put, List.setIfInBounds_toArray, List.set_cons_zero, List.set_cons_succ]
      refine wpAnyH_ready (rs := [10]) (by kernel_rfl) (by simp) (AllReadyH.cons (o := ⟨_, _, _, _, _, _⟩) rfl (fun K hK => ?_) AllReadyH.nil)
      rewrite [if_pos (wanted_free rfl)]
      with_reducible refine wp_storeV 161 (.tmp 3) (.tmp 12) (by with_unfolding_all rfl) Wc.heap.size (gvr 0 0 0) (gvr n b c) (by with_unfolding_all rfl) (by with_unfolding_all rfl) (KpM.get HKWca (List.mem_cons_self ..)) 3 Try.sizeNo (by with_unfolding_all rfl) (by with_unfolding_all rfl) (gvr_one _ _ _) ?_
      intro wf hAf hOf
      have HKf := KpM.put HKWca (fun x hx => by cases hx) hAf (gvr_ne _ _ _) hOf
      refine hK.out _ _ (KpM.rowH HKf).sr (fun _ => ?_)
      clear hK K
      refine wpAnyH_done (by kernel_rfl) ?_ _
      generalize Wc.heap.size = GA at *
      obtain ⟨r0, r1, r2⟩ := (KpM.rowH HKf).sr
      obtain ⟨x0, x1, x2⟩ := (KpM.get HKf (List.mem_cons_self ..)).gvr
      clear HKW HKWc HKWca
      go_wp2_with (first
        | (with_reducible refine wpList_cellB (w := wf) (by with_unfolding_all rfl) 4 (.tmp 24) (.const (.bool true)) (by with_unfolding_all rfl) g 2 (srv t p true) (srv t p true) true (by with_unfolding_all rfl) (by with_unfolding_all rfl) Try.siz1B (KpM.rowH HKf) (by simp [srv]) (by with_unfolding_all rfl) ?_; intro wz hAz hBz hFz hSz; have Oz := HKf.out.only.trans (Only.set hBz hFz hSz)))
      go_ret
      exact ⟨rfl, hAz, Oz⟩
    · as_aux_lemma =>
      rewrite [if_pos (wanted_free rfl)]
      with_reducible refine wp_allocV 161 (by with_unfolding_all rfl) (gvr 0 0 0) Try.infoNo ?_
      intro Wa hAWa hBWa
      have HKWa := KpM.new HKW hAWa (gvr_ne _ _ _) hBWa
      refine hK.out _ _ (KpM.rowH HKWa).sr (fun _ => ?_)
      clear hK K
      try simp only [Act.put, List.setIfInBounds_toArray, List.set_cons_zero, List.set_cons_succ]
      refine wpAnyH_ready (rs := [8]) (by kernel_rfl) (by simp) (AllReadyH.cons (o := ⟨_, _, _, _, _, _⟩) rfl (fun K hK => ?_) AllReadyH.nil)
      rewrite [if_pos (wanted_free rfl)]
      go_simp
      refine (hN Wa).mono ?_
      rintro e Wac ⟨rfl, hBWac⟩
      have HKWac := KpM.call HKWa hBWac
      go_wp2_with fail
      refine hK.out _ _ (KpM.rowH HKWac).sr (fun _ => ?_)
      clear hK K
      try simp only [Act.put, List.setIfInBounds_toArray, List.set_cons_zero, List.set_cons_succ]
      refine wpAnyH_ready (rs := [10]) (by kernel_rfl) (by simp) (AllReadyH.cons (o := ⟨_, _, _, _, _, _⟩) rfl (fun K hK => ?_) AllReadyH.nil)
      rewrite [if_pos (wanted_free rfl)]
      with_reducible refine wp_storeV 161 (.tmp 3) (.tmp 12) (by with_unfolding_all rfl) W.heap.size (gvr 0 0 0) (gvr n b c) (by with_unfolding_all rfl) (by with_unfolding_all rfl) (KpM.get HKWac (List.mem_cons_self ..)) 3 Try.sizeNo (by with_unfolding_all rfl) (by with_unfolding_all rfl) (gvr_one _ _ _) ?_
      intro wf hAf hOf
      have HKf := KpM.put HKWac (fun x hx => by cases hx) hAf (gvr_ne _ _ _) hOf
      refine hK.out _ _ (KpM.rowH HKf).sr (fun _ => ?_)
      clear hK K
      refine wpAnyH_done (by kernel_rfl) ?_ _
      generalize W.heap.size = GA at *
      obtain ⟨r0, r1, r2⟩ := (KpM.rowH HKf).sr
      obtain ⟨x0, x1, x2⟩ := (KpM.get HKf (List.mem_cons_self ..)).gvr
      clear HKW HKWa HKWac
      go_wp2_with (first
        | (with_reducible refine wpList_cellB (w := wf) (by with_unfolding_all rfl) 4 (.tmp 24) (.const (.bool true)) (by with_unfolding_all rfl) g 2 (srv t p true) (srv t p true) true (by with_unfolding_all rfl) (by with_unfolding_all rfl) Try.siz1B (KpM.rowH HKf) (by simp [srv]) (by with_unfolding_all rfl) ?_; intro wz hAz hBz hFz hSz; have Oz := HKf.out.only.trans (Only.set hBz hFz hSz)))
      go_ret
      exact ⟨rfl, hAz, Oz⟩
  | false =>
    have hc' : ¬ c = 0 := hc.elim (fun h => by cases h) id
    have e1 : (c == 0) = false := beq_eq_false_iff_ne.2 hc'
    clear hc
    go_enter Try.func104, Try.ntmps104
    go_wp2_with fail
    refine wp_region_held_drew (S := fun w' => w'.cell? ⟨g, 0, none⟩ = some (.string t) ∧ w'.cell? ⟨g, 1, none⟩ = some (.int .i64 (p : Int)) ∧ w'.cell? ⟨g, 2, none⟩ = some (.bool false)) (by kernel_rfl) h.drew.sr (fun hHeld => ?_)
    refine wpAnyH_take (i := 0) (oi := ⟨_, _, _, _, _, _⟩) (v := .pointer (some ⟨g, 0, none⟩)) rfl (by kernel_rfl) (by kernel_rfl) (by kernel_rfl) (fun _ _ _ h => h) (Or.inl ⟨wanted_free rfl, fun w' hSw => ?_⟩) hHeld ?_
    · obtain ⟨s0, s1, s2⟩ := hSw
      go_simp
    try simp only [Act.put, List.setIfInBounds_toArray, List.set_cons_zero, List.set_cons_succ]
    refine wpAnyH_take (i := 1) (oi := ⟨_, _, _, _, _, _⟩) (v := .pointer (some ⟨g, 0, none⟩)) rfl (by kernel_rfl) (by kernel_rfl) (by kernel_rfl) (fun _ _ _ h => h) (Or.inl ⟨wanted_free rfl, fun w' hSw => ?_⟩) hHeld ?_
    · obtain ⟨s0, s1, s2⟩ := hSw
      go_simp
    try simp only [Act.put, List.setIfInBounds_toArray, List.set_cons_zero, List.set_cons_succ]
    refine wpAnyH_take (i := 2) (oi := ⟨_, _, _, _, _, _⟩) (v := .pointer (some ⟨g, 0, none⟩)) rfl (by kernel_rfl) (by kernel_rfl) (by kernel_rfl) (fun _ _ _ h => h) (Or.inl ⟨wanted_free rfl, fun w' hSw => ?_⟩) hHeld ?_
    · obtain ⟨s0, s1, s2⟩ := hSw
      go_simp
    try simp only [Act.put, List.setIfInBounds_toArray, List.set_cons_zero, List.set_cons_succ]
    refine wpAnyH_take (i := 3) (oi := ⟨_, _, _, _, _, _⟩) (v := .string t) rfl (by kernel_rfl) (by kernel_rfl) (by kernel_rfl) (fun _ _ _ h => h) (Or.inl ⟨wanted_free rfl, fun w' hSw => ?_⟩) hHeld ?_
    · obtain ⟨s0, s1, s2⟩ := hSw
      go_simp
    try simp only [Act.put, List.setIfInBounds_toArray, List.set_cons_zero, List.set_cons_succ]
    refine wpAnyH_take (i := 4) (oi := ⟨_, _, _, _, _, _⟩) (v := .pointer (some ⟨g, 0, none⟩)) rfl (by kernel_rfl) (by kernel_rfl) (by kernel_rfl) (fun _ _ _ h => h) (Or.inl ⟨wanted_free rfl, fun w' hSw => ?_⟩) hHeld ?_
    · obtain ⟨s0, s1, s2⟩ := hSw
      go_simp
    try simp only [Act.put, List.setIfInBounds_toArray, List.set_cons_zero, List.set_cons_succ]
    refine wpAnyH_take (i := 5) (oi := ⟨_, _, _, _, _, _⟩) (v := .pointer (some ⟨g, 0, none⟩)) rfl (by kernel_rfl) (by kernel_rfl) (by kernel_rfl) (fun _ _ _ h => h) (Or.inl ⟨wanted_free rfl, fun w' hSw => ?_⟩) hHeld ?_
    · obtain ⟨s0, s1, s2⟩ := hSw
      go_simp
    try simp only [Act.put, List.setIfInBounds_toArray, List.set_cons_zero, List.set_cons_succ]
    refine wpAnyH_take (i := 6) (oi := ⟨_, _, _, _, _, _⟩) (v := .pointer (some ⟨g, 1, none⟩)) rfl (by kernel_rfl) (by kernel_rfl) (by kernel_rfl) (fun _ _ _ h => h) (Or.inl ⟨wanted_free rfl, fun w' hSw => ?_⟩) hHeld ?_
    · obtain ⟨s0, s1, s2⟩ := hSw
      go_simp
    try simp only [Act.put, List.setIfInBounds_toArray, List.set_cons_zero, List.set_cons_succ]
    refine wpAnyH_take (i := 7) (oi := ⟨_, _, _, _, _, _⟩) (v := .int .i64 (p : Int)) rfl (by kernel_rfl) (by kernel_rfl) (by kernel_rfl) (fun _ _ _ h => h) (Or.inl ⟨wanted_free rfl, fun w' hSw => ?_⟩) hHeld ?_
    · obtain ⟨s0, s1, s2⟩ := hSw
      go_simp
    try simp only [Act.put, List.setIfInBounds_toArray, List.set_cons_zero, List.set_cons_succ]
    have HKW := KpM.drew (KpM.start h (srv_ne _ _ _))
    generalize w.drew = W at *
    clear hHeld h
    refine wpAnyH_ready (rs := [8, 9]) (by kernel_rfl) (by simp) (AllReadyH.cons (o := ⟨_, _, _, _, _, _⟩) rfl (fun K hK => ?_) (AllReadyH.cons (o := ⟨_, _, _, _, _, _⟩) rfl (fun K hK => ?_) AllReadyH.nil))
    · as_aux_lemma =>
      rewrite [if_pos (wanted_free rfl)]
      go_simp
      refine (hN W).mono ?_
      rintro e Wc ⟨rfl, hBWc⟩
      have HKWc := KpM.call HKW hBWc
      go_wp2_with fail
      refine hK.out _ _ (KpM.rowH HKWc).sr (fun _ => ?_)
      clear hK K
      try simp only [Act.put, List.setIfInBounds_toArray, List.set_cons_zero, List.set_cons_succ]
      refine wpAnyH_ready (rs := [9]) (by kernel_rfl) (by simp) (AllReadyH.cons (o := ⟨_, _, _, _, _, _⟩) rfl (fun K hK => ?_) AllReadyH.nil)
      rewrite [if_pos (wanted_free rfl)]
      with_reducible refine wp_allocV 161 (by with_unfolding_all rfl) (gvr 0 0 0) Try.infoNo ?_
      intro Wca hAWca hBWca
      have HKWca := KpM.new HKWc hAWca (gvr_ne _ _ _) hBWca
      refine hK.out _ _ (KpM.rowH HKWca).sr (fun _ => ?_)
      clear hK K
      try simp only [Act.put, List.setIfInBounds_toArray, List.set_cons_zero, List.set_cons_succ]
      refine wpAnyH_ready (rs := [10]) (by kernel_rfl) (by simp) (AllReadyH.cons (o := ⟨_, _, _, _, _, _⟩) rfl (fun K hK => ?_) AllReadyH.nil)
      rewrite [if_pos (wanted_free rfl)]
      with_reducible refine wp_storeV 161 (.tmp 3) (.tmp 12) (by with_unfolding_all rfl) Wc.heap.size (gvr 0 0 0) (gvr n b c) (by with_unfolding_all rfl) (by with_unfolding_all rfl) (KpM.get HKWca (List.mem_cons_self ..)) 3 Try.sizeNo (by with_unfolding_all rfl) (by with_unfolding_all rfl) (gvr_one _ _ _) ?_
      intro wf hAf hOf
      have HKf := KpM.put HKWca (fun x hx => by cases hx) hAf (gvr_ne _ _ _) hOf
      refine hK.out _ _ (KpM.rowH HKf).sr (fun _ => ?_)
      clear hK K
      refine wpAnyH_done (by kernel_rfl) ?_ _
      generalize Wc.heap.size = GA at *
      obtain ⟨r0, r1, r2⟩ := (KpM.rowH HKf).sr
      obtain ⟨x0, x1, x2⟩ := (KpM.get HKf (List.mem_cons_self ..)).gvr
      clear HKW HKWc HKWca
      go_wp2_with (first
        | (with_reducible refine wpList_cellB (w := wf) (by with_unfolding_all rfl) 4 (.tmp 24) (.const (.bool true)) (by with_unfolding_all rfl) g 2 (srv t p false) (srv t p true) true (by with_unfolding_all rfl) (by with_unfolding_all rfl) Try.siz1B (KpM.rowH HKf) (by simp [srv]) (by with_unfolding_all rfl) ?_; intro wz hAz hBz hFz hSz; have Oz := HKf.out.only.trans (Only.set hBz hFz hSz)))
      go_ret
      exact ⟨rfl, hAz, Oz⟩
    · as_aux_lemma =>
      rewrite [if_pos (wanted_free rfl)]
      with_reducible refine wp_allocV 161 (by with_unfolding_all rfl) (gvr 0 0 0) Try.infoNo ?_
      intro Wa hAWa hBWa
      have HKWa := KpM.new HKW hAWa (gvr_ne _ _ _) hBWa
      refine hK.out _ _ (KpM.rowH HKWa).sr (fun _ => ?_)
      clear hK K
      try simp only [Act.put, List.setIfInBounds_toArray, List.set_cons_zero, List.set_cons_succ]
      refine wpAnyH_ready (rs := [8]) (by kernel_rfl) (by simp) (AllReadyH.cons (o := ⟨_, _, _, _, _, _⟩) rfl (fun K hK => ?_) AllReadyH.nil)
      rewrite [if_pos (wanted_free rfl)]
      go_simp
      refine (hN Wa).mono ?_
      rintro e Wac ⟨rfl, hBWac⟩
      have HKWac := KpM.call HKWa hBWac
      go_wp2_with fail
      refine hK.out _ _ (KpM.rowH HKWac).sr (fun _ => ?_)
      clear hK K
      try simp only [Act.put, List.setIfInBounds_toArray, List.set_cons_zero, List.set_cons_succ]
      refine wpAnyH_ready (rs := [10]) (by kernel_rfl) (by simp) (AllReadyH.cons (o := ⟨_, _, _, _, _, _⟩) rfl (fun K hK => ?_) AllReadyH.nil)
      rewrite [if_pos (wanted_free rfl)]
      with_reducible refine wp_storeV 161 (.tmp 3) (.tmp 12) (by with_unfolding_all rfl) W.heap.size (gvr 0 0 0) (gvr n b c) (by with_unfolding_all rfl) (by with_unfolding_all rfl) (KpM.get HKWac (List.mem_cons_self ..)) 3 Try.sizeNo (by with_unfolding_all rfl) (by with_unfolding_all rfl) (gvr_one _ _ _) ?_
      intro wf hAf hOf
      have HKf := KpM.put HKWac (fun x hx => by cases hx) hAf (gvr_ne _ _ _) hOf
      refine hK.out _ _ (KpM.rowH HKf).sr (fun _ => ?_)
      clear hK K
      refine wpAnyH_done (by kernel_rfl) ?_ _
      generalize W.heap.size = GA at *
      obtain ⟨r0, r1, r2⟩ := (KpM.rowH HKf).sr
      obtain ⟨x0, x1, x2⟩ := (KpM.get HKf (List.mem_cons_self ..)).gvr
      clear HKW HKWa HKWac
      go_wp2_with (first
        | (with_reducible refine wpList_cellB (w := wf) (by with_unfolding_all rfl) 4 (.tmp 24) (.const (.bool true)) (by with_unfolding_all rfl) g 2 (srv t p false) (srv t p true) true (by with_unfolding_all rfl) (by with_unfolding_all rfl) Try.siz1B (KpM.rowH HKf) (by simp [srv]) (by with_unfolding_all rfl) ?_; intro wz hAz hBz hFz hSz; have Oz := HKf.out.only.trans (Only.set hBz hFz hSz)))
      go_ret
      exact ⟨rfl, hAz, Oz⟩
set_option maxRecDepth 100000 in
set_option maxHeartbeats 1000000 in
theorem spNumYes (g p : Nat) (t : ByteArray) (w : World) (hs : t.size ≤ maxLen) (hp : p ≤ t.size) (b : Nat) (n : Int) (hn : numO t p = some (n, b)) (h : RowV w g (srv t p false)) :
    Calls Try.prog 104 #[.pointer (some ⟨g, 0, none⟩)] w fun e w' => e = .returned (.int .i64 n) ∧ RowV w' g (srv t b false) ∧ Only g w w' := by
  obtain ⟨hg, -, -⟩ := numO_some hn
  have hN : ∀ w0, Calls Try.prog 140 #[.string t, .int .i64 (p : Int)] w0 fun e w' => e = .returned (.agg #[.int .i64 n, .int .i64 (b : Int), .int .i64 0]) ∧ Below w0.heap.size w0 w' := fun w0 => by
    have := specGet t p w0 hs (i64n (by unfold maxLen at hs; omega))
    rw [hg] at this
    exact this
  clear hg hn
  go_enter Try.func104, Try.ntmps104
  go_wp2_with fail
  refine wp_region_held_drew (S := fun w' => w'.cell? ⟨g, 0, none⟩ = some (.string t) ∧ w'.cell? ⟨g, 1, none⟩ = some (.int .i64 (p : Int)) ∧ w'.cell? ⟨g, 2, none⟩ = some (.bool false)) (by kernel_rfl) h.drew.sr (fun hHeld => ?_)
  refine wpAnyH_take (i := 0) (oi := ⟨_, _, _, _, _, _⟩) (v := .pointer (some ⟨g, 0, none⟩)) rfl (by kernel_rfl) (by kernel_rfl) (by kernel_rfl) (fun _ _ _ h => h) (Or.inl ⟨wanted_free rfl, fun w' hSw => ?_⟩) hHeld ?_
  · obtain ⟨s0, s1, s2⟩ := hSw
    go_simp
  try simp only [Act.put, List.setIfInBounds_toArray, List.set_cons_zero, List.set_cons_succ]
  refine wpAnyH_take (i := 1) (oi := ⟨_, _, _, _, _, _⟩) (v := .pointer (some ⟨g, 0, none⟩)) rfl (by kernel_rfl) (by kernel_rfl) (by kernel_rfl) (fun _ _ _ h => h) (Or.inl ⟨wanted_free rfl, fun w' hSw => ?_⟩) hHeld ?_
  · obtain ⟨s0, s1, s2⟩ := hSw
    go_simp
  try simp only [Act.put, List.setIfInBounds_toArray, List.set_cons_zero, List.set_cons_succ]
  refine wpAnyH_take (i := 2) (oi := ⟨_, _, _, _, _, _⟩) (v := .pointer (some ⟨g, 0, none⟩)) rfl (by kernel_rfl) (by kernel_rfl) (by kernel_rfl) (fun _ _ _ h => h) (Or.inl ⟨wanted_free rfl, fun w' hSw => ?_⟩) hHeld ?_
  · obtain ⟨s0, s1, s2⟩ := hSw
    go_simp
  try simp only [Act.put, List.setIfInBounds_toArray, List.set_cons_zero, List.set_cons_succ]
  refine wpAnyH_take (i := 3) (oi := ⟨_, _, _, _, _, _⟩) (v := .string t) rfl (by kernel_rfl) (by kernel_rfl) (by kernel_rfl) (fun _ _ _ h => h) (Or.inl ⟨wanted_free rfl, fun w' hSw => ?_⟩) hHeld ?_
  · obtain ⟨s0, s1, s2⟩ := hSw
    go_simp
  try simp only [Act.put, List.setIfInBounds_toArray, List.set_cons_zero, List.set_cons_succ]
  refine wpAnyH_take (i := 4) (oi := ⟨_, _, _, _, _, _⟩) (v := .pointer (some ⟨g, 0, none⟩)) rfl (by kernel_rfl) (by kernel_rfl) (by kernel_rfl) (fun _ _ _ h => h) (Or.inl ⟨wanted_free rfl, fun w' hSw => ?_⟩) hHeld ?_
  · obtain ⟨s0, s1, s2⟩ := hSw
    go_simp
  try simp only [Act.put, List.setIfInBounds_toArray, List.set_cons_zero, List.set_cons_succ]
  refine wpAnyH_take (i := 5) (oi := ⟨_, _, _, _, _, _⟩) (v := .pointer (some ⟨g, 0, none⟩)) rfl (by kernel_rfl) (by kernel_rfl) (by kernel_rfl) (fun _ _ _ h => h) (Or.inl ⟨wanted_free rfl, fun w' hSw => ?_⟩) hHeld ?_
  · obtain ⟨s0, s1, s2⟩ := hSw
    go_simp
  try simp only [Act.put, List.setIfInBounds_toArray, List.set_cons_zero, List.set_cons_succ]
  refine wpAnyH_take (i := 6) (oi := ⟨_, _, _, _, _, _⟩) (v := .pointer (some ⟨g, 1, none⟩)) rfl (by kernel_rfl) (by kernel_rfl) (by kernel_rfl) (fun _ _ _ h => h) (Or.inl ⟨wanted_free rfl, fun w' hSw => ?_⟩) hHeld ?_
  · obtain ⟨s0, s1, s2⟩ := hSw
    go_simp
  try simp only [Act.put, List.setIfInBounds_toArray, List.set_cons_zero, List.set_cons_succ]
  refine wpAnyH_take (i := 7) (oi := ⟨_, _, _, _, _, _⟩) (v := .int .i64 (p : Int)) rfl (by kernel_rfl) (by kernel_rfl) (by kernel_rfl) (fun _ _ _ h => h) (Or.inl ⟨wanted_free rfl, fun w' hSw => ?_⟩) hHeld ?_
  · obtain ⟨s0, s1, s2⟩ := hSw
    go_simp
  try simp only [Act.put, List.setIfInBounds_toArray, List.set_cons_zero, List.set_cons_succ]
  have HKW := KpM.drew (KpM.start h (srv_ne _ _ _))
  generalize w.drew = W at *
  clear hHeld h
  refine wpAnyH_ready (rs := [8, 9]) (by kernel_rfl) (by simp) (AllReadyH.cons (o := ⟨_, _, _, _, _, _⟩) rfl (fun K hK => ?_) (AllReadyH.cons (o := ⟨_, _, _, _, _, _⟩) rfl (fun K hK => ?_) AllReadyH.nil))
  · as_aux_lemma =>
    rewrite [if_pos (wanted_free rfl)]
    go_simp
    refine (hN W).mono ?_
    rintro e Wc ⟨rfl, hBWc⟩
    have HKWc := KpM.call HKW hBWc
    go_wp2_with fail
    refine hK.out _ _ (KpM.rowH HKWc).sr (fun _ => ?_)
    clear hK K
    try simp only [Act.put, List.setIfInBounds_toArray, List.set_cons_zero, List.set_cons_succ]
    refine wpAnyH_ready (rs := [9]) (by kernel_rfl) (by simp) (AllReadyH.cons (o := ⟨_, _, _, _, _, _⟩) rfl (fun K hK => ?_) AllReadyH.nil)
    rewrite [if_pos (wanted_free rfl)]
    with_reducible refine wp_allocV 161 (by with_unfolding_all rfl) (gvr 0 0 0) Try.infoNo ?_
    intro Wca hAWca hBWca
    have HKWca := KpM.new HKWc hAWca (gvr_ne _ _ _) hBWca
    refine hK.out _ _ (KpM.rowH HKWca).sr (fun _ => ?_)
    clear hK K
    try simp only [Act.put, List.setIfInBounds_toArray, List.set_cons_zero, List.set_cons_succ]
    refine wpAnyH_ready (rs := [10]) (by kernel_rfl) (by simp) (AllReadyH.cons (o := ⟨_, _, _, _, _, _⟩) rfl (fun K hK => ?_) AllReadyH.nil)
    rewrite [if_pos (wanted_free rfl)]
    with_reducible refine wp_storeV 161 (.tmp 3) (.tmp 12) (by with_unfolding_all rfl) Wc.heap.size (gvr 0 0 0) (gvr n (b : Int) 0) (by with_unfolding_all rfl) (by with_unfolding_all rfl) (KpM.get HKWca (List.mem_cons_self ..)) 3 Try.sizeNo (by with_unfolding_all rfl) (by with_unfolding_all rfl) (gvr_one _ _ _) ?_
    intro wf hAf hOf
    have HKf := KpM.put HKWca (fun x hx => by cases hx) hAf (gvr_ne _ _ _) hOf
    refine hK.out _ _ (KpM.rowH HKf).sr (fun _ => ?_)
    clear hK K
    refine wpAnyH_done (by kernel_rfl) ?_ _
    generalize Wc.heap.size = GA at *
    obtain ⟨r0, r1, r2⟩ := (KpM.rowH HKf).sr
    obtain ⟨x0, x1, x2⟩ := (KpM.get HKf (List.mem_cons_self ..)).gvr
    clear HKW HKWc HKWca
    go_wp2_with (first
      | (with_reducible refine wpList_cellH (w := wf) (by with_unfolding_all rfl) 2 (.tmp 29) (.tmp 27) (by with_unfolding_all rfl) g 1 (srv t p false) (srv t b false) (.int .i64 (b : Int)) (by with_unfolding_all rfl) (by with_unfolding_all rfl) rfl Try.siz1I (KpM.rowH HKf) (by simp [srv]) (by with_unfolding_all rfl) ?_; intro wz hAz hBz hFz hSz; have Oz := HKf.out.only.trans (Only.set hBz hFz hSz); obtain ⟨y0, y1, y2⟩ := ((Only.set hBz hFz hSz).row (KpM.get HKf (List.mem_cons_self ..)) (gvr_ne _ _ _) (by have := (HKf.out.own _ (List.mem_cons_self ..)).1; have := HKf.out.lt; simp at *; omega)).gvr))
    go_ret
    exact ⟨rfl, hAz, Oz⟩
  · as_aux_lemma =>
    rewrite [if_pos (wanted_free rfl)]
    with_reducible refine wp_allocV 161 (by with_unfolding_all rfl) (gvr 0 0 0) Try.infoNo ?_
    intro Wa hAWa hBWa
    have HKWa := KpM.new HKW hAWa (gvr_ne _ _ _) hBWa
    refine hK.out _ _ (KpM.rowH HKWa).sr (fun _ => ?_)
    clear hK K
    try simp only [Act.put, List.setIfInBounds_toArray, List.set_cons_zero, List.set_cons_succ]
    refine wpAnyH_ready (rs := [8]) (by kernel_rfl) (by simp) (AllReadyH.cons (o := ⟨_, _, _, _, _, _⟩) rfl (fun K hK => ?_) AllReadyH.nil)
    rewrite [if_pos (wanted_free rfl)]
    go_simp
    refine (hN Wa).mono ?_
    rintro e Wac ⟨rfl, hBWac⟩
    have HKWac := KpM.call HKWa hBWac
    go_wp2_with fail
    refine hK.out _ _ (KpM.rowH HKWac).sr (fun _ => ?_)
    clear hK K
    try simp only [Act.put, List.setIfInBounds_toArray, List.set_cons_zero, List.set_cons_succ]
    refine wpAnyH_ready (rs := [10]) (by kernel_rfl) (by simp) (AllReadyH.cons (o := ⟨_, _, _, _, _, _⟩) rfl (fun K hK => ?_) AllReadyH.nil)
    rewrite [if_pos (wanted_free rfl)]
    with_reducible refine wp_storeV 161 (.tmp 3) (.tmp 12) (by with_unfolding_all rfl) W.heap.size (gvr 0 0 0) (gvr n (b : Int) 0) (by with_unfolding_all rfl) (by with_unfolding_all rfl) (KpM.get HKWac (List.mem_cons_self ..)) 3 Try.sizeNo (by with_unfolding_all rfl) (by with_unfolding_all rfl) (gvr_one _ _ _) ?_
    intro wf hAf hOf
    have HKf := KpM.put HKWac (fun x hx => by cases hx) hAf (gvr_ne _ _ _) hOf
    refine hK.out _ _ (KpM.rowH HKf).sr (fun _ => ?_)
    clear hK K
    refine wpAnyH_done (by kernel_rfl) ?_ _
    generalize W.heap.size = GA at *
    obtain ⟨r0, r1, r2⟩ := (KpM.rowH HKf).sr
    obtain ⟨x0, x1, x2⟩ := (KpM.get HKf (List.mem_cons_self ..)).gvr
    clear HKW HKWa HKWac
    go_wp2_with (first
      | (with_reducible refine wpList_cellH (w := wf) (by with_unfolding_all rfl) 2 (.tmp 29) (.tmp 27) (by with_unfolding_all rfl) g 1 (srv t p false) (srv t b false) (.int .i64 (b : Int)) (by with_unfolding_all rfl) (by with_unfolding_all rfl) rfl Try.siz1I (KpM.rowH HKf) (by simp [srv]) (by with_unfolding_all rfl) ?_; intro wz hAz hBz hFz hSz; have Oz := HKf.out.only.trans (Only.set hBz hFz hSz); obtain ⟨y0, y1, y2⟩ := ((Only.set hBz hFz hSz).row (KpM.get HKf (List.mem_cons_self ..)) (gvr_ne _ _ _) (by have := (HKf.out.own _ (List.mem_cons_self ..)).1; have := HKf.out.lt; simp at *; omega)).gvr))
    go_ret
    exact ⟨rfl, hAz, Oz⟩
/- What num tells, whatever the reader's state. -/
def NumR (t : ByteArray) (p : Nat) (bad : Bool) (n : Int) (p' : Nat) (bad' : Bool) : Prop := p' ≤ t.size ∧ ((bad = false ∧ numO t p = some (n, p') ∧ bad' = false) ∨ ((bad = true ∨ numO t p = none) ∧ bad' = true))
theorem spNum (g p : Nat) (t : ByteArray) (w : World) (hs : t.size ≤ maxLen) (hp : p ≤ t.size) (bad : Bool) (h : RowV w g (srv t p bad)) :
    Calls Try.prog 104 #[.pointer (some ⟨g, 0, none⟩)] w fun e w' => ∃ n p' bad', e = .returned (.int .i64 n) ∧ NumR t p bad n p' bad' ∧ RowV w' g (srv t p' bad') ∧ Only g w w' := by
  by_cases hb : bad = true ∨ numO t p = none
  · refine (spNumBad g p t w hs hp bad hb h).mono ?_
    rintro e w' ⟨rfl, h1, h2⟩
    exact ⟨0, p, true, rfl, ⟨hp, Or.inr ⟨hb, rfl⟩⟩, h1, h2⟩
  · have hb1 : bad = false := by cases bad with
      | true => exact absurd (Or.inl rfl) hb
      | false => rfl
    subst hb1
    cases hn : numO t p with
    | none => exact absurd (Or.inr hn) hb
    | some x =>
      obtain ⟨n, b⟩ := x
      refine (spNumYes g p t w hs hp b n hn h).mono ?_
      rintro e w' ⟨rfl, h1, h2⟩
      exact ⟨n, b, false, rfl, ⟨(numO_some hn).2.1, Or.inl ⟨rfl, hn, rfl⟩⟩, h1, h2⟩
end Go.Proofs.Ytchfpiadfmnphaa
