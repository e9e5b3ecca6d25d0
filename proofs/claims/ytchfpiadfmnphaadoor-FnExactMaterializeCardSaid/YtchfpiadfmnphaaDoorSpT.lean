/- The specification's reader: text, many. -/
import Derived.Test.YtchfpiadfmnphaaDoorJn22
import Derived.Test.YtchfpiadfmnphaaDoorJn12
import Derived.Test.YtchfpiadfmnphaaDoorTxtS
namespace Go.Proofs.YtchfpiadfmnphaaDoor
open Go.RowKit
set_option linter.unusedVariables false

def tvr (n : ByteArray) (b c : Int) : List Value := [.string n, .int .i64 b, .int .i64 c]
theorem tvr_ne (n : ByteArray) (b c : Int) : tvr n b c ≠ [] := by simp [tvr]
theorem tvr_one (n : ByteArray) (b c : Int) : ∀ y ∈ tvr n b c, y.oneCell' = true := by
  intro y hy
  simp [tvr] at hy
  rcases hy with h | h | h <;> (rw [h]; rfl)
theorem RowV.tvr {w : World} {g : Nat} {n : ByteArray} {b c : Int} (h : RowV w g (tvr n b c)) : w.cell? ⟨g, 0, none⟩ = some (.string n) ∧ w.cell? ⟨g, 1, none⟩ = some (.int .i64 b) ∧ w.cell? ⟨g, 2, none⟩ = some (.int .i64 c) := ⟨h.cell (k := 0) rfl, h.cell (k := 1) rfl, h.cell (k := 2) rfl⟩
theorem Tryd.infoTo : (Tryd.prog.info? 142).map (fun i => i.zero) = some (some (.agg (Go.Proofs.YtchfpiadfmnphaaDoor.tvr ⟨#[]⟩ 0 0).toArray)) := by kernel_rfl
theorem Tryd.sizeTo : (Tryd.prog.info? 142).map (·.size) = some 3 := by kernel_rfl
set_option maxRecDepth 100000 in
set_option maxHeartbeats 1000000 in
theorem spTxtBad (g p : Nat) (t : ByteArray) (w : World) (hs : t.size ≤ maxLen) (hp : p ≤ t.size) (bad : Bool) (hb : bad = true ∨ textO t p = none) (h : RowV w g (srv t p bad)) :
    Calls Tryd.prog 70 #[.pointer (some ⟨g, 0, none⟩)] w fun e w' => e = .returned (.string ⟨#[]⟩) ∧ RowV w' g (srv t p true) ∧ Only g w w' := by
  obtain ⟨n, b, c, hg, hc⟩ : ∃ n b c, getT t p = ⟨n, b, c⟩ ∧ (bad = true ∨ ¬ c = 0) := by
    rcases hb with hb | hb
    · exact ⟨(getT t p).text, (getT t p).behind, (getT t p).code, rfl, Or.inl hb⟩
    · obtain ⟨c, hc, hg⟩ := textO_none hb
      exact ⟨noText, 0, c, hg, Or.inr hc⟩
  have hN : ∀ w0, Calls Tryd.prog 98 #[.string t, .int .i64 (p : Int)] w0 fun e w' => e = .returned (.agg #[.string n, .int .i64 b, .int .i64 c]) ∧ Below w0.heap.size w0 w' := fun w0 => by
    have := specTxt t p w0 hs (i64n (by unfold maxLen at hs; omega))
    rw [hg] at this
    exact this
  clear hg hb
  cases bad with
  | true =>
    go_enter Tryd.func70, Tryd.ntmps70
    go_wp2_with fail
    refine wp_region_held_drew (S := fun w' => w'.cell? ⟨g, 0, none⟩ = some (.string t) ∧ w'.cell? ⟨g, 1, none⟩ = some (.int .i64 (p : Int)) ∧ w'.cell? ⟨g, 2, none⟩ = some (.bool true)) (by kernel_rfl) h.drew.sr (fun hHeld => ?_)
    refine wpAnyH_take (i := 0) (oi := ⟨_, _, _, _, _, _⟩) (v := .pointer (some ⟨g, 0, none⟩)) rfl (by kernel_rfl) (by kernel_rfl) (by kernel_rfl) (fun _ _ _ h => h) (Or.inl ⟨wanted_free rfl, fun w' hSw => ?_⟩) hHeld ?_
    · obtain ⟨s0, s1, s2⟩ := hSw
      go_simp
    try simp only [Act.put, List.setIfInBounds_toArray, List.set_cons_zero, List.set_cons_succ]
    refine wpAnyH_take (i := 1) (oi := ⟨_, _, _, _, _, _⟩) (v := .pointer (some ⟨g, 0, none⟩)) rfl (by kernel_rfl) (by kernel_rfl) (by kernel_rfl) (fun _ _ _ h => h) (Or.inl ⟨wanted_free rfl, fun w' hSw => ?_⟩) hHeld ?_
    · obtain ⟨s0, s1, s2⟩ := hSw
      go_simp
    try simp only [Act.put, List.setIfInBounds_toArray, List.set_cons_zero, List.set_cons_succ]
    refine wpAnyH_take (i := 2) (oi := ⟨_, _, _, _, _, _⟩) (v := .pointer (some ⟨g, 0, none⟩)) rfl (by kernel_rfl) (by kernel_rfl) (by kernel_rfl) (fun _ _ _ h => h) (Or.inl ⟨wanted_free rfl, fun w' hSw => ?_⟩) hHeld ?_
    · obtain ⟨s0, s1, s2⟩ := hSw
      go_simp
    try simp only [Act.put, List.setIfInBounds_toArray, List.set_cons_zero, List.set_cons_succ]
    refine wpAnyH_take (i := 3) (oi := ⟨_, _, _, _, _, _⟩) (v := .string t) rfl (by kernel_rfl) (by kernel_rfl) (by kernel_rfl) (fun _ _ _ h => h) (Or.inl ⟨wanted_free rfl, fun w' hSw => ?_⟩) hHeld ?_
    · obtain ⟨s0, s1, s2⟩ := hSw
      go_simp
    try simp only [Act.put, List.setIfInBounds_toArray, List.set_cons_zero, List.set_cons_succ]
    refine wpAnyH_take (i := 4) (oi := ⟨_, _, _, _, _, _⟩) (v := .pointer (some ⟨g, 0, none⟩)) rfl (by kernel_rfl) (by kernel_rfl) (by kernel_rfl) (fun _ _ _ h => h) (Or.inl ⟨wanted_free rfl, fun w' hSw => ?_⟩) hHeld ?_
    · obtain ⟨s0, s1, s2⟩ := hSw
      go_simp
    try simp only [Act.put, List.setIfInBounds_toArray, List.set_cons_zero, List.set_cons_succ]
    refine wpAnyH_take (i := 5) (oi := ⟨_, _, _, _, _, _⟩) (v := .pointer (some ⟨g, 0, none⟩)) rfl (by kernel_rfl) (by kernel_rfl) (by kernel_rfl) (fun _ _ _ h => h) (Or.inl ⟨wanted_free rfl, fun w' hSw => ?_⟩) hHeld ?_
    · obtain ⟨s0, s1, s2⟩ := hSw
      go_simp
    try simp only [Act.put, List.setIfInBounds_toArray, List.set_cons_zero, List.set_cons_succ]
    refine wpAnyH_take (i := 6) (oi := ⟨_, _, _, _, _, _⟩) (v := .pointer (some ⟨g, 1, none⟩)) rfl (by kernel_rfl) (by kernel_rfl) (by kernel_rfl) (fun _ _ _ h => h) (Or.inl ⟨wanted_free rfl, fun w' hSw => ?_⟩) hHeld ?_
    · obtain ⟨s0, s1, s2⟩ := hSw
      go_simp
    try simp only [Act.put, List.setIfInBounds_toArray, List.set_cons_zero, List.set_cons_succ]
    refine wpAnyH_take (i := 7) (oi := ⟨_, _, _, _, _, _⟩) (v := .int .i64 (p : Int)) rfl (by kernel_rfl) (by kernel_rfl) (by kernel_rfl) (fun _ _ _ h => h) (Or.inl ⟨wanted_free rfl, fun w' hSw => ?_⟩) hHeld ?_
    · obtain ⟨s0, s1, s2⟩ := hSw
      go_simp
    try simp only [Act.put, List.setIfInBounds_toArray, List.set_cons_zero, List.set_cons_succ]
    have HKW := KpM.drew (KpM.start h (srv_ne _ _ _))
    generalize w.drew = W at *
    clear hHeld h
    refine wpAnyH_ready (rs := [8, 9]) (by kernel_rfl) (by simp) (AllReadyH.cons (o := ⟨_, _, _, _, _, _⟩) rfl (fun K hK => ?_) (AllReadyH.cons (o := ⟨_, _, _, _, _, _⟩) rfl (fun K hK => ?_) AllReadyH.nil))
    · as_aux_lemma =>
      rewrite [if_pos (wanted_free rfl)]
      go_simp
      refine (hN W).mono ?_
      rintro e Wc ⟨rfl, hBWc⟩
      have HKWc := KpM.call HKW hBWc
      go_wp2_with fail
      refine hK.out _ _ (KpM.rowH HKWc).sr (fun _ => ?_)
      clear hK K
      try simp only [Act.put, List.setIfInBounds_toArray, List.set_cons_zero, List.set_cons_succ]
      refine wpAnyH_ready (rs := [9]) (by kernel_rfl) (by simp) (AllReadyH.cons (o := ⟨_, _, _, _, _, _⟩) rfl (fun K hK => ?_) AllReadyH.nil)
      rewrite [if_pos (wanted_free rfl)]
      with_reducible refine wp_allocV 142 (by with_unfolding_all rfl) (tvr ⟨#[]⟩ 0 0) Tryd.infoTo ?_
      intro Wca hAWca hBWca
      have HKWca := KpM.new HKWc hAWca (tvr_ne _ _ _) hBWca
      refine hK.out _ _ (KpM.rowH HKWca).sr (fun _ => ?_)
      clear hK K
      try simp only [Act.put, List.setIfInBounds_toArray, List.set_cons_zero, List.set_cons_succ]
      refine wpAnyH_ready (rs := [10]) (by kernel_rfl) (by simp) (AllReadyH.cons (o := ⟨_, _, _, _, _, _⟩) rfl (fun K hK => ?_) AllReadyH.nil)
      rewrite [if_pos (wanted_free rfl)]
      with_reducible refine wp_storeV 142 (.tmp 3) (.tmp 12) (by with_unfolding_all rfl) Wc.heap.size (tvr ⟨#[]⟩ 0 0) (tvr n b c) (by with_unfolding_all rfl) (by with_unfolding_all rfl) (KpM.get HKWca (List.mem_cons_self ..)) 3 Tryd.sizeTo (by with_unfolding_all rfl) (by with_unfolding_all rfl) (tvr_one _ _ _) ?_
      intro wf hAf hOf
      have HKf := KpM.put HKWca (fun x hx => by cases hx) hAf (tvr_ne _ _ _) hOf
      refine hK.out _ _ (KpM.rowH HKf).sr (fun _ => ?_)
      clear hK K
      refine wpAnyH_done (by kernel_rfl) ?_ _
      generalize Wc.heap.size = GA at *
      obtain ⟨r0, r1, r2⟩ := (KpM.rowH HKf).sr
      obtain ⟨x0, x1, x2⟩ := (KpM.get HKf (List.mem_cons_self ..)).tvr
      clear HKW HKWc HKWca
      go_wp2_with (first
        | (with_reducible refine wpList_cellB (w := wf) (by with_unfolding_all rfl) 4 (.tmp 24) (.const (.bool true)) (by with_unfolding_all rfl) g 2 (srv t p true) (srv t p true) true (by with_unfolding_all rfl) (by with_unfolding_all rfl) Tryd.siz1B (KpM.rowH HKf) (by simp [srv]) (by with_unfolding_all rfl) ?_; intro wz hAz hBz hFz hSz; have Oz := HKf.out.only.trans (Only.set hBz hFz hSz)))
      go_ret
      exact ⟨rfl, hAz, Oz⟩
    · as_aux_lemma =>
      rewrite [if_pos (wanted_free rfl)]
      with_reducible refine wp_allocV 142 (by with_unfolding_all rfl) (tvr ⟨#[]⟩ 0 0) Tryd.infoTo ?_
      intro Wa hAWa hBWa
      have HKWa := KpM.new HKW hAWa (tvr_ne _ _ _) hBWa
      refine hK.out _ _ (KpM.rowH HKWa).sr (fun _ => ?_)
      clear hK K
      try simp only [Act.put, List.setIfInBounds_toArray, List.set_cons_zero, List.set_cons_succ]
      refine wpAnyH_ready (rs := [8]) (by kernel_rfl) (by simp) (AllReadyH.cons (o := ⟨_, _, _, _, _, _⟩) rfl (fun K hK => ?_) AllReadyH.nil)
      rewrite [if_pos (wanted_free rfl)]
      go_simp
      refine (hN Wa).mono ?_
      rintro e Wac ⟨rfl, hBWac⟩
      have HKWac := KpM.call HKWa hBWac
      go_wp2_with fail
      refine hK.out _ _ (KpM.rowH HKWac).sr (fun _ => ?_)
      clear hK K
      try simp only [Act.put, List.setIfInBounds_toArray, List.set_cons_zero, List.set_cons_succ]
      refine wpAnyH_ready (rs := [10]) (by kernel_rfl) (by simp) (AllReadyH.cons (o := ⟨_, _, _, _, _, _⟩) rfl (fun K hK => ?_) AllReadyH.nil)
      rewrite [if_pos (wanted_free rfl)]
      with_reducible refine wp_storeV 142 (.tmp 3) (.tmp 12) (by with_unfolding_all rfl) W.heap.size (tvr ⟨#[]⟩ 0 0) (tvr n b c) (by with_unfolding_all rfl) (by with_unfolding_all rfl) (KpM.get HKWac (List.mem_cons_self ..)) 3 Tryd.sizeTo (by with_unfolding_all rfl) (by with_unfolding_all rfl) (tvr_one _ _ _) ?_
      intro wf hAf hOf
      have HKf := KpM.put HKWac (fun x hx => by cases hx) hAf (tvr_ne _ _ _) hOf
      refine hK.out _ _ (KpM.rowH HKf).sr (fun _ => ?_)
      clear hK K
      refine wpAnyH_done (by kernel_rfl) ?_ _
      generalize W.heap.size = GA at *
      obtain ⟨r0, r1, r2⟩ := (KpM.rowH HKf).sr
      obtain ⟨x0, x1, x2⟩ := (KpM.get HKf (List.mem_cons_self ..)).tvr
      clear HKW HKWa HKWac
      go_wp2_with (first
        | (with_reducible refine wpList_cellB (w := wf) (by with_unfolding_all rfl) 4 (.tmp 24) (.const (.bool true)) (by with_unfolding_all rfl) g 2 (srv t p true) (srv t p true) true (by with_unfolding_all rfl) (by with_unfolding_all rfl) Tryd.siz1B (KpM.rowH HKf) (by simp [srv]) (by with_unfolding_all rfl) ?_; intro wz hAz hBz hFz hSz; have Oz := HKf.out.only.trans (Only.set hBz hFz hSz)))
      go_ret
      exact ⟨rfl, hAz, Oz⟩
  | false =>
    have hc' : ¬ c = 0 := hc.elim (fun h => by cases h) id
    have e1 : (c == 0) = false := beq_eq_false_iff_ne.2 hc'
    clear hc
    go_enter Tryd.func70, Tryd.ntmps70
    go_wp2_with fail
    refine wp_region_held_drew (S := fun w' => w'.cell? ⟨g, 0, none⟩ = some (.string t) ∧ w'.cell? ⟨g, 1, none⟩ = some (.int .i64 (p : Int)) ∧ w'.cell? ⟨g, 2, none⟩ = some (.bool false)) (by kernel_rfl) h.drew.sr (fun hHeld => ?_)
    refine wpAnyH_take (i := 0) (oi := ⟨_, _, _, _, _, _⟩) (v := .pointer (some ⟨g, 0, none⟩)) rfl (by kernel_rfl) (by kernel_rfl) (by kernel_rfl) (fun _ _ _ h => h) (Or.inl ⟨wanted_free rfl, fun w' hSw => ?_⟩) hHeld ?_
    · obtain ⟨s0, s1, s2⟩ := hSw
      go_simp
    try simp only [Act.put, List.setIfInBounds_toArray, List.set_cons_zero, List.set_cons_succ]
    refine wpAnyH_take (i := 1) (oi := ⟨_, _, _, _, _, _⟩) (v := .pointer (some ⟨g, 0, none⟩)) rfl (by kernel_rfl) (by kernel_rfl) (by kernel_rfl) (fun _ _ _ h => h) (Or.inl ⟨wanted_free rfl, fun w' hSw => ?_⟩) hHeld ?_
    · obtain ⟨s0, s1, s2⟩ := hSw
      go_simp
    try simp only [Act.put, List.setIfInBounds_toArray, List.set_cons_zero, List.set_cons_succ]
    refine wpAnyH_take (i := 2) (oi := ⟨_, _, _, _, _, _⟩) (v := .pointer (some ⟨g, 0, none⟩)) rfl (by kernel_rfl) (by kernel_rfl) (by kernel_rfl) (fun _ _ _ h => h) (Or.inl ⟨wanted_free rfl, fun w' hSw => ?_⟩) hHeld ?_
    · obtain ⟨s0, s1, s2⟩ := hSw
      go_simp
    try simp only [Act.put, List.setIfInBounds_toArray, List.set_cons_zero, List.set_cons_succ]
    refine wpAnyH_take (i := 3) (oi := ⟨_, _, _, _, _, _⟩) (v := .string t) rfl (by kernel_rfl) (by kernel_rfl) (by kernel_rfl) (fun _ _ _ h => h) (Or.inl ⟨wanted_free rfl, fun w' hSw => ?_⟩) hHeld ?_
    · obtain ⟨s0, s1, s2⟩ := hSw
      go_simp
    try simp only [Act.put, List.setIfInBounds_toArray, List.set_cons_zero, List.set_cons_succ]
    refine wpAnyH_take (i := 4) (oi := ⟨_, _, _, _, _, _⟩) (v := .pointer (some ⟨g, 0, none⟩)) rfl (by kernel_rfl) (by kernel_rfl) (by kernel_rfl) (fun _ _ _ h => h) (Or.inl ⟨wanted_free rfl, fun w' hSw => ?_⟩) hHeld ?_
    · obtain ⟨s0, s1, s2⟩ := hSw
      go_simp
    try simp only [Act.put, List.setIfInBounds_toArray, List.set_cons_zero, List.set_cons_succ]
    refine wpAnyH_take (i := 5) (oi := ⟨_, _, _, _, _, _⟩) (v := .pointer (some ⟨g, 0, none⟩)) rfl (by kernel_rfl) (by kernel_rfl) (by kernel_rfl) (fun _ _ _ h => h) (Or.inl ⟨wanted_free rfl, fun w' hSw => ?_⟩) hHeld ?_
    · obtain ⟨s0, s1, s2⟩ := hSw
      go_simp
    try simp only [Act.put, List.setIfInBounds_toArray, List.set_cons_zero, List.set_cons_succ]
    refine wpAnyH_take (i := 6) (oi := ⟨_, _, _, _, _, _⟩) (v := .pointer (some ⟨g, 1, none⟩)) rfl (by kernel_rfl) (by kernel_rfl) (by kernel_rfl) (fun _ _ _ h => h) (Or.inl ⟨wanted_free rfl, fun w' hSw => ?_⟩) hHeld ?_
    · obtain ⟨s0, s1, s2⟩ := hSw
      go_simp
    try simp only [Act.put, List.setIfInBounds_toArray, List.set_cons_zero, List.set_cons_succ]
    refine wpAnyH_take (i := 7) (oi := ⟨_, _, _, _, _, _⟩) (v := .int .i64 (p : Int)) rfl (by kernel_rfl) (by kernel_rfl) (by kernel_rfl) (fun _ _ _ h => h) (Or.inl ⟨wanted_free rfl, fun w' hSw => ?_⟩) hHeld ?_
    · obtain ⟨s0, s1, s2⟩ := hSw
      go_simp
    try simp only [Act.put, List.setIfInBounds_toArray, List.set_cons_zero, List.set_cons_succ]
    have HKW := KpM.drew (KpM.start h (srv_ne _ _ _))
    generalize w.drew = W at *
    clear hHeld h
    refine wpAnyH_ready (rs := [8, 9]) (by kernel_rfl) (by simp) (AllReadyH.cons (o := ⟨_, _, _, _, _, _⟩) rfl (fun K hK => ?_) (AllReadyH.cons (o := ⟨_, _, _, _, _, _⟩) rfl (fun K hK => ?_) AllReadyH.nil))
    · as_aux_lemma =>
      rewrite [if_pos (wanted_free rfl)]
      go_simp
      refine (hN W).mono ?_
      rintro e Wc ⟨rfl, hBWc⟩
      have HKWc := KpM.call HKW hBWc
      go_wp2_with fail
      refine hK.out _ _ (KpM.rowH HKWc).sr (fun _ => ?_)
      clear hK K
      try simp only [Act.put, List.setIfInBounds_toArray, List.set_cons_zero, List.set_cons_succ]
      refine wpAnyH_ready (rs := [9]) (by kernel_rfl) (by simp) (AllReadyH.cons (o := ⟨_, _, _, _, _, _⟩) rfl (fun K hK => ?_) AllReadyH.nil)
      rewrite [if_pos (wanted_free rfl)]
      with_reducible refine wp_allocV 142 (by with_unfolding_all rfl) (tvr ⟨#[]⟩ 0 0) Tryd.infoTo ?_
      intro Wca hAWca hBWca
      have HKWca := KpM.new HKWc hAWca (tvr_ne _ _ _) hBWca
      refine hK.out _ _ (KpM.rowH HKWca).sr (fun _ => ?_)
      clear hK K
      try simp only [Act.put, List.setIfInBounds_toArray, List.set_cons_zero, List.set_cons_succ]
      refine wpAnyH_ready (rs := [10]) (by kernel_rfl) (by simp) (AllReadyH.cons (o := ⟨_, _, _, _, _, _⟩) rfl (fun K hK => ?_) AllReadyH.nil)
      rewrite [if_pos (wanted_free rfl)]
      with_reducible refine wp_storeV 142 (.tmp 3) (.tmp 12) (by with_unfolding_all rfl) Wc.heap.size (tvr ⟨#[]⟩ 0 0) (tvr n b c) (by with_unfolding_all rfl) (by with_unfolding_all rfl) (KpM.get HKWca (List.mem_cons_self ..)) 3 Tryd.sizeTo (by with_unfolding_all rfl) (by with_unfolding_all rfl) (tvr_one _ _ _) ?_
      intro wf hAf hOf
      have HKf := KpM.put HKWca (fun x hx => by cases hx) hAf (tvr_ne _ _ _) hOf
      refine hK.out _ _ (KpM.rowH HKf).sr (fun _ => ?_)
      clear hK K
      refine wpAnyH_done (by kernel_rfl) ?_ _
      generalize Wc.heap.size = GA at *
      obtain ⟨r0, r1, r2⟩ := (KpM.rowH HKf).sr
      obtain ⟨x0, x1, x2⟩ := (KpM.get HKf (List.mem_cons_self ..)).tvr
      clear HKW HKWc HKWca
      go_wp2_with (first
        | (with_reducible refine wpList_cellB (w := wf) (by with_unfolding_all rfl) 4 (.tmp 24) (.const (.bool true)) (by with_unfolding_all rfl) g 2 (srv t p false) (srv t p true) true (by with_unfolding_all rfl) (by with_unfolding_all rfl) Tryd.siz1B (KpM.rowH HKf) (by simp [srv]) (by with_unfolding_all rfl) ?_; intro wz hAz hBz hFz hSz; have Oz := HKf.out.only.trans (Only.set hBz hFz hSz)))
      go_ret
      exact ⟨rfl, hAz, Oz⟩
    · as_aux_lemma =>
      rewrite [if_pos (wanted_free rfl)]
      with_reducible refine wp_allocV 142 (by with_unfolding_all rfl) (tvr ⟨#[]⟩ 0 0) Tryd.infoTo ?_
      intro Wa hAWa hBWa
      have HKWa := KpM.new HKW hAWa (tvr_ne _ _ _) hBWa
      refine hK.out _ _ (KpM.rowH HKWa).sr (fun _ => ?_)
      clear hK K
      try simp only [Act.put, List.setIfInBounds_toArray, List.set_cons_zero, List.set_cons_succ]
      refine wpAnyH_ready (rs := [8]) (by kernel_rfl) (by simp) (AllReadyH.cons (o := ⟨_, _, _, _, _, _⟩) rfl (fun K hK => ?_) AllReadyH.nil)
      rewrite [if_pos (wanted_free rfl)]
      go_simp
      refine (hN Wa).mono ?_
      rintro e Wac ⟨rfl, hBWac⟩
      have HKWac := KpM.call HKWa hBWac
      go_wp2_with fail
      refine hK.out _ _ (KpM.rowH HKWac).sr (fun _ => ?_)
      clear hK K
      try simp only [Act.put, List.setIfInBounds_toArray, List.set_cons_zero, List.set_cons_succ]
      refine wpAnyH_ready (rs := [10]) (by kernel_rfl) (by simp) (AllReadyH.cons (o := ⟨_, _, _, _, _, _⟩) rfl (fun K hK => ?_) AllReadyH.nil)
      rewrite [if_pos (wanted_free rfl)]
      with_reducible refine wp_storeV 142 (.tmp 3) (.tmp 12) (by with_unfolding_all rfl) W.heap.size (tvr ⟨#[]⟩ 0 0) (tvr n b c) (by with_unfolding_all rfl) (by with_unfolding_all rfl) (KpM.get HKWac (List.mem_cons_self ..)) 3 Tryd.sizeTo (by with_unfolding_all rfl) (by with_unfolding_all rfl) (tvr_one _ _ _) ?_
      intro wf hAf hOf
      have HKf := KpM.put HKWac (fun x hx => by cases hx) hAf (tvr_ne _ _ _) hOf
      refine hK.out _ _ (KpM.rowH HKf).sr (fun _ => ?_)
      clear hK K
      refine wpAnyH_done (by kernel_rfl) ?_ _
      generalize W.heap.size = GA at *
      obtain ⟨r0, r1, r2⟩ := (KpM.rowH HKf).sr
      obtain ⟨x0, x1, x2⟩ := (KpM.get HKf (List.mem_cons_self ..)).tvr
      clear HKW HKWa HKWac
      go_wp2_with (first
        | (with_reducible refine wpList_cellB (w := wf) (by with_unfolding_all rfl) 4 (.tmp 24) (.const (.bool true)) (by with_unfolding_all rfl) g 2 (srv t p false) (srv t p true) true (by with_unfolding_all rfl) (by with_unfolding_all rfl) Tryd.siz1B (KpM.rowH HKf) (by simp [srv]) (by with_unfolding_all rfl) ?_; intro wz hAz hBz hFz hSz; have Oz := HKf.out.only.trans (Only.set hBz hFz hSz)))
      go_ret
      exact ⟨rfl, hAz, Oz⟩
set_option maxRecDepth 100000 in
set_option maxHeartbeats 1000000 in
theorem spTxtYes (g p : Nat) (t : ByteArray) (w : World) (hs : t.size ≤ maxLen) (hp : p ≤ t.size) (b : Nat) (n : ByteArray) (hn : textO t p = some (n, b)) (h : RowV w g (srv t p false)) :
    Calls Tryd.prog 70 #[.pointer (some ⟨g, 0, none⟩)] w fun e w' => e = .returned (.string n) ∧ RowV w' g (srv t b false) ∧ Only g w w' := by
  obtain ⟨hg, -, -, -⟩ := textO_some hn
  have hN : ∀ w0, Calls Tryd.prog 98 #[.string t, .int .i64 (p : Int)] w0 fun e w' => e = .returned (.agg #[.string n, .int .i64 (b : Int), .int .i64 0]) ∧ Below w0.heap.size w0 w' := fun w0 => by
    have := specTxt t p w0 hs (i64n (by unfold maxLen at hs; omega))
    rw [hg] at this
    exact this
  clear hg hn
  go_enter Tryd.func70, Tryd.ntmps70
  go_wp2_with fail
  refine wp_region_held_drew (S := fun w' => w'.cell? ⟨g, 0, none⟩ = some (.string t) ∧ w'.cell? ⟨g, 1, none⟩ = some (.int .i64 (p : Int)) ∧ w'.cell? ⟨g, 2, none⟩ = some (.bool false)) (by kernel_rfl) h.drew.sr (fun hHeld => ?_)
  refine wpAnyH_take (i := 0) (oi := ⟨_, _, _, _, _, _⟩) (v := .pointer (some ⟨g, 0, none⟩)) rfl (by kernel_rfl) (by kernel_rfl) (by kernel_rfl) (fun _ _ _ h => h) (Or.inl ⟨wanted_free rfl, fun w' hSw => ?_⟩) hHeld ?_
  · obtain ⟨s0, s1, s2⟩ := hSw
    go_simp
  try simp only [Act.put, List.setIfInBounds_toArray, List.set_cons_zero, List.set_cons_succ]
  refine wpAnyH_take (i := 1) (oi := ⟨_, _, _, _, _, _⟩) (v := .pointer (some ⟨g, 0, none⟩)) rfl (by kernel_rfl) (by kernel_rfl) (by kernel_rfl) (fun _ _ _ h => h) (Or.inl ⟨wanted_free rfl, fun w' hSw => ?_⟩) hHeld ?_
  · obtain ⟨s0, s1, s2⟩ := hSw
    go_simp
  try simp only [Act.put, List.setIfInBounds_toArray, List.set_cons_zero, List.set_cons_succ]
  refine wpAnyH_take (i := 2) (oi := ⟨_, _, _, _, _, _⟩) (v := .pointer (some ⟨g, 0, none⟩)) rfl (by kernel_rfl) (by kernel_rfl) (by kernel_rfl) (fun _ _ _ h => h) (Or.inl ⟨wanted_free rfl, fun w' hSw => ?_⟩) hHeld ?_
  · obtain ⟨s0, s1, s2⟩ := hSw
    go_simp
  try simp only [Act.put, List.setIfInBounds_toArray, List.set_cons_zero, List.set_cons_succ]
  refine wpAnyH_take (i := 3) (oi := ⟨_, _, _, _, _, _⟩) (v := .string t) rfl (by kernel_rfl) (by kernel_rfl) (by kernel_rfl) (fun _ _ _ h => h) (Or.inl ⟨wanted_free rfl, fun w' hSw => ?_⟩) hHeld ?_
  · obtain ⟨s0, s1, s2⟩ := hSw
    go_simp
  try simp only [Act.put, List.setIfInBounds_toArray, List.set_cons_zero, List.set_cons_succ]
  refine wpAnyH_take (i := 4) (oi := ⟨_, _, _, _, _, _⟩) (v := .pointer (some ⟨g, 0, none⟩)) rfl (by kernel_rfl) (by kernel_rfl) (by kernel_rfl) (fun _ _ _ h => h) (Or.inl ⟨wanted_free rfl, fun w' hSw => ?_⟩) hHeld ?_
  · obtain ⟨s0, s1, s2⟩ := hSw
    go_simp
  try simp only [Act.put, List.setIfInBounds_toArray, List.set_cons_zero, List.set_cons_succ]
  refine wpAnyH_take (i := 5) (oi := ⟨_, _, _, _, _, _⟩) (v := .pointer (some ⟨g, 0, none⟩)) rfl (by kernel_rfl) (by kernel_rfl) (by kernel_rfl) (fun _ _ _ h => h) (Or.inl ⟨wanted_free rfl, fun w' hSw => ?_⟩) hHeld ?_
  · obtain ⟨s0, s1, s2⟩ := hSw
    go_simp
  try simp only [Act.put, List.setIfInBounds_toArray, List.set_cons_zero, List.set_cons_succ]
  refine wpAnyH_take (i := 6) (oi := ⟨_, _, _, _, _, _⟩) (v := .pointer (some ⟨g, 1, none⟩)) rfl (by kernel_rfl) (by kernel_rfl) (by kernel_rfl) (fun _ _ _ h => h) (Or.inl ⟨wanted_free rfl, fun w' hSw => ?_⟩) hHeld ?_
  · obtain ⟨s0, s1, s2⟩ := hSw
    go_simp
  try simp only [Act.put, List.setIfInBounds_toArray, List.set_cons_zero, List.set_cons_succ]
  refine wpAnyH_take (i := 7) (oi := ⟨_, _, _, _, _, _⟩) (v := .int .i64 (p : Int)) rfl (by kernel_rfl) (by kernel_rfl) (by kernel_rfl) (fun _ _ _ h => h) (Or.inl ⟨wanted_free rfl, fun w' hSw => ?_⟩) hHeld ?_
  · obtain ⟨s0, s1, s2⟩ := hSw
    go_simp
  try simp only [Act.put, List.setIfInBounds_toArray, List.set_cons_zero, List.set_cons_succ]
  have HKW := KpM.drew (KpM.start h (srv_ne _ _ _))
  generalize w.drew = W at *
  clear hHeld h
  refine wpAnyH_ready (rs := [8, 9]) (by kernel_rfl) (by simp) (AllReadyH.cons (o := ⟨_, _, _, _, _, _⟩) rfl (fun K hK => ?_) (AllReadyH.cons (o := ⟨_, _, _, _, _, _⟩) rfl (fun K hK => ?_) AllReadyH.nil))
  · as_aux_lemma =>
    rewrite [if_pos (wanted_free rfl)]
    go_simp
    refine (hN W).mono ?_
    rintro e Wc ⟨rfl, hBWc⟩
    have HKWc := KpM.call HKW hBWc
    go_wp2_with fail
    refine hK.out _ _ (KpM.rowH HKWc).sr (fun _ => ?_)
    clear hK K
    try simp only [Act.put, List.setIfInBounds_toArray, List.set_cons_zero, List.set_cons_succ]
    refine wpAnyH_ready (rs := [9]) (by kernel_rfl) (by simp) (AllReadyH.cons (o := ⟨_, _, _, _, _, _⟩) rfl (fun K hK => ?_) AllReadyH.nil)
    rewrite [if_pos (wanted_free rfl)]
    with_reducible refine wp_allocV 142 (by with_unfolding_all rfl) (tvr ⟨#[]⟩ 0 0) Tryd.infoTo ?_
    intro Wca hAWca hBWca
    have HKWca := KpM.new HKWc hAWca (tvr_ne _ _ _) hBWca
    refine hK.out _ _ (KpM.rowH HKWca).sr (fun _ => ?_)
    clear hK K
    try simp only [Act.put, List.setIfInBounds_toArray, List.set_cons_zero, List.set_cons_succ]
    refine wpAnyH_ready (rs := [10]) (by kernel_rfl) (by simp) (AllReadyH.cons (o := ⟨_, _, _, _, _, _⟩) rfl (fun K hK => ?_) AllReadyH.nil)
    rewrite [if_pos (wanted_free rfl)]
    with_reducible refine wp_storeV 142 (.tmp 3) (.tmp 12) (by with_unfolding_all rfl) Wc.heap.size (tvr ⟨#[]⟩ 0 0) (tvr n (b : Int) 0) (by with_unfolding_all rfl) (by with_unfolding_all rfl) (KpM.get HKWca (List.mem_cons_self ..)) 3 Tryd.sizeTo (by with_unfolding_all rfl) (by with_unfolding_all rfl) (tvr_one _ _ _) ?_
    intro wf hAf hOf
    have HKf := KpM.put HKWca (fun x hx => by cases hx) hAf (tvr_ne _ _ _) hOf
    refine hK.out _ _ (KpM.rowH HKf).sr (fun _ => ?_)
    clear hK K
    refine wpAnyH_done (by kernel_rfl) ?_ _
    generalize Wc.heap.size = GA at *
    obtain ⟨r0, r1, r2⟩ := (KpM.rowH HKf).sr
    obtain ⟨x0, x1, x2⟩ := (KpM.get HKf (List.mem_cons_self ..)).tvr
    clear HKW HKWc HKWca
    go_wp2_with (first
      | (with_reducible refine wpList_cellH (w := wf) (by with_unfolding_all rfl) 2 (.tmp 29) (.tmp 27) (by with_unfolding_all rfl) g 1 (srv t p false) (srv t b false) (.int .i64 (b : Int)) (by with_unfolding_all rfl) (by with_unfolding_all rfl) rfl Tryd.siz1I (KpM.rowH HKf) (by simp [srv]) (by with_unfolding_all rfl) ?_; intro wz hAz hBz hFz hSz; have Oz := HKf.out.only.trans (Only.set hBz hFz hSz); obtain ⟨y0, y1, y2⟩ := ((Only.set hBz hFz hSz).row (KpM.get HKf (List.mem_cons_self ..)) (tvr_ne _ _ _) (by have := (HKf.out.own _ (List.mem_cons_self ..)).1; have := HKf.out.lt; simp at *; omega)).tvr))
    go_ret
    exact ⟨rfl, hAz, Oz⟩
  · as_aux_lemma =>
    rewrite [if_pos (wanted_free rfl)]
    with_reducible refine wp_allocV 142 (by with_unfolding_all rfl) (tvr ⟨#[]⟩ 0 0) Tryd.infoTo ?_
    intro Wa hAWa hBWa
    have HKWa := KpM.new HKW hAWa (tvr_ne _ _ _) hBWa
    refine hK.out _ _ (KpM.rowH HKWa).sr (fun _ => ?_)
    clear hK K
    try simp only [Act.put, List.setIfInBounds_toArray, List.set_cons_zero, List.set_cons_succ]
    refine wpAnyH_ready (rs := [8]) (by kernel_rfl) (by simp) (AllReadyH.cons (o := ⟨_, _, _, _, _, _⟩) rfl (fun K hK => ?_) AllReadyH.nil)
    rewrite [if_pos (wanted_free rfl)]
    go_simp
    refine (hN Wa).mono ?_
    rintro e Wac ⟨rfl, hBWac⟩
    have HKWac := KpM.call HKWa hBWac
    go_wp2_with fail
    refine hK.out _ _ (KpM.rowH HKWac).sr (fun _ => ?_)
    clear hK K
    try simp only [Act.put, List.setIfInBounds_toArray, List.set_cons_zero, List.set_cons_succ]
    refine wpAnyH_ready (rs := [10]) (by kernel_rfl) (by simp) (AllReadyH.cons (o := ⟨_, _, _, _, _, _⟩) rfl (fun K hK => ?_) AllReadyH.nil)
    rewrite [if_pos (wanted_free rfl)]
    with_reducible refine wp_storeV 142 (.tmp 3) (.tmp 12) (by with_unfolding_all rfl) W.heap.size (tvr ⟨#[]⟩ 0 0) (tvr n (b : Int) 0) (by with_unfolding_all rfl) (by with_unfolding_all rfl) (KpM.get HKWac (List.mem_cons_self ..)) 3 Tryd.sizeTo (by with_unfolding_all rfl) (by with_unfolding_all rfl) (tvr_one _ _ _) ?_
    intro wf hAf hOf
    have HKf := KpM.put HKWac (fun x hx => by cases hx) hAf (tvr_ne _ _ _) hOf
    refine hK.out _ _ (KpM.rowH HKf).sr (fun _ => ?_)
    clear hK K
    refine wpAnyH_done (by kernel_rfl) ?_ _
    generalize W.heap.size = GA at *
    obtain ⟨r0, r1, r2⟩ := (KpM.rowH HKf).sr
    obtain ⟨x0, x1, x2⟩ := (KpM.get HKf (List.mem_cons_self ..)).tvr
    clear HKW HKWa HKWac
    go_wp2_with (first
      | (with_reducible refine wpList_cellH (w := wf) (by with_unfolding_all rfl) 2 (.tmp 29) (.tmp 27) (by with_unfolding_all rfl) g 1 (srv t p false) (srv t b false) (.int .i64 (b : Int)) (by with_unfolding_all rfl) (by with_unfolding_all rfl) rfl Tryd.siz1I (KpM.rowH HKf) (by simp [srv]) (by with_unfolding_all rfl) ?_; intro wz hAz hBz hFz hSz; have Oz := HKf.out.only.trans (Only.set hBz hFz hSz); obtain ⟨y0, y1, y2⟩ := ((Only.set hBz hFz hSz).row (KpM.get HKf (List.mem_cons_self ..)) (tvr_ne _ _ _) (by have := (HKf.out.own _ (List.mem_cons_self ..)).1; have := HKf.out.lt; simp at *; omega)).tvr))
    go_ret
    exact ⟨rfl, hAz, Oz⟩
/- What num tells, whatever the reader's state. -/
def TxtR (t : ByteArray) (p : Nat) (bad : Bool) (n : ByteArray) (p' : Nat) (bad' : Bool) : Prop := p' ≤ t.size ∧ ((bad = false ∧ textO t p = some (n, p') ∧ bad' = false) ∨ ((bad = true ∨ textO t p = none) ∧ bad' = true ∧ n = ⟨#[]⟩))
theorem spTxt (g p : Nat) (t : ByteArray) (w : World) (hs : t.size ≤ maxLen) (hp : p ≤ t.size) (bad : Bool) (h : RowV w g (srv t p bad)) :
    Calls Tryd.prog 70 #[.pointer (some ⟨g, 0, none⟩)] w fun e w' => ∃ n p' bad', e = .returned (.string n) ∧ TxtR t p bad n p' bad' ∧ RowV w' g (srv t p' bad') ∧ Only g w w' := by
  by_cases hb : bad = true ∨ textO t p = none
  · refine (spTxtBad g p t w hs hp bad hb h).mono ?_
    rintro e w' ⟨rfl, h1, h2⟩
    exact ⟨⟨#[]⟩, p, true, rfl, ⟨hp, Or.inr ⟨hb, rfl, rfl⟩⟩, h1, h2⟩
  · have hb1 : bad = false := by cases bad with
      | true => exact absurd (Or.inl rfl) hb
      | false => rfl
    subst hb1
    cases hn : textO t p with
    | none => exact absurd (Or.inr hn) hb
    | some x =>
      obtain ⟨n, b⟩ := x
      refine (spTxtYes g p t w hs hp b n hn h).mono ?_
      rintro e w' ⟨rfl, h1, h2⟩
      exact ⟨n, b, false, rfl, ⟨(textO_some hn).2.1, Or.inl ⟨rfl, hn, rfl⟩⟩, h1, h2⟩
/- What many tells, whatever the reader's state. -/
def ManR (t : ByteArray) (p : Nat) (bad : Bool) (m k : Nat) (p' : Nat) (bad' : Bool) : Prop := p' ≤ t.size ∧ k ≤ m ∧ ((bad = false ∧ countO t p m = some (k, p') ∧ bad' = false) ∨ ((bad = true ∨ countO t p m = none) ∧ bad' = true))
theorem countO_out {t : ByteArray} {p m b : Nat} {n : Int} (h : numO t p = some (n, b)) (hn : ¬ (0 ≤ n ∧ n ≤ (m : Int))) : countO t p m = none := by
  unfold countO
  rw [h]
  simp only
  rw [if_neg hn]
theorem countO_in {t : ByteArray} {p m b k : Nat} (h : numO t p = some ((k : Int), b)) (hn : k ≤ m) : countO t p m = some (k, b) := by
  unfold countO
  rw [h]
  simp only
  rw [if_pos ⟨by omega, by omega⟩]
  simp
theorem countO_non {t : ByteArray} {p m : Nat} (h : numO t p = none) : countO t p m = none := by
  unfold countO
  rw [h]
set_option maxRecDepth 100000 in
set_option maxHeartbeats 1000000 in
theorem spMany (g p m : Nat) (t : ByteArray) (w : World) (hs : t.size ≤ maxLen) (hp : p ≤ t.size) (bad : Bool) (h : RowV w g (srv t p bad)) :
    Calls Tryd.prog 71 #[.pointer (some ⟨g, 0, none⟩), .int .i64 (m : Int)] w fun e w' => ∃ k p' bad', e = .returned (.int .i64 (k : Nat)) ∧ ManR t p bad m k p' bad' ∧ RowV w' g (srv t p' bad') ∧ Only g w w' := by
  have HN : Hid (Calls Tryd.prog 73 #[.pointer (some ⟨g, 0, none⟩)] w fun e w' => ∃ n p' bad', e = .returned (.int .i64 n) ∧ NumR t p bad n p' bad' ∧ RowV w' g (srv t p' bad') ∧ Only g w w') := spNum g p t w hs hp bad h
  clear h
  go_enter Tryd.func71, Tryd.ntmps71
  go_wp2_with fail
  refine Calls.mono HN.out ?_
  rintro e w1 ⟨n, p', d', rfl, hr, hA1, hO1⟩
  obtain ⟨hp', hr⟩ := hr
  clear HN
  by_cases hin : 0 ≤ n ∧ n ≤ (m : Int)
  · obtain ⟨k, rfl⟩ : ∃ k : Nat, n = (k : Int) := ⟨n.toNat, by omega⟩
    have d1 : decide ((k : Int) < 0) = false := decide_eq_false (by omega)
    have d2 : decide ((m : Int) < (k : Int)) = false := decide_eq_false (by omega)
    have d3 : decide (m < k) = false := decide_eq_false (by omega)
    obtain ⟨c0, c1, c2⟩ := hA1.sr
    cases d' with
    | false =>
      have HM : Hid (ManR t p bad m k p' false) := ⟨hp', by omega, Or.inl (by
        rcases hr with ⟨e1, e2, _⟩ | ⟨_, e3⟩
        · exact ⟨e1, countO_in e2 (by omega), rfl⟩
        · cases e3)⟩
      clear hr
      go_wp2
      go_ret
      exact ⟨k, p', false, rfl, HM.out, hA1, hO1⟩
    | true =>
      have HM : Hid (ManR t p bad m 0 p' true) := ⟨hp', by omega, Or.inr (by
        rcases hr with ⟨_, _, e3⟩ | ⟨e1, _⟩
        · cases e3
        · exact ⟨e1.imp id countO_non, rfl⟩)⟩
      clear hr
      go_wp2
      go_ret
      exact ⟨0, p', true, rfl, HM.out, hA1, hO1⟩
  · have HM : Hid (ManR t p bad m 0 p' true) := ⟨hp', by omega, Or.inr ⟨by
      rcases hr with ⟨_, e2, _⟩ | ⟨e1, _⟩
      · exact Or.inr (countO_out e2 hin)
      · exact e1.imp id countO_non, rfl⟩⟩
    clear hr
    by_cases h0 : n < 0
    · have d1 : decide (n < 0) = true := decide_eq_true h0
      clear hin
      go_wp2_with (first
        | (with_reducible refine wpList_cellB (w := w1) (by with_unfolding_all rfl) 4 (.tmp 17) (.const (.bool true)) (by with_unfolding_all rfl) g 2 (srv t p' d') (srv t p' true) true (by with_unfolding_all rfl) (by with_unfolding_all rfl) Tryd.siz1B hA1 (by simp [srv]) (by with_unfolding_all rfl) ?_; intro wz hAz hBz hFz hSz; obtain ⟨c0, c1, c2⟩ := hAz.sr))
      go_ret
      exact ⟨0, p', true, rfl, HM.out, hAz, hO1.trans (Only.set hBz hFz hSz)⟩
    · have d1 : decide (n < 0) = false := decide_eq_false h0
      have d2 : decide ((m : Int) < n) = true := decide_eq_true (by omega)
      clear hin
      go_wp2_with (first
        | (with_reducible refine wpList_cellB (w := w1) (by with_unfolding_all rfl) 4 (.tmp 17) (.const (.bool true)) (by with_unfolding_all rfl) g 2 (srv t p' d') (srv t p' true) true (by with_unfolding_all rfl) (by with_unfolding_all rfl) Tryd.siz1B hA1 (by simp [srv]) (by with_unfolding_all rfl) ?_; intro wz hAz hBz hFz hSz; obtain ⟨c0, c1, c2⟩ := hAz.sr))
      go_ret
      exact ⟨0, p', true, rfl, HM.out, hAz, hO1.trans (Only.set hBz hFz hSz)⟩
end Go.Proofs.YtchfpiadfmnphaaDoor
