/- The specification's reader: text, many. The specification's reader of what is signed. -/
import Derived.Test.YtnlalnkoggkdfaaSpB
import Derived.Test.YtnlalnkoggkdfaaCu3
import Derived.Test.YtnlalnkoggkdfaaTxtS
import Derived.Test.YtnlalnkoggkdfaaSpL
import Derived.Test.YtnlalnkoggkdfaaMsB
namespace Go.Proofs.Ytnlalnkoggkdfaa
open Go.RowKit
set_option linter.unusedVariables false

def tvr (n : ByteArray) (b c : Int) : List Value := [.string n, .int .i64 b, .int .i64 c]
theorem tvr_ne (n : ByteArray) (b c : Int) : tvr n b c ≠ [] := by simp [tvr]
theorem tvr_one (n : ByteArray) (b c : Int) : ∀ y ∈ tvr n b c, y.oneCell' = true := by
  intro y hy
  simp [tvr] at hy
  rcases hy with h | h | h <;> (rw [h]; rfl)
theorem RowV.tvr {w : World} {g : Nat} {n : ByteArray} {b c : Int} (h : RowV w g (tvr n b c)) : w.cell? ⟨g, 0, none⟩ = some (.string n) ∧ w.cell? ⟨g, 1, none⟩ = some (.int .i64 b) ∧ w.cell? ⟨g, 2, none⟩ = some (.int .i64 c) := ⟨h.cell (k := 0) rfl, h.cell (k := 1) rfl, h.cell (k := 2) rfl⟩
theorem Try.infoTo : (Try.prog.info? 196).map (fun i => i.zero) = some (some (.agg (Go.Proofs.Ytnlalnkoggkdfaa.tvr ⟨#[]⟩ 0 0).toArray)) := by kernel_rfl
theorem Try.sizeTo : (Try.prog.info? 196).map (·.size) = some 3 := by kernel_rfl
set_option maxRecDepth 100000 in
set_option maxHeartbeats 1000000 in
theorem spTxtBad (g p : Nat) (t : ByteArray) (w : World) (hs : t.size ≤ maxLen) (hp : p ≤ t.size) (bad : Bool) (hb : bad = true ∨ textO t p = none) (h : RowV w g (srv t p bad)) :
    Calls Try.prog 135 #[.pointer (some ⟨g, 0, none⟩)] w fun e w' => e = .returned (.string ⟨#[]⟩) ∧ RowV w' g (srv t p true) ∧ Only g w w' := by
  obtain ⟨n, b, c, hg, hc⟩ : ∃ n b c, getT t p = ⟨n, b, c⟩ ∧ (bad = true ∨ ¬ c = 0) := by
    rcases hb with hb | hb
    · exact ⟨(getT t p).text, (getT t p).behind, (getT t p).code, rfl, Or.inl hb⟩
    · obtain ⟨c, hc, hg⟩ := textO_none hb
      exact ⟨noText, 0, c, hg, Or.inr hc⟩
  have hN : ∀ w0, Calls Try.prog 165 #[.string t, .int .i64 (p : Int)] w0 fun e w' => e = .returned (.agg #[.string n, .int .i64 b, .int .i64 c]) ∧ Below w0.heap.size w0 w' := fun w0 => by
    have := specTxt t p w0 hs (i64n (by unfold maxLen at hs; omega))
    rw [hg] at this
    exact this
  clear hg hb
  cases bad with
  | true =>
    go_enter Try.func135, Try.ntmps135
    go_wp2_with fail
    refine wp_region_held_drew (S := fun w' => w'.cell? ⟨g, 0, none⟩ = some (.string t) ∧ w'.cell? ⟨g, 1, none⟩ = some (.int .i64 (p : Int)) ∧ w'.cell? ⟨g, 2, none⟩ = some (.bool true)) (by kernel_rfl) h.drew.sr (fun hHeld => ?_)
    refine wpAnyH_take (i := 0) (oi := ⟨_, _, _, _, _, _⟩) (v := .pointer (some ⟨g, 0, none⟩)) rfl (by kernel_rfl) (by kernel_rfl) (by kernel_rfl) (fun _ _ _ h => h) (Or.inl ⟨wanted_free rfl, fun w' hSw => ?_⟩) hHeld ?_
    · obtain ⟨s0, s1, s2⟩ := hSw
      go_simp
    try simp only [Act.put, List.setIfInBounds_toArray, List.set_cons_zero, List.set_cons_succ]
    refine wpAnyH_take (i := 1) (oi := ⟨_, _, _, _, _, _⟩) (v := .pointer (some ⟨g, 0, none⟩)) rfl (by kernel_rfl) (by kernel_rfl) (by kernel_rfl) (fun _ _ _ h => h) (Or.inl ⟨wanted_free rfl, fun w' hSw => ?_⟩) hHeld ?_
    · obtain ⟨s0, s1, s2⟩ := hSw
      go_simp
    try simp only [Act.put, List.setIfInBounds_toArray, List.set_cons_zero, List.set_cons_succ]
    refine wpAnyH_take (i := 2) (oi := ⟨_, _, _, _, _, _⟩) (v := .pointer (some ⟨g, 0, none⟩)) rfl (by kernel_rfl) (by kernel_rfl) (by kernel_rfl) (fun _ _ _ h => h) (Or.inl ⟨wanted_free rfl, fun w' hSw => ?_⟩) hHeld ?_
    · obtain ⟨s0, s1, s2⟩ := hSw
      go_simp
    try simp only [Act.put, List.setIfInBounds_toArray, List.set_cons_zero, List.set_cons_succ]
    refine wpAnyH_take (i := 3) (oi := ⟨_, _, _, _, _, _⟩) (v := .string t) rfl (by kernel_rfl) (by kernel_rfl) (by kernel_rfl) (fun _ _ _ h => h) (Or.inl ⟨wanted_free rfl, fun w' hSw => ?_⟩) hHeld ?_
    · obtain ⟨s0, s1, s2⟩ := hSw
      go_simp
    try simp only [Act.put, List.setIfInBounds_toArray, List.set_cons_zero, List.set_cons_succ]
    refine wpAnyH_take (i := 4) (oi := ⟨_, _, _, _, _, _⟩) (v := .pointer (some ⟨g, 0, none⟩)) rfl (by kernel_rfl) (by kernel_rfl) (by kernel_rfl) (fun _ _ _ h => h) (Or.inl ⟨wanted_free rfl, fun w' hSw => ?_⟩) hHeld ?_
    · obtain ⟨s0, s1, s2⟩ := hSw
      go_simp
    try simp only [Act.put, List.setIfInBounds_toArray, List.set_cons_zero, List.set_cons_succ]
    refine wpAnyH_take (i := 5) (oi := ⟨_, _, _, _, _, _⟩) (v := .pointer (some ⟨g, 0, none⟩)) rfl (by kernel_rfl) (by kernel_rfl) (by kernel_rfl) (fun _ _ _ h => h) (Or.inl ⟨wanted_free rfl, fun w' hSw => ?_⟩) hHeld ?_
    · obtain ⟨s0, s1, s2⟩ := hSw
      go_simp
    try simp only [Act.put, List.setIfInBounds_toArray, List.set_cons_zero, List.set_cons_succ]
    refine wpAnyH_take (i := 6) (oi := ⟨_, _, _, _, _, _⟩) (v := .pointer (some ⟨g, 1, none⟩)) rfl (by kernel_rfl) (by kernel_rfl) (by kernel_rfl) (fun _ _ _ h => h) (Or.inl ⟨wanted_free rfl, fun w' hSw => ?_⟩) hHeld ?_
    · obtain ⟨s0, s1, s2⟩ := hSw
      go_simp
    try simp only [Act.put, List.setIfInBounds_toArray, List.set_cons_zero, List.set_cons_succ]
    refine wpAnyH_take (i := 7) (oi := ⟨_, _, _, _, _, _⟩) (v := .int .i64 (p : Int)) rfl (by kernel_rfl) (by kernel_rfl) (by kernel_rfl) (fun _ _ _ h => h) (Or.inl ⟨wanted_free rfl, fun w' hSw => ?_⟩) hHeld ?_
    · obtain ⟨s0, s1, s2⟩ := hSw
      go_simp
    try simp only [Act.put, List.setIfInBounds_toArray, List.set_cons_zero, List.set_cons_succ]
    have HKW := KpM.drew (KpM.start h (srv_ne _ _ _))
    generalize w.drew = W at *
    clear hHeld h
    refine wpAnyH_ready (rs := [8, 9]) (by kernel_rfl) (by simp) (AllReadyH.cons (o := ⟨_, _, _, _, _, _⟩) rfl (fun K hK => ?_) (AllReadyH.cons (o := ⟨_, _, _, _, _, _⟩) rfl (fun K hK => ?_) AllReadyH.nil))
    · as_aux_lemma =>
      rewrite [if_pos (wanted_free rfl)]
      go_simp
      refine (hN W).mono ?_
      rintro e Wc ⟨rfl, hBWc⟩
      have HKWc := KpM.call HKW hBWc
      go_wp2_with fail
      refine hK.out _ _ (KpM.rowH HKWc).sr (fun _ => ?_)
      clear hK K
      try simp only [Act.put, List.setIfInBounds_toArray, List.set_cons_zero, List.set_cons_succ]
      refine wpAnyH_ready (rs := [9]) (by kernel_rfl) (by simp) (AllReadyH.cons (o := ⟨_, _, _, _, _, _⟩) rfl (fun K hK => ?_) AllReadyH.nil)
      rewrite [if_pos (wanted_free rfl)]
      with_reducible refine wp_allocV 196 (by with_unfolding_all rfl) (tvr ⟨#[]⟩ 0 0) Try.infoTo ?_
      intro Wca hAWca hBWca
      have HKWca := KpM.new HKWc hAWca (tvr_ne _ _ _) hBWca
      refine hK.out _ _ (KpM.rowH HKWca).sr (fun _ => ?_)
      clear hK K
      try simp only [Act.put, List.setIfInBounds_toArray, List.set_cons_zero, List.set_cons_succ]
      refine wpAnyH_ready (rs := [10]) (by kernel_rfl) (by simp) (AllReadyH.cons (o := ⟨_, _, _, _, _, _⟩) rfl (fun K hK => ?_) AllReadyH.nil)
      rewrite [if_pos (wanted_free rfl)]
      with_reducible refine wp_storeV 196 (.tmp 3) (.tmp 12) (by with_unfolding_all rfl) Wc.heap.size (tvr ⟨#[]⟩ 0 0) (tvr n b c) (by with_unfolding_all rfl) (by with_unfolding_all rfl) (KpM.get HKWca (List.mem_cons_self ..)) 3 Try.sizeTo (by with_unfolding_all rfl) (by with_unfolding_all rfl) (tvr_one _ _ _) ?_
      intro wf hAf hOf
      have HKf := KpM.put HKWca (fun x hx => by cases hx) hAf (tvr_ne _ _ _) hOf
      refine hK.out _ _ (KpM.rowH HKf).sr (fun _ => ?_)
      clear hK K
      refine wpAnyH_done (by kernel_rfl) ?_ _
      generalize Wc.heap.size = GA at *
      obtain ⟨r0, r1, r2⟩ := (KpM.rowH HKf).sr
      obtain ⟨x0, x1, x2⟩ := (KpM.get HKf (List.mem_cons_self ..)).tvr
      clear HKW HKWc HKWca
      go_wp2_with (first
        | (with_reducible refine wpList_cellB (w := wf) (by with_unfolding_all rfl) 4 (.tmp 24) (.const (.bool true)) (by with_unfolding_all rfl) g 2 (srv t p true) (srv t p true) true (by with_unfolding_all rfl) (by with_unfolding_all rfl) Try.siz1B (KpM.rowH HKf) (by simp [srv]) (by with_unfolding_all rfl) ?_; intro wz hAz hBz hFz hSz; have Oz := HKf.out.only.trans (Only.set hBz hFz hSz)))
      go_ret
      exact ⟨rfl, hAz, Oz⟩
    · as_aux_lemma =>
      rewrite [if_pos (wanted_free rfl)]
      with_reducible refine wp_allocV 196 (by with_unfolding_all rfl) (tvr ⟨#[]⟩ 0 0) Try.infoTo ?_
      intro Wa hAWa hBWa
      have HKWa := KpM.new HKW hAWa (tvr_ne _ _ _) hBWa
      refine hK.out _ _ (KpM.rowH HKWa).sr (fun _ => ?_)
      clear hK K
      try simp only [Act.put, List.setIfInBounds_toArray, List.set_cons_zero, List.set_cons_succ]
      refine wpAnyH_ready (rs := [8]) (by kernel_rfl) (by simp) (AllReadyH.cons (o := ⟨_, _, _, _, _, _⟩) rfl (fun K hK => ?_) AllReadyH.nil)
      rewrite [if_pos (wanted_free rfl)]
      go_simp
      refine (hN Wa).mono ?_
      rintro e Wac ⟨rfl, hBWac⟩
      have HKWac := KpM.call HKWa hBWac
      go_wp2_with fail
      refine hK.out _ _ (KpM.rowH HKWac).sr (fun _ => ?_)
      clear hK K
      try simp only [Act.put, List.setIfInBounds_toArray, List.set_cons_zero, List.set_cons_succ]
      refine wpAnyH_ready (rs := [10]) (by kernel_rfl) (by simp) (AllReadyH.cons (o := ⟨_, _, _, _, _, _⟩) rfl (fun K hK => ?_) AllReadyH.nil)
      rewrite [if_pos (wanted_free rfl)]
      with_reducible refine wp_storeV 196 (.tmp 3) (.tmp 12) (by with_unfolding_all rfl) W.heap.size (tvr ⟨#[]⟩ 0 0) (tvr n b c) (by with_unfolding_all rfl) (by with_unfolding_all rfl) (KpM.get HKWac (List.mem_cons_self ..)) 3 Try.sizeTo (by with_unfolding_all rfl) (by with_unfolding_all rfl) (tvr_one _ _ _) ?_
      intro wf hAf hOf
      have HKf := KpM.put HKWac (fun x hx => by cases hx) hAf (tvr_ne _ _ _) hOf
      refine hK.out _ _ (KpM.rowH HKf).sr (fun _ => ?_)
      clear hK K
      refine wpAnyH_done (by kernel_rfl) ?_ _
      generalize W.heap.size = GA at *
      obtain ⟨r0, r1, r2⟩ := (KpM.rowH HKf).sr
      obtain ⟨x0, x1, x2⟩ := (KpM.get HKf (List.mem_cons_self ..)).tvr
      clear HKW HKWa HKWac
      go_wp2_with (first
        | (with_reducible refine wpList_cellB (w := wf) (by with_unfolding_all rfl) 4 (.tmp 24) (.const (.bool true)) (by with_unfolding_all rfl) g 2 (srv t p true) (srv t p true) true (by with_unfolding_all rfl) (by with_unfolding_all rfl) Try.siz1B (KpM.rowH HKf) (by simp [srv]) (by with_unfolding_all rfl) ?_; intro wz hAz hBz hFz hSz; have Oz := HKf.out.only.trans (Only.set hBz hFz hSz)))
      go_ret
      exact ⟨rfl, hAz, Oz⟩
  | false =>
    have hc' : ¬ c = 0 := hc.elim (fun h => by cases h) id
    have e1 : (c == 0) = false := beq_eq_false_iff_ne.2 hc'
    clear hc
    go_enter Try.func135, Try.ntmps135
    go_wp2_with fail
    refine wp_region_held_drew (S := fun w' => w'.cell? ⟨g, 0, none⟩ = some (.string t) ∧ w'.cell? ⟨g, 1, none⟩ = some (.int .i64 (p : Int)) ∧ w'.cell? ⟨g, 2, none⟩ = some (.bool false)) (by kernel_rfl) h.drew.sr (fun hHeld => ?_)
    refine wpAnyH_take (i := 0) (oi := ⟨_, _, _, _, _, _⟩) (v := .pointer (some ⟨g, 0, none⟩)) rfl (by kernel_rfl) (by kernel_rfl) (by kernel_rfl) (fun _ _ _ h => h) (Or.inl ⟨wanted_free rfl, fun w' hSw => ?_⟩) hHeld ?_
    · obtain ⟨s0, s1, s2⟩ := hSw
      go_simp
    try simp only [Act.put, List.setIfInBounds_toArray, List.set_cons_zero, List.set_cons_succ]
    refine wpAnyH_take (i := 1) (oi := ⟨_, _, _, _, _, _⟩) (v := .pointer (some ⟨g, 0, none⟩)) rfl (by kernel_rfl) (by kernel_rfl) (by kernel_rfl) (fun _ _ _ h => h) (Or.inl ⟨wanted_free rfl, fun w' hSw => ?_⟩) hHeld ?_
    · obtain ⟨s0, s1, s2⟩ := hSw
      go_simp
    try simp only [Act.put, List.setIfInBounds_toArray, List.set_cons_zero, List.set_cons_succ]
    refine wpAnyH_take (i := 2) (oi := ⟨_, _, _, _, _, _⟩) (v := .pointer (some ⟨g, 0, none⟩)) rfl (by kernel_rfl) (by kernel_rfl) (by kernel_rfl) (fun _ _ _ h => h) (Or.inl ⟨wanted_free rfl, fun w' hSw => ?_⟩) hHeld ?_
    · obtain ⟨s0, s1, s2⟩ := hSw
      go_simp
    try simp only [Act.put, List.setIfInBounds_toArray, List.set_cons_zero, List.set_cons_succ]
    refine wpAnyH_take (i := 3) (oi := ⟨_, _, _, _, _, _⟩) (v := .string t) rfl (by kernel_rfl) (by kernel_rfl) (by kernel_rfl) (fun _ _ _ h => h) (Or.inl ⟨wanted_free rfl, fun w' hSw => ?_⟩) hHeld ?_
    · obtain ⟨s0, s1, s2⟩ := hSw
      go_simp
    try simp only [Act.put, List.setIfInBounds_toArray, List.set_cons_zero, List.set_cons_succ]
    refine wpAnyH_take (i := 4) (oi := ⟨_, _, _, _, _, _⟩) (v := .pointer (some ⟨g, 0, none⟩)) rfl (by kernel_rfl) (by kernel_rfl) (by kernel_rfl) (fun _ _ _ h => h) (Or.inl ⟨wanted_free rfl, fun w' hSw => ?_⟩) hHeld ?_
    · obtain ⟨s0, s1, s2⟩ := hSw
      go_simp
    try simp only [Act.put, List.setIfInBounds_toArray, List.set_cons_zero, List.set_cons_succ]
    refine wpAnyH_take (i := 5) (oi := ⟨_, _, _, _, _, _⟩) (v := .pointer (some ⟨g, 0, none⟩)) rfl (by kernel_rfl) (by kernel_rfl) (by kernel_rfl) (fun _ _ _ h => h) (Or.inl ⟨wanted_free rfl, fun w' hSw => ?_⟩) hHeld ?_
    · obtain ⟨s0, s1, s2⟩ := hSw
      go_simp
    try simp only [Act.put, List.setIfInBounds_toArray, List.set_cons_zero, List.set_cons_succ]
    refine wpAnyH_take (i := 6) (oi := ⟨_, _, _, _, _, _⟩) (v := .pointer (some ⟨g, 1, none⟩)) rfl (by kernel_rfl) (by kernel_rfl) (by kernel_rfl) (fun _ _ _ h => h) (Or.inl ⟨wanted_free rfl, fun w' hSw => ?_⟩) hHeld ?_
    · obtain ⟨s0, s1, s2⟩ := hSw
      go_simp
    try simp only [Act.put, List.setIfInBounds_toArray, List.set_cons_zero, List.set_cons_succ]
    refine wpAnyH_take (i := 7) (oi := ⟨_, _, _, _, _, _⟩) (v := .int .i64 (p : Int)) rfl (by kernel_rfl) (by kernel_rfl) (by kernel_rfl) (fun _ _ _ h => h) (Or.inl ⟨wanted_free rfl, fun w' hSw => ?_⟩) hHeld ?_
    · obtain ⟨s0, s1, s2⟩ := hSw
      go_simp
    try simp only [Act.put, List.setIfInBounds_toArray, List.set_cons_zero, List.set_cons_succ]
    have HKW := KpM.drew (KpM.start h (srv_ne _ _ _))
    generalize w.drew = W at *
    clear hHeld h
    refine wpAnyH_ready (rs := [8, 9]) (by kernel_rfl) (by simp) (AllReadyH.cons (o := ⟨_, _, _, _, _, _⟩) rfl (fun K hK => ?_) (AllReadyH.cons (o := ⟨_, _, _, _, _, _⟩) rfl (fun K hK => ?_) AllReadyH.nil))
    · as_aux_lemma =>
      rewrite [if_pos (wanted_free rfl)]
      go_simp
      refine (hN W).mono ?_
      rintro e Wc ⟨rfl, hBWc⟩
      have HKWc := KpM.call HKW hBWc
      go_wp2_with fail
      refine hK.out _ _ (KpM.rowH HKWc).sr (fun _ => ?_)
      clear hK K
      try simp only [Act.put, List.setIfInBounds_toArray, List.set_cons_zero, List.set_cons_succ]
      refine wpAnyH_ready (rs := [9]) (by kernel_rfl) (by simp) (AllReadyH.cons (o := ⟨_, _, _, _, _, _⟩) rfl (fun K hK => ?_) AllReadyH.nil)
      rewrite [if_pos (wanted_free rfl)]
      with_reducible refine wp_allocV 196 (by with_unfolding_all rfl) (tvr ⟨#[]⟩ 0 0) Try.infoTo ?_
      intro Wca hAWca hBWca
      have HKWca := KpM.new HKWc hAWca (tvr_ne _ _ _) hBWca
      refine hK.out _ _ (KpM.rowH HKWca).sr (fun _ => ?_)
      clear hK K
      try simp only [Act.put, List.setIfInBounds_toArray, List.set_cons_zero, List.set_cons_succ]
      refine wpAnyH_ready (rs := [10]) (by kernel_rfl) (by simp) (AllReadyH.cons (o := ⟨_, _, _, _, _, _⟩) rfl (fun K hK => ?_) AllReadyH.nil)
      rewrite [if_pos (wanted_free rfl)]
      with_reducible refine wp_storeV 196 (.tmp 3) (.tmp 12) (by with_unfolding_all rfl) Wc.heap.size (tvr ⟨#[]⟩ 0 0) (tvr n b c) (by with_unfolding_all rfl) (by with_unfolding_all rfl) (KpM.get HKWca (List.mem_cons_self ..)) 3 Try.sizeTo (by with_unfolding_all rfl) (by with_unfolding_all rfl) (tvr_one _ _ _) ?_
      intro wf hAf hOf
      have HKf := KpM.put HKWca (fun x hx => by cases hx) hAf (tvr_ne _ _ _) hOf
      refine hK.out _ _ (KpM.rowH HKf).sr (fun _ => ?_)
      clear hK K
      refine wpAnyH_done (by kernel_rfl) ?_ _
      generalize Wc.heap.size = GA at *
      obtain ⟨r0, r1, r2⟩ := (KpM.rowH HKf).sr
      obtain ⟨x0, x1, x2⟩ := (KpM.get HKf (List.mem_cons_self ..)).tvr
      clear HKW HKWc HKWca
      go_wp2_with (first
        | (with_reducible refine wpList_cellB (w := wf) (by with_unfolding_all rfl) 4 (.tmp 24) (.const (.bool true)) (by with_unfolding_all rfl) g 2 (srv t p false) (srv t p true) true (by with_unfolding_all rfl) (by with_unfolding_all rfl) Try.siz1B (KpM.rowH HKf) (by simp [srv]) (by with_unfolding_all rfl) ?_; intro wz hAz hBz hFz hSz; have Oz := HKf.out.only.trans (Only.set hBz hFz hSz)))
      go_ret
      exact ⟨rfl, hAz, Oz⟩
    · as_aux_lemma =>
      rewrite [if_pos (wanted_free rfl)]
      with_reducible refine wp_allocV 196 (by with_unfolding_all rfl) (tvr ⟨#[]⟩ 0 0) Try.infoTo ?_
      intro Wa hAWa hBWa
      have HKWa := KpM.new HKW hAWa (tvr_ne _ _ _) hBWa
      refine hK.out _ _ (KpM.rowH HKWa).sr (fun _ => ?_)
      clear hK K
      try simp only [Act.put, List.setIfInBounds_toArray, List.set_cons_zero, List.set_cons_succ]
      refine wpAnyH_ready (rs := [8]) (by kernel_rfl) (by simp) (AllReadyH.cons (o := ⟨_, _, _, _, _, _⟩) rfl (fun K hK => ?_) AllReadyH.nil)
      rewrite [if_pos (wanted_free rfl)]
      go_simp
      refine (hN Wa).mono ?_
      rintro e Wac ⟨rfl, hBWac⟩
      have HKWac := KpM.call HKWa hBWac
      go_wp2_with fail
      refine hK.out _ _ (KpM.rowH HKWac).sr (fun _ => ?_)
      clear hK K
      try simp only [Act.put, List.setIfInBounds_toArray, List.set_cons_zero, List.set_cons_succ]
      refine wpAnyH_ready (rs := [10]) (by kernel_rfl) (by simp) (AllReadyH.cons (o := ⟨_, _, _, _, _, _⟩) rfl (fun K hK => ?_) AllReadyH.nil)
      rewrite [if_pos (wanted_free rfl)]
      with_reducible refine wp_storeV 196 (.tmp 3) (.tmp 12) (by with_unfolding_all rfl) W.heap.size (tvr ⟨#[]⟩ 0 0) (tvr n b c) (by with_unfolding_all rfl) (by with_unfolding_all rfl) (KpM.get HKWac (List.mem_cons_self ..)) 3 Try.sizeTo (by with_unfolding_all rfl) (by with_unfolding_all rfl) (tvr_one _ _ _) ?_
      intro wf hAf hOf
      have HKf := KpM.put HKWac (fun x hx => by cases hx) hAf (tvr_ne _ _ _) hOf
      refine hK.out _ _ (KpM.rowH HKf).sr (fun _ => ?_)
      clear hK K
      refine wpAnyH_done (by kernel_rfl) ?_ _
      generalize W.heap.size = GA at *
      obtain ⟨r0, r1, r2⟩ := (KpM.rowH HKf).sr
      obtain ⟨x0, x1, x2⟩ := (KpM.get HKf (List.mem_cons_self ..)).tvr
      clear HKW HKWa HKWac
      go_wp2_with (first
        | (with_reducible refine wpList_cellB (w := wf) (by with_unfolding_all rfl) 4 (.tmp 24) (.const (.bool true)) (by with_unfolding_all rfl) g 2 (srv t p false) (srv t p true) true (by with_unfolding_all rfl) (by with_unfolding_all rfl) Try.siz1B (KpM.rowH HKf) (by simp [srv]) (by with_unfolding_all rfl) ?_; intro wz hAz hBz hFz hSz; have Oz := HKf.out.only.trans (Only.set hBz hFz hSz)))
      go_ret
      exact ⟨rfl, hAz, Oz⟩
set_option maxRecDepth 100000 in
set_option maxHeartbeats 1000000 in
theorem spTxtYes (g p : Nat) (t : ByteArray) (w : World) (hs : t.size ≤ maxLen) (hp : p ≤ t.size) (b : Nat) (n : ByteArray) (hn : textO t p = some (n, b)) (h : RowV w g (srv t p false)) :
    Calls Try.prog 135 #[.pointer (some ⟨g, 0, none⟩)] w fun e w' => e = .returned (.string n) ∧ RowV w' g (srv t b false) ∧ Only g w w' := by
  obtain ⟨hg, -, -, -⟩ := textO_some hn
  have hN : ∀ w0, Calls Try.prog 165 #[.string t, .int .i64 (p : Int)] w0 fun e w' => e = .returned (.agg #[.string n, .int .i64 (b : Int), .int .i64 0]) ∧ Below w0.heap.size w0 w' := fun w0 => by
    have := specTxt t p w0 hs (i64n (by unfold maxLen at hs; omega))
    rw [hg] at this
    exact this
  clear hg hn
  go_enter Try.func135, Try.ntmps135
  go_wp2_with fail
  refine wp_region_held_drew (S := fun w' => w'.cell? ⟨g, 0, none⟩ = some (.string t) ∧ w'.cell? ⟨g, 1, none⟩ = some (.int .i64 (p : Int)) ∧ w'.cell? ⟨g, 2, none⟩ = some (.bool false)) (by kernel_rfl) h.drew.sr (fun hHeld => ?_)
  refine wpAnyH_take (i := 0) (oi := ⟨_, _, _, _, _, _⟩) (v := .pointer (some ⟨g, 0, none⟩)) rfl (by kernel_rfl) (by kernel_rfl) (by kernel_rfl) (fun _ _ _ h => h) (Or.inl ⟨wanted_free rfl, fun w' hSw => ?_⟩) hHeld ?_
  · obtain ⟨s0, s1, s2⟩ := hSw
    go_simp
  try simp only [Act.put, List.setIfInBounds_toArray, List.set_cons_zero, List.set_cons_succ]
  refine wpAnyH_take (i := 1) (oi := ⟨_, _, _, _, _, _⟩) (v := .pointer (some ⟨g, 0, none⟩)) rfl (by kernel_rfl) (by kernel_rfl) (by kernel_rfl) (fun _ _ _ h => h) (Or.inl ⟨wanted_free rfl, fun w' hSw => ?_⟩) hHeld ?_
  · obtain ⟨s0, s1, s2⟩ := hSw
    go_simp
  try simp only [Act.put, List.setIfInBounds_toArray, List.set_cons_zero, List.set_cons_succ]
  refine wpAnyH_take (i := 2) (oi := ⟨_, _, _, _, _, _⟩) (v := .pointer (some ⟨g, 0, none⟩)) rfl (by kernel_rfl) (by kernel_rfl) (by kernel_rfl) (fun _ _ _ h => h) (Or.inl ⟨wanted_free rfl, fun w' hSw => ?_⟩) hHeld ?_
  · obtain ⟨s0, s1, s2⟩ := hSw
    go_simp
  try simp only [Act.put, List.setIfInBounds_toArray, List.set_cons_zero, List.set_cons_succ]
  refine wpAnyH_take (i := 3) (oi := ⟨_, _, _, _, _, _⟩) (v := .string t) rfl (by kernel_rfl) (by kernel_rfl) (by kernel_rfl) (fun _ _ _ h => h) (Or.inl ⟨wanted_free rfl, fun w' hSw => ?_⟩) hHeld ?_
  · obtain ⟨s0, s1, s2⟩ := hSw
    go_simp
  try simp only [Act.put, List.setIfInBounds_toArray, List.set_cons_zero, List.set_cons_succ]
  refine wpAnyH_take (i := 4) (oi := ⟨_, _, _, _, _, _⟩) (v := .pointer (some ⟨g, 0, none⟩)) rfl (by kernel_rfl) (by kernel_rfl) (by kernel_rfl) (fun _ _ _ h => h) (Or.inl ⟨wanted_free rfl, fun w' hSw => ?_⟩) hHeld ?_
  · obtain ⟨s0, s1, s2⟩ := hSw
    go_simp
  try simp only [Act.put, List.setIfInBounds_toArray, List.set_cons_zero, List.set_cons_succ]
  refine wpAnyH_take (i := 5) (oi := ⟨_, _, _, _, _, _⟩) (v := .pointer (some ⟨g, 0, none⟩)) rfl (by kernel_rfl) (by kernel_rfl) (by kernel_rfl) (fun _ _ _ h => h) (Or.inl ⟨wanted_free rfl, fun w' hSw => ?_⟩) hHeld ?_
  · obtain ⟨s0, s1, s2⟩ := hSw
    go_simp
  try simp only [Act.put, List.setIfInBounds_toArray, List.set_cons_zero, List.set_cons_succ]
  refine wpAnyH_take (i := 6) (oi := ⟨_, _, _, _, _, _⟩) (v := .pointer (some ⟨g, 1, none⟩)) rfl (by kernel_rfl) (by kernel_rfl) (by kernel_rfl) (fun _ _ _ h => h) (Or.inl ⟨wanted_free rfl, fun w' hSw => ?_⟩) hHeld ?_
  · obtain ⟨s0, s1, s2⟩ := hSw
    go_simp
  try simp only [Act.put, List.setIfInBounds_toArray, List.set_cons_zero, List.set_cons_succ]
  refine wpAnyH_take (i := 7) (oi := ⟨_, _, _, _, _, _⟩) (v := .int .i64 (p : Int)) rfl (by kernel_rfl) (by kernel_rfl) (by kernel_rfl) (fun _ _ _ h => h) (Or.inl ⟨wanted_free rfl, fun w' hSw => ?_⟩) hHeld ?_
  · obtain ⟨s0, s1, s2⟩ := hSw
    go_simp
  try simp only [Act.put, List.setIfInBounds_toArray, List.set_cons_zero, List.set_cons_succ]
  have HKW := KpM.drew (KpM.start h (srv_ne _ _ _))
  generalize w.drew = W at *
  clear hHeld h
  refine wpAnyH_ready (rs := [8, 9]) (by kernel_rfl) (by simp) (AllReadyH.cons (o := ⟨_, _, _, _, _, _⟩) rfl (fun K hK => ?_) (AllReadyH.cons (o := ⟨_, _, _, _, _, _⟩) rfl (fun K hK => ?_) AllReadyH.nil))
  · as_aux_lemma =>
    rewrite [if_pos (wanted_free rfl)]
    go_simp
    refine (hN W).mono ?_
    rintro e Wc ⟨rfl, hBWc⟩
    have HKWc := KpM.call HKW hBWc
    go_wp2_with fail
    refine hK.out _ _ (KpM.rowH HKWc).sr (fun _ => ?_)
    clear hK K
    try simp only [Act.put, List.setIfInBounds_toArray, List.set_cons_zero, List.set_cons_succ]
    refine wpAnyH_ready (rs := [9]) (by kernel_rfl) (by simp) (AllReadyH.cons (o := ⟨_, _, _, _, _, _⟩) rfl (fun K hK => ?_) AllReadyH.nil)
    rewrite [if_pos (wanted_free rfl)]
    with_reducible refine wp_allocV 196 (by with_unfolding_all rfl) (tvr ⟨#[]⟩ 0 0) Try.infoTo ?_
    intro Wca hAWca hBWca
    have HKWca := KpM.new HKWc hAWca (tvr_ne _ _ _) hBWca
    refine hK.out _ _ (KpM.rowH HKWca).sr (fun _ => ?_)
    clear hK K
    try simp only [Act.put, List.setIfInBounds_toArray, List.set_cons_zero, List.set_cons_succ]
    refine wpAnyH_ready (rs := [10]) (by kernel_rfl) (by simp) (AllReadyH.cons (o := ⟨_, _, _, _, _, _⟩) rfl (fun K hK => ?_) AllReadyH.nil)
    rewrite [if_pos (wanted_free rfl)]
    with_reducible refine wp_storeV 196 (.tmp 3) (.tmp 12) (by with_unfolding_all rfl) Wc.heap.size (tvr ⟨#[]⟩ 0 0) (tvr n (b : Int) 0) (by with_unfolding_all rfl) (by with_unfolding_all rfl) (KpM.get HKWca (List.mem_cons_self ..)) 3 Try.sizeTo (by with_unfolding_all rfl) (by with_unfolding_all rfl) (tvr_one _ _ _) ?_
    intro wf hAf hOf
    have HKf := KpM.put HKWca (fun x hx => by cases hx) hAf (tvr_ne _ _ _) hOf
    refine hK.out _ _ (KpM.rowH HKf).sr (fun _ => ?_)
    clear hK K
    refine wpAnyH_done (by kernel_rfl) ?_ _
    generalize Wc.heap.size = GA at *
    obtain ⟨r0, r1, r2⟩ := (KpM.rowH HKf).sr
    obtain ⟨x0, x1, x2⟩ := (KpM.get HKf (List.mem_cons_self ..)).tvr
    clear HKW HKWc HKWca
    go_wp2_with (first
      | (with_reducible refine wpList_cellH (w := wf) (by with_unfolding_all rfl) 2 (.tmp 29) (.tmp 27) (by with_unfolding_all rfl) g 1 (srv t p false) (srv t b false) (.int .i64 (b : Int)) (by with_unfolding_all rfl) (by with_unfolding_all rfl) rfl Try.siz1I (KpM.rowH HKf) (by simp [srv]) (by with_unfolding_all rfl) ?_; intro wz hAz hBz hFz hSz; have Oz := HKf.out.only.trans (Only.set hBz hFz hSz); obtain ⟨y0, y1, y2⟩ := ((Only.set hBz hFz hSz).row (KpM.get HKf (List.mem_cons_self ..)) (tvr_ne _ _ _) (by have := (HKf.out.own _ (List.mem_cons_self ..)).1; have := HKf.out.lt; simp at *; omega)).tvr))
    go_ret
    exact ⟨rfl, hAz, Oz⟩
  · as_aux_lemma =>
    rewrite [if_pos (wanted_free rfl)]
    with_reducible refine wp_allocV 196 (by with_unfolding_all rfl) (tvr ⟨#[]⟩ 0 0) Try.infoTo ?_
    intro Wa hAWa hBWa
    have HKWa := KpM.new HKW hAWa (tvr_ne _ _ _) hBWa
    refine hK.out _ _ (KpM.rowH HKWa).sr (fun _ => ?_)
    clear hK K
    try simp only [Act.put, List.setIfInBounds_toArray, List.set_cons_zero, List.set_cons_succ]
    refine wpAnyH_ready (rs := [8]) (by kernel_rfl) (by simp) (AllReadyH.cons (o := ⟨_, _, _, _, _, _⟩) rfl (fun K hK => ?_) AllReadyH.nil)
    rewrite [if_pos (wanted_free rfl)]
    go_simp
    refine (hN Wa).mono ?_
    rintro e Wac ⟨rfl, hBWac⟩
    have HKWac := KpM.call HKWa hBWac
    go_wp2_with fail
    refine hK.out _ _ (KpM.rowH HKWac).sr (fun _ => ?_)
    clear hK K
    try simp only [Act.put, List.setIfInBounds_toArray, List.set_cons_zero, List.set_cons_succ]
    refine wpAnyH_ready (rs := [10]) (by kernel_rfl) (by simp) (AllReadyH.cons (o := ⟨_, _, _, _, _, _⟩) rfl (fun K hK => ?_) AllReadyH.nil)
    rewrite [if_pos (wanted_free rfl)]
    with_reducible refine wp_storeV 196 (.tmp 3) (.tmp 12) (by with_unfolding_all rfl) W.heap.size (tvr ⟨#[]⟩ 0 0) (tvr n (b : Int) 0) (by with_unfolding_all rfl) (by with_unfolding_all rfl) (KpM.get HKWac (List.mem_cons_self ..)) 3 Try.sizeTo (by with_unfolding_all rfl) (by with_unfolding_all rfl) (tvr_one _ _ _) ?_
    intro wf hAf hOf
    have HKf := KpM.put HKWac (fun x hx => by cases hx) hAf (tvr_ne _ _ _) hOf
    refine hK.out _ _ (KpM.rowH HKf).sr (fun _ => ?_)
    clear hK K
    refine wpAnyH_done (by kernel_rfl) ?_ _
    generalize W.heap.size = GA at *
    obtain ⟨r0, r1, r2⟩ := (KpM.rowH HKf).sr
    obtain ⟨x0, x1, x2⟩ := (KpM.get HKf (List.mem_cons_self ..)).tvr
    clear HKW HKWa HKWac
    go_wp2_with (first
      | (with_reducible refine wpList_cellH (w := wf) (by with_unfolding_all rfl) 2 (.tmp 29) (.tmp 27) (by with_unfolding_all rfl) g 1 (srv t p false) (srv t b false) (.int .i64 (b : Int)) (by with_unfolding_all rfl) (by with_unfolding_all rfl) rfl Try.siz1I (KpM.rowH HKf) (by simp [srv]) (by with_unfolding_all rfl) ?_; intro wz hAz hBz hFz hSz; have Oz := HKf.out.only.trans (Only.set hBz hFz hSz); obtain ⟨y0, y1, y2⟩ := ((Only.set hBz hFz hSz).row (KpM.get HKf (List.mem_cons_self ..)) (tvr_ne _ _ _) (by have := (HKf.out.own _ (List.mem_cons_self ..)).1; have := HKf.out.lt; simp at *; omega)).tvr))
    go_ret
    exact ⟨rfl, hAz, Oz⟩
/- What num tells, whatever the reader's state. -/
def TxtR (t : ByteArray) (p : Nat) (bad : Bool) (n : ByteArray) (p' : Nat) (bad' : Bool) : Prop := p' ≤ t.size ∧ ((bad = false ∧ textO t p = some (n, p') ∧ bad' = false) ∨ ((bad = true ∨ textO t p = none) ∧ bad' = true ∧ n = ⟨#[]⟩))
theorem spTxt (g p : Nat) (t : ByteArray) (w : World) (hs : t.size ≤ maxLen) (hp : p ≤ t.size) (bad : Bool) (h : RowV w g (srv t p bad)) :
    Calls Try.prog 135 #[.pointer (some ⟨g, 0, none⟩)] w fun e w' => ∃ n p' bad', e = .returned (.string n) ∧ TxtR t p bad n p' bad' ∧ RowV w' g (srv t p' bad') ∧ Only g w w' := by
  by_cases hb : bad = true ∨ textO t p = none
  · refine (spTxtBad g p t w hs hp bad hb h).mono ?_
    rintro e w' ⟨rfl, h1, h2⟩
    exact ⟨⟨#[]⟩, p, true, rfl, ⟨hp, Or.inr ⟨hb, rfl, rfl⟩⟩, h1, h2⟩
  · have hb1 : bad = false := by cases bad with
      | true => exact absurd (Or.inl rfl) hb
      | false => rfl
    subst hb1
    cases hn : textO t p with
    | none => exact absurd (Or.inr hn) hb
    | some x =>
      obtain ⟨n, b⟩ := x
      refine (spTxtYes g p t w hs hp b n hn h).mono ?_
      rintro e w' ⟨rfl, h1, h2⟩
      exact ⟨n, b, false, rfl, ⟨(textO_some hn).2.1, Or.inl ⟨rfl, hn, rfl⟩⟩, h1, h2⟩
/- What many tells, whatever the reader's state. -/
def ManR (t : ByteArray) (p : Nat) (bad : Bool) (m k : Nat) (p' : Nat) (bad' : Bool) : Prop := p' ≤ t.size ∧ k ≤ m ∧ ((bad = false ∧ countO t p m = some (k, p') ∧ bad' = false) ∨ ((bad = true ∨ countO t p m = none) ∧ bad' = true))
theorem countO_out {t : ByteArray} {p m b : Nat} {n : Int} (h : numO t p = some (n, b)) (hn : ¬ (0 ≤ n ∧ n ≤ (m : Int))) : countO t p m = none := by
  unfold countO
  rw [h]
  simp only
  rw [if_neg hn]
theorem countO_in {t : ByteArray} {p m b k : Nat} (h : numO t p = some ((k : Int), b)) (hn : k ≤ m) : countO t p m = some (k, b) := by
  unfold countO
  rw [h]
  simp only
  rw [if_pos ⟨by omega, by omega⟩]
  simp
theorem countO_non {t : ByteArray} {p m : Nat} (h : numO t p = none) : countO t p m = none := by
  unfold countO
  rw [h]
set_option maxRecDepth 100000 in
set_option maxHeartbeats 1000000 in
theorem spMany (g p m : Nat) (t : ByteArray) (w : World) (hs : t.size ≤ maxLen) (hp : p ≤ t.size) (bad : Bool) (h : RowV w g (srv t p bad)) :
    Calls Try.prog 136 #[.pointer (some ⟨g, 0, none⟩), .int .i64 (m : Int)] w fun e w' => ∃ k p' bad', e = .returned (.int .i64 (k : Nat)) ∧ ManR t p bad m k p' bad' ∧ RowV w' g (srv t p' bad') ∧ Only g w w' := by
  have HN : Hid (Calls Try.prog 137 #[.pointer (some ⟨g, 0, none⟩)] w fun e w' => ∃ n p' bad', e = .returned (.int .i64 n) ∧ NumR t p bad n p' bad' ∧ RowV w' g (srv t p' bad') ∧ Only g w w') := spNum g p t w hs hp bad h
  clear h
  go_enter Try.func136, Try.ntmps136
  go_wp2_with fail
  refine Calls.mono HN.out ?_
  rintro e w1 ⟨n, p', d', rfl, hr, hA1, hO1⟩
  obtain ⟨hp', hr⟩ := hr
  clear HN
  by_cases hin : 0 ≤ n ∧ n ≤ (m : Int)
  · obtain ⟨k, rfl⟩ : ∃ k : Nat, n = (k : Int) := ⟨n.toNat, by omega⟩
    have d1 : decide ((k : Int) < 0) = false := decide_eq_false (by omega)
    have d2 : decide ((m : Int) < (k : Int)) = false := decide_eq_false (by omega)
    have d3 : decide (m < k) = false := decide_eq_false (by omega)
    obtain ⟨c0, c1, c2⟩ := hA1.sr
    cases d' with
    | false =>
      have HM : Hid (ManR t p bad m k p' false) := ⟨hp', by omega, Or.inl (by
        rcases hr with ⟨e1, e2, _⟩ | ⟨_, e3⟩
        · exact ⟨e1, countO_in e2 (by omega), rfl⟩
        · cases e3)⟩
      clear hr
      go_wp2
      go_ret
      exact ⟨k, p', false, rfl, HM.out, hA1, hO1⟩
    | true =>
      have HM : Hid (ManR t p bad m 0 p' true) := ⟨hp', by omega, Or.inr (by
        rcases hr with ⟨_, _, e3⟩ | ⟨e1, _⟩
        · cases e3
        · exact ⟨e1.imp id countO_non, rfl⟩)⟩
      clear hr
      go_wp2
      go_ret
      exact ⟨0, p', true, rfl, HM.out, hA1, hO1⟩
  · have HM : Hid (ManR t p bad m 0 p' true) := ⟨hp', by omega, Or.inr ⟨by
      rcases hr with ⟨_, e2, _⟩ | ⟨e1, _⟩
      · exact Or.inr (countO_out e2 hin)
      · exact e1.imp id countO_non, rfl⟩⟩
    clear hr
    by_cases h0 : n < 0
    · have d1 : decide (n < 0) = true := decide_eq_true h0
      clear hin
      go_wp2_with (first
        | (with_reducible refine wpList_cellB (w := w1) (by with_unfolding_all rfl) 4 (.tmp 17) (.const (.bool true)) (by with_unfolding_all rfl) g 2 (srv t p' d') (srv t p' true) true (by with_unfolding_all rfl) (by with_unfolding_all rfl) Try.siz1B hA1 (by simp [srv]) (by with_unfolding_all rfl) ?_; intro wz hAz hBz hFz hSz; obtain ⟨c0, c1, c2⟩ := hAz.sr))
      go_ret
      exact ⟨0, p', true, rfl, HM.out, hAz, hO1.trans (Only.set hBz hFz hSz)⟩
    · have d1 : decide (n < 0) = false := decide_eq_false h0
      have d2 : decide ((m : Int) < n) = true := decide_eq_true (by omega)
      clear hin
      go_wp2_with (first
        | (with_reducible refine wpList_cellB (w := w1) (by with_unfolding_all rfl) 4 (.tmp 17) (.const (.bool true)) (by with_unfolding_all rfl) g 2 (srv t p' d') (srv t p' true) true (by with_unfolding_all rfl) (by with_unfolding_all rfl) Try.siz1B hA1 (by simp [srv]) (by with_unfolding_all rfl) ?_; intro wz hAz hBz hFz hSz; obtain ⟨c0, c1, c2⟩ := hAz.sr))
      go_ret
      exact ⟨0, p', true, rfl, HM.out, hAz, hO1.trans (Only.set hBz hFz hSz)⟩
end Go.Proofs.Ytnlalnkoggkdfaa
namespace Go.Proofs.Ytnlalnkoggkdfaa
open Go.RowKit
set_option linter.unusedVariables false

/- The text is a Signed's just where what was read says so. -/
def Oi (t : ByteArray) (O : Option (ByteArray × List SigV × Nat)) : Prop := ∀ x l, SignedOk t x l ↔ ∃ q, O = some (x, l, q) ∧ q = t.size
theorem oi_first {t : ByteArray} {p : Nat} {d : Bool} (h : FstR t ⟨#[83]⟩ p d) : (d = false ∧ p = 1 ∧ Oi t (signedO t 1)) ∨ (d = true ∧ Oi t none) := by
  rcases h.2 with ⟨y, e1, e2, e3, e4⟩ | ⟨e1, e2⟩
  · have : y = 83 := by simpa using (congrArg (fun b : ByteArray => b.data.toList) e1).symm
    subst this
    exact Or.inl ⟨e4, e3, fun x l => ⟨fun ⟨_, q, k1, k2⟩ => ⟨q, k1, k2⟩, fun ⟨q, k1, k2⟩ => ⟨e2, q, k1, k2⟩⟩⟩
  · exact Or.inr ⟨e2, fun x l => ⟨fun ⟨k0, _⟩ => absurd ⟨83, rfl, k0⟩ e1, fun ⟨q, k1, _⟩ => by cases k1⟩⟩
theorem oi_text {t x : ByteArray} {p p2 : Nat} {d d2 : Bool} (h : (d = false ∧ p = 1 ∧ Oi t (signedO t 1)) ∨ (d = true ∧ Oi t none)) (h2 : TxtR t p d x p2 d2) : (d2 = false ∧ Oi t (match countO t p2 16 with | none => none | some (k, b2) => restO t x [] k b2)) ∨ (d2 = true ∧ Oi t none) := by
  rcases h with ⟨e1, e2, e3⟩ | ⟨e1, e2⟩
  · subst e1 e2
    rcases h2.2 with ⟨_, k1, k2⟩ | ⟨k1, k2, _⟩
    · refine Or.inl ⟨k2, ?_⟩
      unfold signedO at e3
      rw [k1] at e3
      exact e3
    · refine Or.inr ⟨k2, ?_⟩
      rcases k1 with k1 | k1
      · cases k1
      · unfold signedO at e3
        rw [k1] at e3
        exact e3
  · subst e1
    rcases h2.2 with ⟨k1, _⟩ | ⟨_, k2, _⟩
    · cases k1
    · exact Or.inr ⟨k2, e2⟩
def LpR (t x : ByteArray) (l : List SigV) (m p : Nat) (d : Bool) : Prop := (d = false ∧ Oi t (restO t x l m p) ∧ ∀ y ∈ l, y.w) ∨ (d = true ∧ Oi t none)
theorem oi_many {t x : ByteArray} {p k p2 : Nat} {d d2 : Bool} (h : (d = false ∧ Oi t (match countO t p 16 with | none => none | some (k, b2) => restO t x [] k b2)) ∨ (d = true ∧ Oi t none)) (h2 : ManR t p d 16 k p2 d2) : LpR t x [] k p2 d2 := by
  rcases h with ⟨e1, e3⟩ | ⟨e1, e2⟩
  · subst e1
    rcases h2.2.2 with ⟨_, k1, k2⟩ | ⟨k1, k2⟩
    · rw [k1] at e3
      exact Or.inl ⟨k2, e3, fun y hy => by cases hy⟩
    · rcases k1 with k1 | k1
      · cases k1
      · rw [k1] at e3
        exact Or.inr ⟨k2, e3⟩
  · subst e1
    rcases h2.2.2 with ⟨k1, _⟩ | ⟨_, k2⟩
    · cases k1
    · exact Or.inr ⟨k2, e2⟩
theorem oi_round {t x : ByteArray} {l : List SigV} {m p p1 p2 p3 : Nat} {d d1 d2 d3 : Bool} {a b c : Int} (h : LpR t x l (m + 1) p d) (h1 : NumR t p d a p1 d1) (h2 : NumR t p1 d1 b p2 d2) (h3 : NumR t p2 d2 c p3 d3) : LpR t x (l ++ [⟨a, b, c⟩]) m p3 d3 := by
  have bad : ∀ {p q : Nat} {e : Bool} {n : Int}, NumR t p true n q e → e = true := fun h => by
    rcases h.2 with ⟨k, _⟩ | ⟨_, k⟩
    · cases k
    · exact k
  rcases h with ⟨rfl, e2, e3⟩ | ⟨rfl, e2⟩
  · rcases h1.2 with ⟨_, k1, rfl⟩ | ⟨k1, rfl⟩
    · rcases h2.2 with ⟨_, k2, rfl⟩ | ⟨k2, rfl⟩
      · rcases h3.2 with ⟨_, k3, rfl⟩ | ⟨k3, rfl⟩
        · refine Or.inl ⟨rfl, by rw [restO_step k1 k2 k3] at e2; exact e2, fun y hy => ?_⟩
          rcases List.mem_append.1 hy with hy | hy
          · exact e3 y hy
          · obtain rfl := List.mem_singleton.1 hy
            exact ⟨numO_i64 k1, numO_i64 k2, numO_i64 k3⟩
        · rcases k3 with k3 | k3
          · cases k3
          · exact Or.inr ⟨rfl, by rw [restO_no3 k1 k2 k3] at e2; exact e2⟩
      · rcases k2 with k2 | k2
        · cases k2
        · exact Or.inr ⟨bad h3, by rw [restO_no2 k1 k2] at e2; exact e2⟩
    · rcases k1 with k1 | k1
      · cases k1
      · obtain rfl := bad h2
        exact Or.inr ⟨bad h3, by rw [restO_no1 k1] at e2; exact e2⟩
  · obtain rfl := bad h1
    obtain rfl := bad h2
    exact Or.inr ⟨bad h3, e2⟩
theorem oi_end {t x : ByteArray} {l : List SigV} {p : Nat} {d : Bool} (h : LpR t x l 0 p d) : (doneB t p d = false → ¬ ∃ x l, SignedOk t x l) ∧ (doneB t p d = true → (∀ y ∈ l, y.w) ∧ ((signedB x l = true ∧ SignedOk t x l) ∨ (signedB x l = false ∧ ¬ ∃ x l, SignedOk t x l))) := by
  unfold doneB
  rcases h with ⟨rfl, e2, e3⟩ | ⟨rfl, e2⟩
  · rw [restO_end] at e2
    constructor
    · intro hd
      have hp : ¬ p = t.size := by simpa using hd
      rintro ⟨x', l', hh⟩
      obtain ⟨q, k1, k2⟩ := (e2 x' l').1 hh
      split at k1
      · injection k1 with k1
        injection k1 with _ k3
        injection k3 with _ k4
        exact hp (k4.trans k2)
      · cases k1
    · intro hd
      have hp : p = t.size := by simpa using hd
      refine ⟨e3, ?_⟩
      cases hb : signedB x l with
      | true => exact Or.inl ⟨rfl, (e2 x l).2 ⟨p, by rw [hb]; rfl, hp⟩⟩
      | false =>
        refine Or.inr ⟨rfl, ?_⟩
        rintro ⟨x', l', hh⟩
        obtain ⟨q, k1, _⟩ := (e2 x' l').1 hh
        rw [hb] at k1
        cases k1
  · refine ⟨fun _ => ?_, fun hd => by cases hd⟩
    rintro ⟨x', l', hh⟩
    obtain ⟨q, k1, _⟩ := (e2 x' l').1 hh
    cases k1
theorem wpList_buildSg {ops : Array Oper} {rest : List Oper} {o : Oper} {a : Act} {w : World} {Q : Exit → Act → World → Prop} (hg : o.guard = none) (x0 : Operand) (ho : o.op = .buildSlice 57 1 #[(0, x0)]) (k e s : Int) (e0 : a.eval x0 = .agg #[.int .i64 k, .int .i64 e, .int .i64 s])
    (h : ∀ w', RowV w' w.heap.size (svs k e s) → Below w.heap.size w w' → wpList Try.prog ops Q rest (a.put o.dst (.slice (some ⟨w.heap.size, 0, none⟩) 1 1)) w') : wpList Try.prog ops Q (o :: rest) a w :=
  wpList_plain hg fun _ hK => wp_buildSg x0 ho k e s e0 (fun w' h1 h2 => hK _ _ (h w' h1 h2))
theorem wpList_appendSg {ops : Array Oper} {rest : List Oper} {W : World} {o : Oper} {a : Act} {Q : Exit → Act → World → Prop} (hg : o.guard = none) (s x : Operand) (ho : o.op = .call { callee := .builtin .append, args := #[s, x], argTypes := #[57, 57] })
    (base : Nat) (v : Value) (l : List SigV) (y : SigV) (hs : a.eval s = v) (hown : OwnSg W base v l) (B : Nat) (hx : a.eval x = .slice (some ⟨B, 0, none⟩) 1 1) (hB : RowV W B (svs y.k y.e y.s)) (hn : l.length ≤ 1000) (hbase : base ≤ W.heap.size)
    (h : ∀ v' w', OwnSg w' base v' (l ++ [y]) → W.grownBy w' v.ownBlock → wpList Try.prog ops Q rest (a.put o.dst v') w') : wpList Try.prog ops Q (o :: rest) a W :=
  wpList_plain hg fun _ hK => wp_appendSg s x ho base v l y hs hown B hx hB hn hbase (fun v' w' h1 h2 _ => hK _ _ (h v' w' h1 h2))
/- The rows of the call. -/
structure KpSp (w4 : World) (B0 g G2 G5 : Nat) (t : ByteArray) (p : Nat) (d : Bool) (x : ByteArray) (v : Value) (l : List SigV) (w' : World) : Prop where
  bel : Below B0 w4 w'
  cur : RowV w' g (srv t p d)
  r2 : RowV w' G2 (sgv ⟨#[]⟩ none 0 0)
  r5 : RowV w' G5 (sdv x v)
  own : OwnSg w' w4.heap.size v l
  sz : w4.heap.size ≤ w'.heap.size
  b2 : B0 ≤ G2
  bg : G2 < g
  b5 : g < G5
  b4 : G5 < w4.heap.size
theorem KpSp.same {w4 w' w2 : World} {B0 g G2 G5 p : Nat} {d : Bool} {t x : ByteArray} {v : Value} {l : List SigV} (h : KpSp w4 B0 g G2 G5 t p d x v l w') (hb : Below B0 w' w2) (hk : ∀ k, k < w4.heap.size → B0 ≤ k → w2.heap[k]? = w'.heap[k]?) (ho : OwnSg w2 w4.heap.size v l) : KpSp w4 B0 g G2 G5 t p d x v l w2 := by
  have := h.b2
  have := h.bg
  have := h.b5
  have := h.b4
  exact ⟨h.bel.trans hb, row_blk h.cur (hk g (by omega) (by omega)), row_blk h.r2 (hk G2 (by omega) (by omega)), row_blk h.r5 (hk G5 (by omega) (by omega)), ho, Nat.le_trans h.sz hb.size, h.b2, h.bg, h.b5, h.b4⟩
theorem KpSp.call {w4 w' w2 : World} {B0 g G2 G5 p : Nat} {d : Bool} {t x : ByteArray} {v : Value} {l : List SigV} (h : Hid (KpSp w4 B0 g G2 G5 t p d x v l w')) (hb : Below w'.heap.size w' w2) : Hid (KpSp w4 B0 g G2 G5 t p d x v l w2) := by
  have e1 := h.out.b2
  have e2 := h.out.bg
  have e3 := h.out.b5
  have e4 := h.out.b4
  have e5 := h.out.sz
  exact h.out.same (hb.mono (by omega)) (fun k hk _ => hb.block k (by omega)) (h.out.own.keep hb)
theorem KpSp.drew {w4 w' : World} {B0 g G2 G5 p : Nat} {d : Bool} {t x : ByteArray} {v : Value} {l : List SigV} (h : Hid (KpSp w4 B0 g G2 G5 t p d x v l w')) : Hid (KpSp w4 B0 g G2 G5 t p d x v l w'.drew) := ⟨h.out.bel.drew, h.out.cur.drew, h.out.r2.drew, h.out.r5.drew, h.out.own, h.out.sz, h.out.b2, h.out.bg, h.out.b5, h.out.b4⟩
theorem KpSp.far {w4 w' w2 : World} {B0 g G2 G5 p G : Nat} {d : Bool} {t x : ByteArray} {v : Value} {l : List SigV} (h : Hid (KpSp w4 B0 g G2 G5 t p d x v l w')) (ho : Only G w' w2) (hG : w4.heap.size ≤ G) (hv : ∀ k, v.ownBlock = some k → k ≠ G) : Hid (KpSp w4 B0 g G2 G5 t p d x v l w2) := by
  have e1 := h.out.b2
  have e2 := h.out.bg
  have e3 := h.out.b5
  have e4 := h.out.b4
  have e5 := h.out.sz
  exact h.out.same (ho.bel (by omega)) (fun k hk _ => ho.blk k (by omega) (by omega)) (own_same h.out.own (fun k hk hl => ho.blk k (hv k hk) hl))
theorem KpSp.read {w4 w' w2 : World} {B0 g G2 G5 p q : Nat} {d d' : Bool} {t x : ByteArray} {v : Value} {l : List SigV} (h : Hid (KpSp w4 B0 g G2 G5 t p d x v l w')) (hr : RowV w2 g (srv t q d')) (ho : Only g w' w2) : Hid (KpSp w4 B0 g G2 G5 t q d' x v l w2) := by
  have e1 := h.out.b2
  have e2 := h.out.bg
  have e3 := h.out.b5
  have e4 := h.out.b4
  have e5 := h.out.sz
  exact ⟨h.out.bel.trans (ho.bel (by omega)), hr, ho.row h.out.r2 (sgv_ne _ _ _ _) (by omega), ho.row h.out.r5 (sdv_ne _ _) (by omega), own_same h.out.own (fun k hk hl => ho.blk k (by have := (own_ge h.out.own hk).1; omega) hl), Nat.le_trans e5 ho.size, e1, e2, e3, e4⟩
theorem KpSp.body {w4 w' w2 : World} {B0 g G2 G5 p : Nat} {d : Bool} {t x y : ByteArray} {v : Value} {l : List SigV} (h : Hid (KpSp w4 B0 g G2 G5 t p d x v l w')) (hr : RowV w2 G5 (sdv y v)) (ho : Only G5 w' w2) : Hid (KpSp w4 B0 g G2 G5 t p d y v l w2) := by
  have e1 := h.out.b2
  have e2 := h.out.bg
  have e3 := h.out.b5
  have e4 := h.out.b4
  have e5 := h.out.sz
  exact ⟨h.out.bel.trans (ho.bel (by omega)), ho.row h.out.cur (srv_ne _ _ _) (by omega), ho.row h.out.r2 (sgv_ne _ _ _ _) (by omega), hr, own_same h.out.own (fun k hk hl => ho.blk k (by have := (own_ge h.out.own hk).1; omega) hl), Nat.le_trans e5 ho.size, e1, e2, e3, e4⟩
theorem KpSp.old {w4 w' w2 : World} {B0 g G2 G5 p k : Nat} {d : Bool} {t x : ByteArray} {v : Value} {l : List SigV} (h : Hid (KpSp w4 B0 g G2 G5 t p d x v l w')) (hg : w'.grownBy w2 v.ownBlock) (hk : k < w4.heap.size) : w2.heap[k]? = w'.heap[k]? := hg.block k (by have := h.out.sz; omega) (fun e => by have := (own_ge h.out.own e.symm).1; omega)
theorem KpSp.r5a {w4 w' w2 : World} {B0 g G2 G5 p : Nat} {d : Bool} {t x : ByteArray} {v : Value} {l : List SigV} (h : Hid (KpSp w4 B0 g G2 G5 t p d x v l w')) (hg : w'.grownBy w2 v.ownBlock) : RowV w2 G5 (sdv x v) := row_blk h.out.r5 (KpSp.old h hg h.out.b4)
theorem KpSp.app {w4 w' w2 w3 : World} {B0 g G2 G5 p : Nat} {d : Bool} {t x : ByteArray} {v v' : Value} {l l' : List SigV} (h : Hid (KpSp w4 B0 g G2 G5 t p d x v l w')) (hg : w'.grownBy w2 v.ownBlock) (hw : OwnSg w2 w4.heap.size v' l') (hr : RowV w3 G5 (sdv x v')) (ho : Only G5 w2 w3) : Hid (KpSp w4 B0 g G2 G5 t p d x v' l' w3) := by
  have e1 := h.out.b2
  have e2 := h.out.bg
  have e3 := h.out.b5
  have e4 := h.out.b4
  have e5 := h.out.sz
  refine ⟨(h.out.bel.trans ⟨hg.os, hg.tape, hg.output, hg.size, fun k hk => KpSp.old h hg (by omega)⟩).trans (ho.bel (by omega)), ho.row (row_blk h.out.cur (KpSp.old h hg (by omega))) (srv_ne _ _ _) (by omega), ho.row (row_blk h.out.r2 (KpSp.old h hg (by omega))) (sgv_ne _ _ _ _) (by omega), hr, own_same hw (fun k hk hl => ho.blk k (by have := (own_ge hw hk).1; omega) hl), Nat.le_trans (Nat.le_trans e5 hg.size) ho.size, e1, e2, e3, e4⟩
theorem KpSp.curH {w4 w' : World} {B0 g G2 G5 p : Nat} {d : Bool} {t x : ByteArray} {v : Value} {l : List SigV} (h : Hid (KpSp w4 B0 g G2 G5 t p d x v l w')) : RowV w' g (srv t p d) := h.out.cur
theorem KpSp.r5H {w4 w' : World} {B0 g G2 G5 p : Nat} {d : Bool} {t x : ByteArray} {v : Value} {l : List SigV} (h : Hid (KpSp w4 B0 g G2 G5 t p d x v l w')) : RowV w' G5 (sdv x v) := h.out.r5
theorem KpSp.r2H {w4 w' : World} {B0 g G2 G5 p : Nat} {d : Bool} {t x : ByteArray} {v : Value} {l : List SigV} (h : Hid (KpSp w4 B0 g G2 G5 t p d x v l w')) : RowV w' G2 (sgv ⟨#[]⟩ none 0 0) := h.out.r2
theorem KpSp.szH {w4 w' : World} {B0 g G2 G5 p : Nat} {d : Bool} {t x : ByteArray} {v : Value} {l : List SigV} (h : Hid (KpSp w4 B0 g G2 G5 t p d x v l w')) : w4.heap.size ≤ w'.heap.size := h.out.sz
theorem KpSp.ownH {w4 w' : World} {B0 g G2 G5 p : Nat} {d : Bool} {t x : ByteArray} {v : Value} {l : List SigV} (h : Hid (KpSp w4 B0 g G2 G5 t p d x v l w')) : OwnSg w' w4.heap.size v l := h.out.own
theorem KpSp.ob {w4 w' : World} {B0 g G2 G5 p : Nat} {d : Bool} {t x : ByteArray} {v : Value} {l : List SigV} (h : Hid (KpSp w4 B0 g G2 G5 t p d x v l w')) : ∀ k, v.ownBlock = some k → k ≠ w'.heap.size := fun k hk => Nat.ne_of_lt (own_ge h.out.own hk).2
theorem KpSp.neg {w4 w' : World} {B0 g G2 G5 p k : Nat} {d : Bool} {t x : ByteArray} {v : Value} {l : List SigV} (h : Hid (KpSp w4 B0 g G2 G5 t p d x v l w')) (hk : w4.heap.size ≤ k) : k ≠ g := by
  have := h.out.b5
  have := h.out.b4
  omega
theorem KpSp.cell {w4 w' : World} {B0 g G2 G5 p : Nat} {d : Bool} {t x : ByteArray} {v : Value} {l : List SigV} (h : Hid (KpSp w4 B0 g G2 G5 t p d x v l w')) : w'.cell? ⟨G5, 0, none⟩ = some (.string x) ∧ w'.cell? ⟨G5, 1, none⟩ = some v := ⟨h.out.r5.cell (k := 0) rfl, h.out.r5.cell (k := 1) rfl⟩
theorem KpSp.start {w w1 w2 w3 w4 : World} {t : ByteArray} (r : RowV w3 w.heap.size (sgv ⟨#[]⟩ none 0 0)) (c : RowV w3 w1.heap.size (srv t 0 false)) (a : RowV w4 w2.heap.size (sgv ⟨#[]⟩ none 0 0)) (z1 : w.heap.size < w1.heap.size) (z2 : w1.heap.size < w2.heap.size) (z3 : w2.heap.size < w3.heap.size) (o : Only w2.heap.size w3 w4) (hs : w4.heap.size = w3.heap.size) : Hid (KpSp w4 w.heap.size w1.heap.size w.heap.size w2.heap.size t 0 false ⟨#[]⟩ (.slice none 0 0) [] w4) :=
  ⟨Below.refl _ _, o.row c (srv_ne _ _ _) (by omega), o.row r (sgv_ne _ _ _ _) (by omega), a, ownSg_nil _ _, Nat.le_refl _, Nat.le_refl _, z1, z2, by omega⟩
theorem len_add {l : List SigV} {n : Nat} (h : Hid (l.length = n)) (y : SigV) : (l ++ [y]).length = n + 1 := by rw [List.length_append, h.out]; rfl
theorem txt_le {t x : ByteArray} {p p' : Nat} {d d' : Bool} (h : Hid (TxtR t p d x p' d')) : p' ≤ t.size := h.out.1
theorem man_le {t : ByteArray} {p p' m k : Nat} {d d' : Bool} (h : Hid (ManR t p d m k p' d')) : p' ≤ t.size := h.out.1
theorem txt_sz {t x : ByteArray} {p p' : Nat} {d d' : Bool} (h : Hid (TxtR t p d x p' d')) (hs : t.size ≤ maxLen) : x.size ≤ maxLen := by
  rcases h.out.2 with ⟨_, k, _⟩ | ⟨_, _, k⟩
  · exact Nat.le_trans (textO_some k).2.2.1 hs
  · rw [k]; exact Nat.zero_le _
theorem KpSp.sgf {w w1 w2 w4 w' w3 : World} {p : Nat} {d : Bool} {t x : ByteArray} {a : Option Addr} {n c : Nat} {l : List SigV} (h : Hid (KpSp w4 w.heap.size w1.heap.size w.heap.size w2.heap.size t p d x (.slice a n c) l w')) (hat : SgsAt w' a l) (ho : Only w.heap.size w' w3) (z1 : w.heap.size < w1.heap.size) (z2 : w1.heap.size < w2.heap.size) : SgsAt w3 a l := by
  have hO : OwnSg w3 w4.heap.size (.slice a n c) l := own_same h.out.own (fun k hk hl => ho.blk k (by have := (own_ge h.out.own hk).1; have := h.out.b4; omega) hl)
  obtain ⟨a', c', e, hs⟩ := hO.form
  injection e with e1 e2 e3
  subst e1
  exact hs
theorem KpSp.ab {w w1 w2 w4 w' : World} {p : Nat} {d : Bool} {t x : ByteArray} {a : Option Addr} {n c : Nat} {l : List SigV} (h : Hid (KpSp w4 w.heap.size w1.heap.size w.heap.size w2.heap.size t p d x (.slice a n c) l w')) (z1 : w.heap.size < w1.heap.size) (z2 : w1.heap.size < w2.heap.size) : ∀ ad, a = some ad → w.heap.size ≤ ad.block := by
  intro ad e
  subst e
  have := (own_ge h.out.own (k := ad.block) rfl).1
  have := h.out.b4
  omega
theorem KpSp.cf {w w1 w2 w4 w' w3 : World} {p : Nat} {d : Bool} {t x : ByteArray} {v : Value} {l : List SigV} (h : Hid (KpSp w4 w.heap.size w1.heap.size w.heap.size w2.heap.size t p d x v l w')) (ho : Only w.heap.size w' w3) (z1 : w.heap.size < w1.heap.size) (z2 : w1.heap.size < w2.heap.size) : w3.cell? ⟨w2.heap.size, 0, none⟩ = some (.string x) ∧ w3.cell? ⟨w2.heap.size, 1, none⟩ = some v := by
  have hr := ho.row h.out.r5 (sdv_ne _ _) (by omega)
  exact ⟨hr.cell (k := 0) rfl, hr.cell (k := 1) rfl⟩
set_option maxRecDepth 100000 in
set_option maxHeartbeats 4000000 in
theorem spSigned (t : ByteArray) (w : World) (hs : t.size ≤ maxLen) :
    Calls Try.prog 92 #[.string t] w fun r w' => ∃ x l a n c ok, r = .returned (.tuple #[.agg #[.string x, .slice a n c], .bool ok]) ∧ l.length = n ∧ SgsAt w' a l ∧ (∀ ad, a = some ad → w.heap.size ≤ ad.block) ∧ n ≤ 16 ∧ ((ok = true ∧ SignedOk t x l) ∨ (ok = false ∧ ¬ ∃ x l, SignedOk t x l)) ∧ Below w.heap.size w w' := by
  have hs' : Hid (t.size ≤ maxLen) := hs
  clear hs
  go_enter Try.func92, Try.ntmps92
  go_wp2_with (first
    | (with_reducible refine wpList_allocV (w := w) (by with_unfolding_all rfl) 59 (by with_unfolding_all rfl) (sgv ⟨#[]⟩ none 0 0) Try.infoSd ?_; intro w1 hA1 hB1 hS1; have z1 : w.heap.size < w1.heap.size := (by omega); clear hS1)
    | (with_reducible refine wpList_boxV (w := w1) (by with_unfolding_all rfl) 174 (.tmp 9) (by with_unfolding_all rfl) (srv t 0 false) (by with_unfolding_all rfl) ?_; intro w2 hA2 hB2 hS2; have z2 : w1.heap.size < w2.heap.size := (by omega); clear hS2; have R2 := hA1.below hB2 z1)
    | (with_reducible refine wpList_allocV (w := w2) (by with_unfolding_all rfl) 59 (by with_unfolding_all rfl) (sgv ⟨#[]⟩ none 0 0) Try.infoSd ?_; intro w3 hA3 hB3 hS3; have z3 : w2.heap.size < w3.heap.size := (by omega); clear hS3; have R3 := R2.below hB3 (Nat.lt_trans z1 z2); have C3 := hA2.below hB3 z2; have B03 : Below w.heap.size w w3 := (hB1.trans (hB2.mono (Nat.le_of_lt z1))).trans (hB3.mono (Nat.le_of_lt (Nat.lt_trans z1 z2))))
    | (with_reducible refine wpList_storeH (w := w3) (by with_unfolding_all rfl) 59 (.tmp 5) (.tmp 11) (by with_unfolding_all rfl) w2.heap.size (sgv ⟨#[]⟩ none 0 0) (sgv ⟨#[]⟩ none 0 0) (by with_unfolding_all rfl) (by with_unfolding_all rfl) hA3 2 Try.sizeSd (by with_unfolding_all rfl) (by with_unfolding_all rfl) (sgv_one _ _ _ _) ?_; intro w4 hA4 hB4 hF4 hS4; have HS4 := KpSp.start R3 C3 hA4 z1 z2 z3 (Only.set hB4 hF4 hS4) hS4; have B04 : Below w.heap.size w w4 := B03.trans (hB4 _ (Nat.le_of_lt (Nat.lt_trans z1 z2))))
    | (go_at_call 134; refine (spFirst w1.heap.size t ⟨#[83]⟩ w4 hs'.out (KpSp.curH HS4)).mono ?_; rintro r w5 ⟨p1, d1, rfl, hf, hA5, hO5⟩; have HF1 := hidP hf; clear hf; have HS5 := KpSp.read HS4 hA5 hO5)
    | (go_at_call 135; with_reducible refine (spTxt w1.heap.size p1 t w5 hs'.out (fst_le HF1) d1 (KpSp.curH HS5)).mono ?_; rintro r w6 ⟨x, p2, d2, rfl, hf, hA6, hO6⟩; have HT1 := hidP hf; clear hf; have HS6 := KpSp.read HS5 hA6 hO6)
    | (with_reducible refine wpList_cellH (w := w6) (by with_unfolding_all rfl) 9 (.tmp 16) (.tmp 15) (by with_unfolding_all rfl) w2.heap.size 0 (sdv ⟨#[]⟩ (.slice none 0 0)) (sdv x (.slice none 0 0)) (.string x) (by with_unfolding_all rfl) (by with_unfolding_all rfl) rfl Try.size1Str (KpSp.r5H HS6) (by simp [sdv]) (by with_unfolding_all rfl) ?_; intro w7 hA7 hB7 hF7 hS7; have HS7 := KpSp.body HS6 hA7 (Only.set hB7 hF7 hS7))
    | (go_at_call 136; refine (spMany w1.heap.size p2 16 t w7 hs'.out (txt_le HT1) d2 (KpSp.curH HS7)).mono ?_; rintro r w8 ⟨k, p3, d3, rfl, hf, hA8, hO8⟩; have HM1 := hidP hf; clear hf; have HS8 := KpSp.read HS7 hA8 hO8))
  have HLp : Hid (LpR t x [] k p3 d3) := oi_many (oi_text (oi_first HF1.out) HT1.out) HM1.out
  have HXs : Hid (x.size ≤ maxLen) := txt_sz HT1 hs'.out
  have hp3 : p3 ≤ t.size := man_le HM1
  have hk16 : k ≤ 16 := HM1.out.2.1
  clear HS4 HS5 HS6 HS7 HF1 HT1 HM1 hA1 hA2 hA3 hA4 hA5 hA6 hA7 hA8 hB1 hB2 hB3 hB4 hF4 hS4 hB7 hF7 hS7 R2 R3 C3 B03 hO5 hO6 hO8
  go_loopw [6] (fun vk wr => ∃ (m p : Nat) (d : Bool) (v : Value) (l : List SigV), vk = .int .i64 (m : Int) ∧ m ≤ 16 ∧ p ≤ t.size ∧ Hid (l.length + m = k) ∧ Hid (LpR t x l m p d) ∧ Hid (KpSp w4 w.heap.size w1.heap.size w.heap.size w2.heap.size t p d x v l wr)) (fun vk _ => (intOf vk).toNat)
  case atStart => exact ⟨k, p3, d3, .slice none 0 0, [], rfl, hk16, hp3, by show _ = _; simp, HLp, HS8⟩
  case round =>
  clear HLp HS8
  obtain ⟨m, p, d, v, l, rfl, hm, hp, HLn, HLp, HS⟩ := hrel
  have hvf := OwnSg.form (KpSp.ownH HS)
  obtain ⟨a, c, rfl, hat⟩ := hvf
  obtain ⟨n, hn⟩ : ∃ n, l.length = n := ⟨_, rfl⟩
  have HNn : Hid (l.length = n) := hn
  rw [hn] at HS
  have hn16 : n ≤ 16 := by have := HLn.out; omega
  by_cases hlt : 0 < m
  case pos =>
    have hl1000 : l.length ≤ 1000 := by omega
    obtain ⟨m', rfl⟩ : ∃ m', m = m' + 1 := ⟨m - 1, by omega⟩
    have em : ((m' + 1 : Nat) : Int) - 1 = (m' : Int) := by omega
    have d1 : decide ((0 : Int) < ((m' + 1 : Nat) : Int)) = true := decide_eq_true (by omega)
    go_wp2_with (first
      | (with_reducible refine wpList_allocV (w := wr) (by with_unfolding_all rfl) 109 (by with_unfolding_all rfl) (svs 0 0 0) Try.infoS ?_; intro wa Swa hBwa hSwa; clear hSwa; have HSwa := KpSp.call HS hBwa)
      | (with_reducible refine wpList_storeH (w := wa) (by with_unfolding_all rfl) 109 (.tmp 7) (.tmp 23) (by with_unfolding_all rfl) wr.heap.size (svs 0 0 0) (svs 0 0 0) (by with_unfolding_all rfl) (by with_unfolding_all rfl) Swa 3 Try.sizeS (by with_unfolding_all rfl) (by with_unfolding_all rfl) (svs_one _ _ _) ?_; intro wb Swb hBwb hFwb hSwb; have HSwb := KpSp.far HSwa (Only.set hBwb hFwb hSwb) (KpSp.szH HS) (KpSp.ob HS))
      | (go_at_call 137; with_reducible refine (spNum w1.heap.size p t wb hs'.out hp d (KpSp.curH HSwb)).mono ?_; rintro r wc ⟨ka, q1, e1, rfl, hf, hAwc, hOwc⟩; have HN1 := hidP hf; clear hf; have HSwc := KpSp.read HSwb hAwc hOwc; have Swc := hOwc.row Swb (svs_ne _ _ _) (KpSp.neg HSwb (KpSp.szH HS)))
      | (with_reducible refine wpList_cellH (w := wc) (by with_unfolding_all rfl) 2 (.tmp 26) (.tmp 25) (by with_unfolding_all rfl) wr.heap.size 0 (svs 0 0 0) (svs ka 0 0) (.int .i64 ka) (by with_unfolding_all rfl) (by with_unfolding_all rfl) rfl Try.siz1I Swc (by simp [svs]) (by with_unfolding_all rfl) ?_; intro wd Swd hBwd hFwd hSwd; have HSwd := KpSp.far HSwc (Only.set hBwd hFwd hSwd) (KpSp.szH HS) (KpSp.ob HS))
      | (go_at_call 137; with_reducible refine (spNum w1.heap.size q1 t wd hs'.out (num_le HN1) e1 (KpSp.curH HSwd)).mono ?_; rintro r we ⟨kb, q2, e2, rfl, hf, hAwe, hOwe⟩; have HN2 := hidP hf; clear hf; have HSwe := KpSp.read HSwd hAwe hOwe; have Swe := hOwe.row Swd (svs_ne _ _ _) (KpSp.neg HSwd (KpSp.szH HS)))
      | (with_reducible refine wpList_cellH (w := we) (by with_unfolding_all rfl) 2 (.tmp 29) (.tmp 28) (by with_unfolding_all rfl) wr.heap.size 1 (svs ka 0 0) (svs ka kb 0) (.int .i64 kb) (by with_unfolding_all rfl) (by with_unfolding_all rfl) rfl Try.siz1I Swe (by simp [svs]) (by with_unfolding_all rfl) ?_; intro wf Swf hBwf hFwf hSwf; have HSwf := KpSp.far HSwe (Only.set hBwf hFwf hSwf) (KpSp.szH HS) (KpSp.ob HS))
      | (go_at_call 137; with_reducible refine (spNum w1.heap.size q2 t wf hs'.out (num_le HN2) e2 (KpSp.curH HSwf)).mono ?_; rintro r wg ⟨kc, q3, e3, rfl, hf, hAwg, hOwg⟩; have HN3 := hidP hf; clear hf; have HSwg := KpSp.read HSwf hAwg hOwg; have Swg := hOwg.row Swf (svs_ne _ _ _) (KpSp.neg HSwf (KpSp.szH HS)))
      | (with_reducible refine wpList_cellH (w := wg) (by with_unfolding_all rfl) 2 (.tmp 32) (.tmp 31) (by with_unfolding_all rfl) wr.heap.size 2 (svs ka kb 0) (svs ka kb kc) (.int .i64 kc) (by with_unfolding_all rfl) (by with_unfolding_all rfl) rfl Try.siz1I Swg (by simp [svs]) (by with_unfolding_all rfl) ?_; intro wh Swh hBwh hFwh hSwh; have HSwh := KpSp.far HSwg (Only.set hBwh hFwh hSwh) (KpSp.szH HS) (KpSp.ob HS); obtain ⟨s0, s1, s2⟩ := Swh.sig; obtain ⟨t0, t1⟩ := KpSp.cell HSwh)
      | (with_reducible refine wpList_buildSg (w := wh) (by with_unfolding_all rfl) (.tmp 35) (by with_unfolding_all rfl) ka kb kc (by with_unfolding_all rfl) ?_; intro wi Ri hBwi; have HSwi := KpSp.call HSwh hBwi)
      | (with_reducible refine wpList_appendSg (W := wi) (by with_unfolding_all rfl) (.tmp 34) (.tmp 36) (by with_unfolding_all rfl) w4.heap.size (.slice a n c) l ⟨ka, kb, kc⟩ (by with_unfolding_all rfl) (KpSp.ownH HSwi) wh.heap.size (by with_unfolding_all rfl) Ri hl1000 (KpSp.szH HSwi) ?_; intro v2 wj hOj hGj; obtain ⟨a2, c2, ev2, hatj⟩ := OwnSg.form hOj; subst ev2; have hl2 := len_add HNn ⟨ka, kb, kc⟩; rw [hl2] at hOj; have R5j := KpSp.r5a HSwi hGj)
      | (with_reducible refine wpList_cellH (w := wj) (by with_unfolding_all rfl) 57 (.tmp 38) (.tmp 37) (by with_unfolding_all rfl) w2.heap.size 1 (sdv x (.slice a n c)) (sdv x (.slice a2 (n + 1) c2)) (.slice a2 (n + 1) c2) (by with_unfolding_all rfl) (by with_unfolding_all rfl) rfl Try.size1Sgs R5j (by simp [sdv]) (by with_unfolding_all rfl) ?_; intro wz hAz hBz hFz hSz; have HSz := KpSp.app HSwi hGj hOj hAz (Only.set hBz hFz hSz)))
    have HLz : Hid (LpR t x (l ++ [⟨ka, kb, kc⟩]) m' q3 e3) := oi_round HLp.out HN1.out HN2.out HN3.out
    have hq3 : q3 ≤ t.size := num_le HN3
    go_roundw
    case rel => exact ⟨m', q3, e3, _, l ++ [⟨ka, kb, kc⟩], by go_num, by omega, hq3, by show _ = _; rw [List.length_append]; have := HLn.out; show l.length + 1 + m' = _; omega, HLz, HSz⟩
    case measure => simp [intOf]
  obtain rfl : m = 0 := by omega
  have HE := hidP (oi_end HLp.out)
  have HSd := KpSp.drew HS
  have hatd : SgsAt wr.drew a l := hat
  have hD : ∀ w0, Hid (KpSp w4 w.heap.size w1.heap.size w.heap.size w2.heap.size t p d x (.slice a n c) l w0) → Calls Try.prog 138 #[.pointer (some ⟨w1.heap.size, 0, none⟩)] w0 fun e w' => e = .returned (.bool (doneB t p d)) ∧ Below w0.heap.size w0 w' := fun w0 h0 => spDone _ p t w0 hs'.out hp d (KpSp.curH h0)
  clear HLp HS hat
  cases hdn : doneB t p d with
  | false =>
    as_aux_lemma =>
    have HNo : Hid (¬ ∃ x l, SignedOk t x l) := HE.out.1 hdn
    rw [hdn] at hD
    clear HE hdn
    go_wp2_with fail
    refine wp_region_held_drew (S := fun w' => w'.cell? ⟨w2.heap.size, 0, none⟩ = some (.string x) ∧ w'.cell? ⟨w2.heap.size, 1, none⟩ = some (.slice a n c)) (by kernel_rfl) (KpSp.cell HSd) (fun hHeld => ?_)
    refine wpAnyH_take (i := 0) (oi := ⟨_, _, _, _, _, _⟩) (v := .agg #[.string x, .slice a n c]) rfl (by kernel_rfl) (by kernel_rfl) (by kernel_rfl) (fun _ _ _ h => h) (Or.inl ⟨wanted_free rfl, fun w' hSw => ?_⟩) hHeld ?_
    · obtain ⟨s0, s1⟩ := hSw
      go_simp
    try simp only [Act.put, List.setIfInBounds_toArray, List.set_cons_zero, List.set_cons_succ]
    refine wpAnyH_take (i := 1) (oi := ⟨_, _, _, _, _, _⟩) (v := .pointer (some ⟨w1.heap.size, 0, none⟩)) rfl (by kernel_rfl) (by kernel_rfl) (by kernel_rfl) (fun _ _ _ h => h) (Or.inl ⟨wanted_free rfl, fun w' hSw => ?_⟩) hHeld ?_
    · go_simp
    try simp only [Act.put, List.setIfInBounds_toArray, List.set_cons_zero, List.set_cons_succ]
    generalize wr.drew = wc at *
    refine wpAnyH_ready (rs := [2]) (by kernel_rfl) (by simp) (AllReadyH.cons (o := ⟨_, _, _, _, _, _⟩) rfl (fun K hK => ?_) AllReadyH.nil)
    rewrite [if_pos (wanted_free rfl)]
    go_simp
    refine (hD wc HSd).mono ?_
    rintro r wd ⟨rfl, hBd⟩
    have HSe := KpSp.call HSd hBd
    have hate := hatd.below hBd
    go_wp2_with fail
    refine hK.out _ _ (KpSp.cell HSe) (fun hHeld => ?_)
    clear hK K
    try simp only [Act.put, List.setIfInBounds_toArray, List.set_cons_zero, List.set_cons_succ]
    refine wpAnyH_take (i := 3) (oi := ⟨_, _, _, _, _, _⟩) (v := .bool false) rfl (by kernel_rfl) (by kernel_rfl) (by kernel_rfl) (fun _ _ _ h => h) (Or.inl ⟨wanted_free rfl, fun w' hSw => ?_⟩) hHeld ?_
    · go_simp
    try simp only [Act.put, List.setIfInBounds_toArray, List.set_cons_zero, List.set_cons_succ]
    refine wpAnyH_take (i := 4) (oi := ⟨_, _, _, _, _, _⟩) (v := undef) rfl (by kernel_rfl) (by kernel_rfl) (by kernel_rfl) (fun _ _ _ h => h) (Or.inr ⟨by with_unfolding_all rfl, rfl⟩) hHeld ?_
    try simp only [Act.put, List.setIfInBounds_toArray, List.set_cons_zero, List.set_cons_succ]
    refine wpAnyH_take (i := 5) (oi := ⟨_, _, _, _, _, _⟩) (v := undef) rfl (by kernel_rfl) (by kernel_rfl) (by kernel_rfl) (fun _ _ _ h => h) (Or.inr ⟨by with_unfolding_all rfl, rfl⟩) hHeld ?_
    try simp only [Act.put, List.setIfInBounds_toArray, List.set_cons_zero, List.set_cons_succ]
    refine wpAnyH_take (i := 6) (oi := ⟨_, _, _, _, _, _⟩) (v := .bool false) rfl (by kernel_rfl) (by kernel_rfl) (by kernel_rfl) (fun _ _ _ h => h) (Or.inl ⟨wanted_free rfl, fun w' hSw => ?_⟩) hHeld ?_
    · go_simp
    try simp only [Act.put, List.setIfInBounds_toArray, List.set_cons_zero, List.set_cons_succ]
    refine wpAnyH_ready (rs := [7]) (by kernel_rfl) (by simp) (AllReadyH.cons (o := ⟨_, _, _, _, _, _⟩) rfl (fun K hK => ?_) AllReadyH.nil)
    rewrite [if_pos (wanted_free rfl)]
    with_reducible refine wp_storeV 59 (.tmp 2) (.tmp 39) (by with_unfolding_all rfl) w.heap.size (sgv ⟨#[]⟩ none 0 0) (sgv x a n c) (by with_unfolding_all rfl) (by with_unfolding_all rfl) (KpSp.r2H HSe) 2 Try.sizeSd (by with_unfolding_all rfl) (by with_unfolding_all rfl) (sgv_one _ _ _ _) ?_
    intro wf hAf hOf
    have BF : Below w.heap.size w wf := (B04.trans HSe.out.bel).trans (hOf.bel (Nat.le_refl _))
    have SF := KpSp.sgf HSe hate hOf z1 z2
    have CF := KpSp.cf HSe hOf z1 z2
    have AF := hidP (KpSp.ab HSe z1 z2)
    refine hK.out _ _ CF (fun hHeld => ?_)
    clear hK K
    try simp only [Act.put]
    refine wpAnyH_ready (rs := [8]) (by kernel_rfl) (by simp) (AllReadyH.cons (o := ⟨_, _, _, _, _, _⟩) rfl (fun K hK => ?_) AllReadyH.nil)
    rewrite [if_pos (wanted_free rfl)]
    go_simp
    refine hK.out _ _ hHeld (fun _ => ?_)
    clear hK K
    try simp only [Act.put, List.setIfInBounds_toArray, List.set_cons_zero, List.set_cons_succ]
    refine wpAnyH_done (by kernel_rfl) ?_ _
    go_wp2
    exact bodyPost_ret (results_VB (t := 59) rfl _ w.heap.size (sgv x a n c) rfl hAf Try.undSd 2 Try.sizeSd rfl _ rfl) rfl ⟨x, l, a, n, c, false, rfl, HNn.out, SF, AF.out, hn16, Or.inr ⟨rfl, HNo.out⟩, BF⟩
  | true =>
    as_aux_lemma =>
    have hEE := HE.out.2 hdn
    have HAn : Hid ((signedB x l = true ∧ SignedOk t x l) ∨ (signedB x l = false ∧ ¬ ∃ x l, SignedOk t x l)) := hEE.2
    have hSg : ∀ w0, SgsAt w0 a l → Calls Try.prog 80 #[.agg #[.string x, .slice a n c]] w0 fun r w' => r = .returned (.bool (signedB x l)) ∧ Below w0.heap.size w0 w' := fun w0 h0 => specSigned x a c n l w0 HNn.out h0 (by unfold maxLen; omega) (HXs.out) hEE.1
    rw [hdn] at hD
    obtain ⟨lb, hlb⟩ : ∃ lb, signedB x l = lb := ⟨_, rfl⟩
    rw [hlb] at hSg HAn
    clear HE hEE hdn hlb
    go_wp2_with fail
    refine wp_region_held_drew (S := fun w' => w'.cell? ⟨w2.heap.size, 0, none⟩ = some (.string x) ∧ w'.cell? ⟨w2.heap.size, 1, none⟩ = some (.slice a n c)) (by kernel_rfl) (KpSp.cell HSd) (fun hHeld => ?_)
    refine wpAnyH_take (i := 0) (oi := ⟨_, _, _, _, _, _⟩) (v := .agg #[.string x, .slice a n c]) rfl (by kernel_rfl) (by kernel_rfl) (by kernel_rfl) (fun _ _ _ h => h) (Or.inl ⟨wanted_free rfl, fun w' hSw => ?_⟩) hHeld ?_
    · obtain ⟨s0, s1⟩ := hSw
      go_simp
    try simp only [Act.put, List.setIfInBounds_toArray, List.set_cons_zero, List.set_cons_succ]
    refine wpAnyH_take (i := 1) (oi := ⟨_, _, _, _, _, _⟩) (v := .pointer (some ⟨w1.heap.size, 0, none⟩)) rfl (by kernel_rfl) (by kernel_rfl) (by kernel_rfl) (fun _ _ _ h => h) (Or.inl ⟨wanted_free rfl, fun w' hSw => ?_⟩) hHeld ?_
    · go_simp
    try simp only [Act.put, List.setIfInBounds_toArray, List.set_cons_zero, List.set_cons_succ]
    generalize wr.drew = wc at *
    refine wpAnyH_ready (rs := [2]) (by kernel_rfl) (by simp) (AllReadyH.cons (o := ⟨_, _, _, _, _, _⟩) rfl (fun K hK => ?_) AllReadyH.nil)
    rewrite [if_pos (wanted_free rfl)]
    go_simp
    refine (hD wc HSd).mono ?_
    rintro r wd ⟨rfl, hBd⟩
    have HSe := KpSp.call HSd hBd
    have hate := hatd.below hBd
    go_wp2_with fail
    refine hK.out _ _ (KpSp.cell HSe) (fun hHeld => ?_)
    clear hK K
    try simp only [Act.put, List.setIfInBounds_toArray, List.set_cons_zero, List.set_cons_succ]
    refine wpAnyH_take (i := 3) (oi := ⟨_, _, _, _, _, _⟩) (v := .bool true) rfl (by kernel_rfl) (by kernel_rfl) (by kernel_rfl) (fun _ _ _ h => h) (Or.inl ⟨wanted_free rfl, fun w' hSw => ?_⟩) hHeld ?_
    · go_simp
    try simp only [Act.put, List.setIfInBounds_toArray, List.set_cons_zero, List.set_cons_succ]
    refine wpAnyH_take (i := 4) (oi := ⟨_, _, _, _, _, _⟩) (v := .agg #[.string x, .slice a n c]) rfl (by kernel_rfl) (by kernel_rfl) (by kernel_rfl) (fun _ _ _ h => h) (Or.inl ⟨by with_unfolding_all rfl, fun w' hSw => ?_⟩) hHeld ?_
    · obtain ⟨s0, s1⟩ := hSw
      go_simp
    try simp only [Act.put, List.setIfInBounds_toArray, List.set_cons_zero, List.set_cons_succ]
    refine wpAnyH_ready (rs := [5]) (by kernel_rfl) (by simp) (AllReadyH.cons (o := ⟨_, _, _, _, _, _⟩) rfl (fun K hK => ?_) AllReadyH.nil)
    rewrite [if_pos (by with_unfolding_all rfl)]
    go_simp
    refine (hSg wd hate).mono ?_
    rintro r we ⟨rfl, hBe⟩
    have HSf := KpSp.call HSe hBe
    have hatf := hate.below hBe
    go_wp2_with fail
    refine hK.out _ _ (KpSp.cell HSf) (fun hHeld => ?_)
    clear hK K
    try simp only [Act.put, List.setIfInBounds_toArray, List.set_cons_zero, List.set_cons_succ]
    refine wpAnyH_take (i := 6) (oi := ⟨_, _, _, _, _, _⟩) (v := .bool lb) rfl (by kernel_rfl) (by kernel_rfl) (by kernel_rfl) (fun _ _ _ h => h) (Or.inl ⟨wanted_free rfl, fun w' hSw => ?_⟩) hHeld ?_
    · go_simp
    try simp only [Act.put, List.setIfInBounds_toArray, List.set_cons_zero, List.set_cons_succ]
    refine wpAnyH_ready (rs := [7]) (by kernel_rfl) (by simp) (AllReadyH.cons (o := ⟨_, _, _, _, _, _⟩) rfl (fun K hK => ?_) AllReadyH.nil)
    rewrite [if_pos (wanted_free rfl)]
    with_reducible refine wp_storeV 59 (.tmp 2) (.tmp 39) (by with_unfolding_all rfl) w.heap.size (sgv ⟨#[]⟩ none 0 0) (sgv x a n c) (by with_unfolding_all rfl) (by with_unfolding_all rfl) (KpSp.r2H HSf) 2 Try.sizeSd (by with_unfolding_all rfl) (by with_unfolding_all rfl) (sgv_one _ _ _ _) ?_
    intro wf hAf hOf
    have BF : Below w.heap.size w wf := (B04.trans HSf.out.bel).trans (hOf.bel (Nat.le_refl _))
    have SF := KpSp.sgf HSf hatf hOf z1 z2
    have CF := KpSp.cf HSf hOf z1 z2
    have AF := hidP (KpSp.ab HSf z1 z2)
    refine hK.out _ _ CF (fun hHeld => ?_)
    clear hK K
    try simp only [Act.put]
    refine wpAnyH_ready (rs := [8]) (by kernel_rfl) (by simp) (AllReadyH.cons (o := ⟨_, _, _, _, _, _⟩) rfl (fun K hK => ?_) AllReadyH.nil)
    rewrite [if_pos (wanted_free rfl)]
    go_simp
    refine hK.out _ _ hHeld (fun _ => ?_)
    clear hK K
    try simp only [Act.put, List.setIfInBounds_toArray, List.set_cons_zero, List.set_cons_succ]
    refine wpAnyH_done (by kernel_rfl) ?_ _
    go_wp2
    exact bodyPost_ret (results_VB (t := 59) rfl _ w.heap.size (sgv x a n c) rfl hAf Try.undSd 2 Try.sizeSd rfl _ rfl) rfl ⟨x, l, a, n, c, lb, rfl, HNn.out, SF, AF.out, hn16, HAn.out, BF⟩
end Go.Proofs.Ytnlalnkoggkdfaa
