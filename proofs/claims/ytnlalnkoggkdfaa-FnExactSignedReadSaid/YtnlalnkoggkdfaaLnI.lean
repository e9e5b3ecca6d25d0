/- The program's reader of a link. -/
import Derived.Test.YtnlalnkoggkdfaaKpM
import Derived.Test.YtnlalnkoggkdfaaMetI
namespace Go.Proofs.Ytnlalnkoggkdfaa
open Go.RowKit
set_option linter.unusedVariables false

theorem i64n {n : Nat} (h : n ≤ 9223372036854775807) : I64 (n : Int) := by
  unfold I64
  simp [Lit.wf, IntKind.min, IntKind.max, IntKind.signed, IntKind.bits]
  omega
def numO (t : ByteArray) (p : Nat) : Option (Int × Nat) := if (getN t p).code = 0 then some ((getN t p).n, (getN t p).behind.toNat) else none
theorem numO_some {t : ByteArray} {p b : Nat} {n : Int} (h : numO t p = some (n, b)) : getN t p = ⟨n, b, 0⟩ ∧ b ≤ t.size ∧ t.size ≤ 20000 := by
  unfold numO at h
  rcases getN_ways t p with ⟨c, hc, hg⟩ | ⟨m, d, hg, h1, h2⟩
  · rw [hg, if_neg hc] at h; cases h
  · rw [hg, if_pos rfl] at h
    have := Option.some.inj h
    injection this with e1 e2
    simp at e1 e2
    subst e1 e2
    exact ⟨hg, h1, h2⟩
theorem numO_none {t : ByteArray} {p : Nat} (h : numO t p = none) : ∃ c, c ≠ 0 ∧ getN t p = ⟨0, 0, c⟩ := by
  unfold numO at h
  rcases getN_ways t p with ⟨c, hc, hg⟩ | ⟨m, d, hg, h1, h2⟩
  · exact ⟨c, hc, hg⟩
  · rw [hg, if_pos rfl] at h; cases h
theorem numYes (g p b : Nat) (t : ByteArray) (n : Int) (w : World) (hs : t.size ≤ maxLen) (hn : numO t p = some (n, b) ∧ p ≤ t.size) (h : RowV w g (cuv t p)) :
    Calls Try.prog 132 #[.pointer (some ⟨g, 0, none⟩)] w fun e w' => e = .returned (.int .i64 n) ∧ RowV w' g (cuv t b) ∧ Only g w w' :=
  numberYes g b t p n w (i64n (by unfold maxLen at hs; omega)) hs (numO_some hn.1).1 h
theorem numNo (g p : Nat) (t : ByteArray) (w : World) (hs : t.size ≤ maxLen) (hn : numO t p = none) (hp : p ≤ t.size) (h : RowV w g (cuv t p)) :
    Calls Try.prog 132 #[.pointer (some ⟨g, 0, none⟩)] w fun e w' => e = .panicked [{ v := faultV, recovered := false }] ∧ Only g w w' := by
  obtain ⟨c, hc, hg⟩ := numO_none hn
  exact numberNo g t p c w (i64n (by unfold maxLen at hs; omega)) hs hc hg h
theorem Try.infoLkz : (Try.prog.info? 49).map (fun i => i.zero) = some (some (.agg (lkv 0 0 0).toArray)) := by kernel_rfl
theorem Try.undLkI : ∃ d, Try.prog.underlying 49 = some d ∧ d.isRow = true := ⟨_, Try.underlying49, rfl⟩
theorem Try.sizeLkI : (Try.prog.info? 49).map (·.size) = some 3 := by kernel_rfl
theorem lkv_one (v e x : Int) : ∀ y ∈ lkv v e x, y.oneCell' = true := by
  intro y hy
  simp [lkv] at hy
  rcases hy with h | h | h <;> (rw [h]; rfl)
theorem KpM.apartN {g b : Nat} {r l : List Value} {w w' : World} (h : Hid (KpM g r [(b, l)] w w')) : b < w'.heap.size := (h.out.own _ (List.mem_cons_self ..)).2.2.lt (h.out.own _ (List.mem_cons_self ..)).2.1
theorem one_apart {b c : Nat} {l : List Value} (h : b < c) : ∀ x ∈ [(b, l)], x.1 ≠ c := fun x hx => by
  obtain rfl := List.mem_singleton.1 hx
  exact Nat.ne_of_lt h
/- The last store goes into the call's own variable: what a caller knows. -/
theorem KpM.putOf {g b : Nat} {r l l' : List Value} {rows : List (Nat × List Value)} {w w' w2 : World} (h : Hid (KpM g r ((b, l) :: rows) w w')) (hr : RowV w2 b l') (hn : l' ≠ []) (ho : Only b w' w2) : RowV w2 g r ∧ Only g w w2 := by
  have h1 := h.out.own (b, l) (List.mem_cons_self ..)
  have hb : w.heap.size ≤ b := h1.1
  have hg := h.out.lt
  refine ⟨ho.row h.out.row h.out.ne (by omega), ⟨h.out.only.below.trans (ho.below.mono (by omega)), fun x hx hl => ?_, Nat.le_trans h.out.only.size ho.size⟩⟩
  have h2 := h.out.only.blk x hx hl
  have h3 := ho.blk x (by omega) (Nat.lt_of_lt_of_le hl h.out.only.size)
  exact h3.trans h2
set_option maxRecDepth 100000 in
set_option maxHeartbeats 2000000 in
theorem lnN0 (g p : Nat) (t : ByteArray) (w : World) (hs : t.size ≤ maxLen) (hn1 : numO t p = none) (hp1 : p ≤ t.size) (h : RowV w g (cuv t p)) :
    Calls Try.prog 105 #[.pointer (some ⟨g, 0, none⟩)] w fun r w' => r = .panicked [{ v := faultV, recovered := false }] ∧ Only g w w' := by
  have HR : Hid (RowV w g (cuv t p)) := h
  clear h
  go_enter Try.func105, Try.ntmps105
  go_wp2_with (first
    | (with_reducible refine wpList_allocV (w := w) (by with_unfolding_all rfl) 49 (by with_unfolding_all rfl) (lkv 0 0 0) Try.infoLkz ?_; intro wv hAv hBv hSv; have HKv := KpM.new (KpM.start HR.out (cuv_ne _ _)) hAv (lkv_ne _ _ _) hBv; clear hSv hAv hBv))
  refine wp_region_held_drew (S := fun _ => True) (by kernel_rfl) trivial (fun _ => ?_)
  refine wpAnyH_take (i := 0) (oi := ⟨_, _, _, _, _, _⟩) (v := .pointer (some ⟨g, 0, none⟩)) rfl (by kernel_rfl) (by kernel_rfl) (by kernel_rfl) (fun _ _ _ h => h) (Or.inl ⟨wanted_free rfl, fun w' hSw => ?_⟩) trivial ?_
  · go_simp
  try simp only [Act.put, List.setIfInBounds_toArray, List.set_cons_zero, List.set_cons_succ]
  refine wpAnyH_take (i := 1) (oi := ⟨_, _, _, _, _, _⟩) (v := .pointer (some ⟨g, 0, none⟩)) rfl (by kernel_rfl) (by kernel_rfl) (by kernel_rfl) (fun _ _ _ h => h) (Or.inl ⟨wanted_free rfl, fun w' hSw => ?_⟩) trivial ?_
  · go_simp
  try simp only [Act.put, List.setIfInBounds_toArray, List.set_cons_zero, List.set_cons_succ]
  refine wpAnyH_take (i := 2) (oi := ⟨_, _, _, _, _, _⟩) (v := .pointer (some ⟨g, 0, none⟩)) rfl (by kernel_rfl) (by kernel_rfl) (by kernel_rfl) (fun _ _ _ h => h) (Or.inl ⟨wanted_free rfl, fun w' hSw => ?_⟩) trivial ?_
  · go_simp
  try simp only [Act.put, List.setIfInBounds_toArray, List.set_cons_zero, List.set_cons_succ]
  refine wpAnyH_take (i := 4) (oi := ⟨_, _, _, _, _, _⟩) (v := .pointer (some ⟨g, 0, none⟩)) rfl (by kernel_rfl) (by kernel_rfl) (by kernel_rfl) (fun _ _ _ h => h) (Or.inl ⟨wanted_free rfl, fun w' hSw => ?_⟩) trivial ?_
  · go_simp
  try simp only [Act.put, List.setIfInBounds_toArray, List.set_cons_zero, List.set_cons_succ]
  refine wpAnyH_take (i := 5) (oi := ⟨_, _, _, _, _, _⟩) (v := .pointer (some ⟨g, 0, none⟩)) rfl (by kernel_rfl) (by kernel_rfl) (by kernel_rfl) (fun _ _ _ h => h) (Or.inl ⟨wanted_free rfl, fun w' hSw => ?_⟩) trivial ?_
  · go_simp
  try simp only [Act.put, List.setIfInBounds_toArray, List.set_cons_zero, List.set_cons_succ]
  refine wpAnyH_take (i := 6) (oi := ⟨_, _, _, _, _, _⟩) (v := .pointer (some ⟨g, 0, none⟩)) rfl (by kernel_rfl) (by kernel_rfl) (by kernel_rfl) (fun _ _ _ h => h) (Or.inl ⟨wanted_free rfl, fun w' hSw => ?_⟩) trivial ?_
  · go_simp
  try simp only [Act.put, List.setIfInBounds_toArray, List.set_cons_zero, List.set_cons_succ]
  refine wpAnyH_take (i := 8) (oi := ⟨_, _, _, _, _, _⟩) (v := .pointer (some ⟨g, 0, none⟩)) rfl (by kernel_rfl) (by kernel_rfl) (by kernel_rfl) (fun _ _ _ h => h) (Or.inl ⟨wanted_free rfl, fun w' hSw => ?_⟩) trivial ?_
  · go_simp
  try simp only [Act.put, List.setIfInBounds_toArray, List.set_cons_zero, List.set_cons_succ]
  refine wpAnyH_take (i := 9) (oi := ⟨_, _, _, _, _, _⟩) (v := .pointer (some ⟨g, 0, none⟩)) rfl (by kernel_rfl) (by kernel_rfl) (by kernel_rfl) (fun _ _ _ h => h) (Or.inl ⟨wanted_free rfl, fun w' hSw => ?_⟩) trivial ?_
  · go_simp
  try simp only [Act.put, List.setIfInBounds_toArray, List.set_cons_zero, List.set_cons_succ]
  refine wpAnyH_take (i := 10) (oi := ⟨_, _, _, _, _, _⟩) (v := .pointer (some ⟨g, 0, none⟩)) rfl (by kernel_rfl) (by kernel_rfl) (by kernel_rfl) (fun _ _ _ h => h) (Or.inl ⟨wanted_free rfl, fun w' hSw => ?_⟩) trivial ?_
  · go_simp
  try simp only [Act.put, List.setIfInBounds_toArray, List.set_cons_zero, List.set_cons_succ]
  have HKW := KpM.drew HKv
  generalize wv.drew = W at *
  refine wpAnyH_ready (rs := [3, 13]) (by kernel_rfl) (by simp) (AllReadyH.cons (o := ⟨_, _, _, _, _, _⟩) rfl (fun K hK => ?_) (AllReadyH.cons (o := ⟨_, _, _, _, _, _⟩) rfl (fun K hK => ?_) AllReadyH.nil))
  · as_aux_lemma =>
    rewrite [if_pos (wanted_free rfl)]
    go_simp
    refine (numNo g p t W hs hn1 hp1 (KpM.rowH HKW)).mono ?_
    rintro e Wc ⟨rfl, hOWc⟩
    exact ⟨rfl, rfl, HKW.out.only.trans hOWc⟩
  · as_aux_lemma =>
    rewrite [if_pos (wanted_free rfl)]
    with_reducible refine wp_allocV 49 (by with_unfolding_all rfl) (lkv 0 0 0) Try.infoLkz ?_
    intro Wa hAWa hBWa
    have HKWa := KpM.new HKW hAWa (lkv_ne _ _ _) hBWa
    refine hK.out _ _ trivial (fun _ => ?_)
    clear hK K
    try simp only [Act.put, List.setIfInBounds_toArray, List.set_cons_zero, List.set_cons_succ]
    refine wpAnyH_ready (rs := [3]) (by kernel_rfl) (by simp) (AllReadyH.cons (o := ⟨_, _, _, _, _, _⟩) rfl (fun K hK => ?_) AllReadyH.nil)
    rewrite [if_pos (wanted_free rfl)]
    go_simp
    refine (numNo g p t Wa hs hn1 hp1 (KpM.rowH HKWa)).mono ?_
    rintro e Wac ⟨rfl, hOWac⟩
    exact ⟨rfl, rfl, HKWa.out.only.trans hOWac⟩
set_option maxRecDepth 100000 in
set_option maxHeartbeats 2000000 in
theorem lnN1 (g p b1 : Nat) (t : ByteArray) (v : Int) (w : World) (hs : t.size ≤ maxLen) (hn1 : numO t p = some (v, b1) ∧ p ≤ t.size) (hn2 : numO t b1 = none) (hp2 : b1 ≤ t.size) (h : RowV w g (cuv t p)) :
    Calls Try.prog 105 #[.pointer (some ⟨g, 0, none⟩)] w fun r w' => r = .panicked [{ v := faultV, recovered := false }] ∧ Only g w w' := by
  have HR : Hid (RowV w g (cuv t p)) := h
  clear h
  go_enter Try.func105, Try.ntmps105
  go_wp2_with (first
    | (with_reducible refine wpList_allocV (w := w) (by with_unfolding_all rfl) 49 (by with_unfolding_all rfl) (lkv 0 0 0) Try.infoLkz ?_; intro wv hAv hBv hSv; have HKv := KpM.new (KpM.start HR.out (cuv_ne _ _)) hAv (lkv_ne _ _ _) hBv; clear hSv hAv hBv))
  refine wp_region_held_drew (S := fun _ => True) (by kernel_rfl) trivial (fun _ => ?_)
  refine wpAnyH_take (i := 0) (oi := ⟨_, _, _, _, _, _⟩) (v := .pointer (some ⟨g, 0, none⟩)) rfl (by kernel_rfl) (by kernel_rfl) (by kernel_rfl) (fun _ _ _ h => h) (Or.inl ⟨wanted_free rfl, fun w' hSw => ?_⟩) trivial ?_
  · go_simp
  try simp only [Act.put, List.setIfInBounds_toArray, List.set_cons_zero, List.set_cons_succ]
  refine wpAnyH_take (i := 1) (oi := ⟨_, _, _, _, _, _⟩) (v := .pointer (some ⟨g, 0, none⟩)) rfl (by kernel_rfl) (by kernel_rfl) (by kernel_rfl) (fun _ _ _ h => h) (Or.inl ⟨wanted_free rfl, fun w' hSw => ?_⟩) trivial ?_
  · go_simp
  try simp only [Act.put, List.setIfInBounds_toArray, List.set_cons_zero, List.set_cons_succ]
  refine wpAnyH_take (i := 2) (oi := ⟨_, _, _, _, _, _⟩) (v := .pointer (some ⟨g, 0, none⟩)) rfl (by kernel_rfl) (by kernel_rfl) (by kernel_rfl) (fun _ _ _ h => h) (Or.inl ⟨wanted_free rfl, fun w' hSw => ?_⟩) trivial ?_
  · go_simp
  try simp only [Act.put, List.setIfInBounds_toArray, List.set_cons_zero, List.set_cons_succ]
  refine wpAnyH_take (i := 4) (oi := ⟨_, _, _, _, _, _⟩) (v := .pointer (some ⟨g, 0, none⟩)) rfl (by kernel_rfl) (by kernel_rfl) (by kernel_rfl) (fun _ _ _ h => h) (Or.inl ⟨wanted_free rfl, fun w' hSw => ?_⟩) trivial ?_
  · go_simp
  try simp only [Act.put, List.setIfInBounds_toArray, List.set_cons_zero, List.set_cons_succ]
  refine wpAnyH_take (i := 5) (oi := ⟨_, _, _, _, _, _⟩) (v := .pointer (some ⟨g, 0, none⟩)) rfl (by kernel_rfl) (by kernel_rfl) (by kernel_rfl) (fun _ _ _ h => h) (Or.inl ⟨wanted_free rfl, fun w' hSw => ?_⟩) trivial ?_
  · go_simp
  try simp only [Act.put, List.setIfInBounds_toArray, List.set_cons_zero, List.set_cons_succ]
  refine wpAnyH_take (i := 6) (oi := ⟨_, _, _, _, _, _⟩) (v := .pointer (some ⟨g, 0, none⟩)) rfl (by kernel_rfl) (by kernel_rfl) (by kernel_rfl) (fun _ _ _ h => h) (Or.inl ⟨wanted_free rfl, fun w' hSw => ?_⟩) trivial ?_
  · go_simp
  try simp only [Act.put, List.setIfInBounds_toArray, List.set_cons_zero, List.set_cons_succ]
  refine wpAnyH_take (i := 8) (oi := ⟨_, _, _, _, _, _⟩) (v := .pointer (some ⟨g, 0, none⟩)) rfl (by kernel_rfl) (by kernel_rfl) (by kernel_rfl) (fun _ _ _ h => h) (Or.inl ⟨wanted_free rfl, fun w' hSw => ?_⟩) trivial ?_
  · go_simp
  try simp only [Act.put, List.setIfInBounds_toArray, List.set_cons_zero, List.set_cons_succ]
  refine wpAnyH_take (i := 9) (oi := ⟨_, _, _, _, _, _⟩) (v := .pointer (some ⟨g, 0, none⟩)) rfl (by kernel_rfl) (by kernel_rfl) (by kernel_rfl) (fun _ _ _ h => h) (Or.inl ⟨wanted_free rfl, fun w' hSw => ?_⟩) trivial ?_
  · go_simp
  try simp only [Act.put, List.setIfInBounds_toArray, List.set_cons_zero, List.set_cons_succ]
  refine wpAnyH_take (i := 10) (oi := ⟨_, _, _, _, _, _⟩) (v := .pointer (some ⟨g, 0, none⟩)) rfl (by kernel_rfl) (by kernel_rfl) (by kernel_rfl) (fun _ _ _ h => h) (Or.inl ⟨wanted_free rfl, fun w' hSw => ?_⟩) trivial ?_
  · go_simp
  try simp only [Act.put, List.setIfInBounds_toArray, List.set_cons_zero, List.set_cons_succ]
  have HKW := KpM.drew HKv
  generalize wv.drew = W at *
  refine wpAnyH_ready (rs := [3, 13]) (by kernel_rfl) (by simp) (AllReadyH.cons (o := ⟨_, _, _, _, _, _⟩) rfl (fun K hK => ?_) (AllReadyH.cons (o := ⟨_, _, _, _, _, _⟩) rfl (fun K hK => ?_) AllReadyH.nil))
  · as_aux_lemma =>
    rewrite [if_pos (wanted_free rfl)]
    go_simp
    refine (numYes g p b1 t v W hs hn1 (KpM.rowH HKW)).mono ?_
    rintro e Wc ⟨rfl, hRWc, hOWc⟩
    have HKWc := KpM.read HKW hRWc (cuv_ne _ _) hOWc
    go_wp2_with fail
    refine hK.out _ _ trivial (fun _ => ?_)
    clear hK K
    try simp only [Act.put, List.setIfInBounds_toArray, List.set_cons_zero, List.set_cons_succ]
    refine wpAnyH_ready (rs := [7, 13]) (by kernel_rfl) (by simp) (AllReadyH.cons (o := ⟨_, _, _, _, _, _⟩) rfl (fun K hK => ?_) (AllReadyH.cons (o := ⟨_, _, _, _, _, _⟩) rfl (fun K hK => ?_) AllReadyH.nil))
    · as_aux_lemma =>
      rewrite [if_pos (wanted_free rfl)]
      go_simp
      refine (numNo g b1 t Wc hs hn2 hp2 (KpM.rowH HKWc)).mono ?_
      rintro e Wcc ⟨rfl, hOWcc⟩
      exact ⟨rfl, rfl, HKWc.out.only.trans hOWcc⟩
    · as_aux_lemma =>
      rewrite [if_pos (wanted_free rfl)]
      with_reducible refine wp_allocV 49 (by with_unfolding_all rfl) (lkv 0 0 0) Try.infoLkz ?_
      intro Wca hAWca hBWca
      have HKWca := KpM.new HKWc hAWca (lkv_ne _ _ _) hBWca
      skip
      refine hK.out _ _ trivial (fun _ => ?_)
      clear hK K
      try simp only [Act.put, List.setIfInBounds_toArray, List.set_cons_zero, List.set_cons_succ]
      refine wpAnyH_ready (rs := [7]) (by kernel_rfl) (by simp) (AllReadyH.cons (o := ⟨_, _, _, _, _, _⟩) rfl (fun K hK => ?_) AllReadyH.nil)
      rewrite [if_pos (wanted_free rfl)]
      go_simp
      refine (numNo g b1 t Wca hs hn2 hp2 (KpM.rowH HKWca)).mono ?_
      rintro e Wcac ⟨rfl, hOWcac⟩
      exact ⟨rfl, rfl, HKWca.out.only.trans hOWcac⟩
  · as_aux_lemma =>
    rewrite [if_pos (wanted_free rfl)]
    with_reducible refine wp_allocV 49 (by with_unfolding_all rfl) (lkv 0 0 0) Try.infoLkz ?_
    intro Wa hAWa hBWa
    have HKWa := KpM.new HKW hAWa (lkv_ne _ _ _) hBWa
    refine hK.out _ _ trivial (fun _ => ?_)
    clear hK K
    try simp only [Act.put, List.setIfInBounds_toArray, List.set_cons_zero, List.set_cons_succ]
    refine wpAnyH_ready (rs := [3]) (by kernel_rfl) (by simp) (AllReadyH.cons (o := ⟨_, _, _, _, _, _⟩) rfl (fun K hK => ?_) AllReadyH.nil)
    rewrite [if_pos (wanted_free rfl)]
    go_simp
    refine (numYes g p b1 t v Wa hs hn1 (KpM.rowH HKWa)).mono ?_
    rintro e Wac ⟨rfl, hRWac, hOWac⟩
    have HKWac := KpM.read HKWa hRWac (cuv_ne _ _) hOWac
    go_wp2_with fail
    refine hK.out _ _ trivial (fun _ => ?_)
    clear hK K
    try simp only [Act.put, List.setIfInBounds_toArray, List.set_cons_zero, List.set_cons_succ]
    refine wpAnyH_ready (rs := [7]) (by kernel_rfl) (by simp) (AllReadyH.cons (o := ⟨_, _, _, _, _, _⟩) rfl (fun K hK => ?_) AllReadyH.nil)
    rewrite [if_pos (wanted_free rfl)]
    go_simp
    refine (numNo g b1 t Wac hs hn2 hp2 (KpM.rowH HKWac)).mono ?_
    rintro e Wacc ⟨rfl, hOWacc⟩
    exact ⟨rfl, rfl, HKWac.out.only.trans hOWacc⟩
set_option maxRecDepth 100000 in
set_option maxHeartbeats 2000000 in
theorem lnN2 (g p b1 b2 : Nat) (t : ByteArray) (v e : Int) (w : World) (hs : t.size ≤ maxLen) (hn1 : numO t p = some (v, b1) ∧ p ≤ t.size) (hn2 : numO t b1 = some (e, b2) ∧ b1 ≤ t.size) (hn3 : numO t b2 = none) (hp3 : b2 ≤ t.size) (h : RowV w g (cuv t p)) :
    Calls Try.prog 105 #[.pointer (some ⟨g, 0, none⟩)] w fun r w' => r = .panicked [{ v := faultV, recovered := false }] ∧ Only g w w' := by
  have HR : Hid (RowV w g (cuv t p)) := h
  clear h
  go_enter Try.func105, Try.ntmps105
  go_wp2_with (first
    | (with_reducible refine wpList_allocV (w := w) (by with_unfolding_all rfl) 49 (by with_unfolding_all rfl) (lkv 0 0 0) Try.infoLkz ?_; intro wv hAv hBv hSv; have HKv := KpM.new (KpM.start HR.out (cuv_ne _ _)) hAv (lkv_ne _ _ _) hBv; clear hSv hAv hBv))
  refine wp_region_held_drew (S := fun _ => True) (by kernel_rfl) trivial (fun _ => ?_)
  refine wpAnyH_take (i := 0) (oi := ⟨_, _, _, _, _, _⟩) (v := .pointer (some ⟨g, 0, none⟩)) rfl (by kernel_rfl) (by kernel_rfl) (by kernel_rfl) (fun _ _ _ h => h) (Or.inl ⟨wanted_free rfl, fun w' hSw => ?_⟩) trivial ?_
  · go_simp
  try simp only [Act.put, List.setIfInBounds_toArray, List.set_cons_zero, List.set_cons_succ]
  refine wpAnyH_take (i := 1) (oi := ⟨_, _, _, _, _, _⟩) (v := .pointer (some ⟨g, 0, none⟩)) rfl (by kernel_rfl) (by kernel_rfl) (by kernel_rfl) (fun _ _ _ h => h) (Or.inl ⟨wanted_free rfl, fun w' hSw => ?_⟩) trivial ?_
  · go_simp
  try simp only [Act.put, List.setIfInBounds_toArray, List.set_cons_zero, List.set_cons_succ]
  refine wpAnyH_take (i := 2) (oi := ⟨_, _, _, _, _, _⟩) (v := .pointer (some ⟨g, 0, none⟩)) rfl (by kernel_rfl) (by kernel_rfl) (by kernel_rfl) (fun _ _ _ h => h) (Or.inl ⟨wanted_free rfl, fun w' hSw => ?_⟩) trivial ?_
  · go_simp
  try simp only [Act.put, List.setIfInBounds_toArray, List.set_cons_zero, List.set_cons_succ]
  refine wpAnyH_take (i := 4) (oi := ⟨_, _, _, _, _, _⟩) (v := .pointer (some ⟨g, 0, none⟩)) rfl (by kernel_rfl) (by kernel_rfl) (by kernel_rfl) (fun _ _ _ h => h) (Or.inl ⟨wanted_free rfl, fun w' hSw => ?_⟩) trivial ?_
  · go_simp
  try simp only [Act.put, List.setIfInBounds_toArray, List.set_cons_zero, List.set_cons_succ]
  refine wpAnyH_take (i := 5) (oi := ⟨_, _, _, _, _, _⟩) (v := .pointer (some ⟨g, 0, none⟩)) rfl (by kernel_rfl) (by kernel_rfl) (by kernel_rfl) (fun _ _ _ h => h) (Or.inl ⟨wanted_free rfl, fun w' hSw => ?_⟩) trivial ?_
  · go_simp
  try simp only [Act.put, List.setIfInBounds_toArray, List.set_cons_zero, List.set_cons_succ]
  refine wpAnyH_take (i := 6) (oi := ⟨_, _, _, _, _, _⟩) (v := .pointer (some ⟨g, 0, none⟩)) rfl (by kernel_rfl) (by kernel_rfl) (by kernel_rfl) (fun _ _ _ h => h) (Or.inl ⟨wanted_free rfl, fun w' hSw => ?_⟩) trivial ?_
  · go_simp
  try simp only [Act.put, List.setIfInBounds_toArray, List.set_cons_zero, List.set_cons_succ]
  refine wpAnyH_take (i := 8) (oi := ⟨_, _, _, _, _, _⟩) (v := .pointer (some ⟨g, 0, none⟩)) rfl (by kernel_rfl) (by kernel_rfl) (by kernel_rfl) (fun _ _ _ h => h) (Or.inl ⟨wanted_free rfl, fun w' hSw => ?_⟩) trivial ?_
  · go_simp
  try simp only [Act.put, List.setIfInBounds_toArray, List.set_cons_zero, List.set_cons_succ]
  refine wpAnyH_take (i := 9) (oi := ⟨_, _, _, _, _, _⟩) (v := .pointer (some ⟨g, 0, none⟩)) rfl (by kernel_rfl) (by kernel_rfl) (by kernel_rfl) (fun _ _ _ h => h) (Or.inl ⟨wanted_free rfl, fun w' hSw => ?_⟩) trivial ?_
  · go_simp
  try simp only [Act.put, List.setIfInBounds_toArray, List.set_cons_zero, List.set_cons_succ]
  refine wpAnyH_take (i := 10) (oi := ⟨_, _, _, _, _, _⟩) (v := .pointer (some ⟨g, 0, none⟩)) rfl (by kernel_rfl) (by kernel_rfl) (by kernel_rfl) (fun _ _ _ h => h) (Or.inl ⟨wanted_free rfl, fun w' hSw => ?_⟩) trivial ?_
  · go_simp
  try simp only [Act.put, List.setIfInBounds_toArray, List.set_cons_zero, List.set_cons_succ]
  have HKW := KpM.drew HKv
  generalize wv.drew = W at *
  refine wpAnyH_ready (rs := [3, 13]) (by kernel_rfl) (by simp) (AllReadyH.cons (o := ⟨_, _, _, _, _, _⟩) rfl (fun K hK => ?_) (AllReadyH.cons (o := ⟨_, _, _, _, _, _⟩) rfl (fun K hK => ?_) AllReadyH.nil))
  · as_aux_lemma =>
    rewrite [if_pos (wanted_free rfl)]
    go_simp
    refine (numYes g p b1 t v W hs hn1 (KpM.rowH HKW)).mono ?_
    rintro e Wc ⟨rfl, hRWc, hOWc⟩
    have HKWc := KpM.read HKW hRWc (cuv_ne _ _) hOWc
    go_wp2_with fail
    refine hK.out _ _ trivial (fun _ => ?_)
    clear hK K
    try simp only [Act.put, List.setIfInBounds_toArray, List.set_cons_zero, List.set_cons_succ]
    refine wpAnyH_ready (rs := [7, 13]) (by kernel_rfl) (by simp) (AllReadyH.cons (o := ⟨_, _, _, _, _, _⟩) rfl (fun K hK => ?_) (AllReadyH.cons (o := ⟨_, _, _, _, _, _⟩) rfl (fun K hK => ?_) AllReadyH.nil))
    · as_aux_lemma =>
      rewrite [if_pos (wanted_free rfl)]
      go_simp
      refine (numYes g b1 b2 t e Wc hs hn2 (KpM.rowH HKWc)).mono ?_
      rintro e Wcc ⟨rfl, hRWcc, hOWcc⟩
      have HKWcc := KpM.read HKWc hRWcc (cuv_ne _ _) hOWcc
      go_wp2_with fail
      refine hK.out _ _ trivial (fun _ => ?_)
      clear hK K
      try simp only [Act.put, List.setIfInBounds_toArray, List.set_cons_zero, List.set_cons_succ]
      refine wpAnyH_ready (rs := [11, 13]) (by kernel_rfl) (by simp) (AllReadyH.cons (o := ⟨_, _, _, _, _, _⟩) rfl (fun K hK => ?_) (AllReadyH.cons (o := ⟨_, _, _, _, _, _⟩) rfl (fun K hK => ?_) AllReadyH.nil))
      · as_aux_lemma =>
        rewrite [if_pos (wanted_free rfl)]
        go_simp
        refine (numNo g b2 t Wcc hs hn3 hp3 (KpM.rowH HKWcc)).mono ?_
        rintro e Wccc ⟨rfl, hOWccc⟩
        exact ⟨rfl, rfl, HKWcc.out.only.trans hOWccc⟩
      · as_aux_lemma =>
        rewrite [if_pos (wanted_free rfl)]
        with_reducible refine wp_allocV 49 (by with_unfolding_all rfl) (lkv 0 0 0) Try.infoLkz ?_
        intro Wcca hAWcca hBWcca
        have HKWcca := KpM.new HKWcc hAWcca (lkv_ne _ _ _) hBWcca
        skip
        refine hK.out _ _ trivial (fun _ => ?_)
        clear hK K
        try simp only [Act.put, List.setIfInBounds_toArray, List.set_cons_zero, List.set_cons_succ]
        refine wpAnyH_ready (rs := [11]) (by kernel_rfl) (by simp) (AllReadyH.cons (o := ⟨_, _, _, _, _, _⟩) rfl (fun K hK => ?_) AllReadyH.nil)
        rewrite [if_pos (wanted_free rfl)]
        go_simp
        refine (numNo g b2 t Wcca hs hn3 hp3 (KpM.rowH HKWcca)).mono ?_
        rintro e Wccac ⟨rfl, hOWccac⟩
        exact ⟨rfl, rfl, HKWcca.out.only.trans hOWccac⟩
    · as_aux_lemma =>
      rewrite [if_pos (wanted_free rfl)]
      with_reducible refine wp_allocV 49 (by with_unfolding_all rfl) (lkv 0 0 0) Try.infoLkz ?_
      intro Wca hAWca hBWca
      have HKWca := KpM.new HKWc hAWca (lkv_ne _ _ _) hBWca
      skip
      refine hK.out _ _ trivial (fun _ => ?_)
      clear hK K
      try simp only [Act.put, List.setIfInBounds_toArray, List.set_cons_zero, List.set_cons_succ]
      refine wpAnyH_ready (rs := [7]) (by kernel_rfl) (by simp) (AllReadyH.cons (o := ⟨_, _, _, _, _, _⟩) rfl (fun K hK => ?_) AllReadyH.nil)
      rewrite [if_pos (wanted_free rfl)]
      go_simp
      refine (numYes g b1 b2 t e Wca hs hn2 (KpM.rowH HKWca)).mono ?_
      rintro e Wcac ⟨rfl, hRWcac, hOWcac⟩
      have HKWcac := KpM.read HKWca hRWcac (cuv_ne _ _) hOWcac
      go_wp2_with fail
      refine hK.out _ _ trivial (fun _ => ?_)
      clear hK K
      try simp only [Act.put, List.setIfInBounds_toArray, List.set_cons_zero, List.set_cons_succ]
      refine wpAnyH_ready (rs := [11]) (by kernel_rfl) (by simp) (AllReadyH.cons (o := ⟨_, _, _, _, _, _⟩) rfl (fun K hK => ?_) AllReadyH.nil)
      rewrite [if_pos (wanted_free rfl)]
      go_simp
      refine (numNo g b2 t Wcac hs hn3 hp3 (KpM.rowH HKWcac)).mono ?_
      rintro e Wcacc ⟨rfl, hOWcacc⟩
      exact ⟨rfl, rfl, HKWcac.out.only.trans hOWcacc⟩
  · as_aux_lemma =>
    rewrite [if_pos (wanted_free rfl)]
    with_reducible refine wp_allocV 49 (by with_unfolding_all rfl) (lkv 0 0 0) Try.infoLkz ?_
    intro Wa hAWa hBWa
    have HKWa := KpM.new HKW hAWa (lkv_ne _ _ _) hBWa
    refine hK.out _ _ trivial (fun _ => ?_)
    clear hK K
    try simp only [Act.put, List.setIfInBounds_toArray, List.set_cons_zero, List.set_cons_succ]
    refine wpAnyH_ready (rs := [3]) (by kernel_rfl) (by simp) (AllReadyH.cons (o := ⟨_, _, _, _, _, _⟩) rfl (fun K hK => ?_) AllReadyH.nil)
    rewrite [if_pos (wanted_free rfl)]
    go_simp
    refine (numYes g p b1 t v Wa hs hn1 (KpM.rowH HKWa)).mono ?_
    rintro e Wac ⟨rfl, hRWac, hOWac⟩
    have HKWac := KpM.read HKWa hRWac (cuv_ne _ _) hOWac
    go_wp2_with fail
    refine hK.out _ _ trivial (fun _ => ?_)
    clear hK K
    try simp only [Act.put, List.setIfInBounds_toArray, List.set_cons_zero, List.set_cons_succ]
    refine wpAnyH_ready (rs := [7]) (by kernel_rfl) (by simp) (AllReadyH.cons (o := ⟨_, _, _, _, _, _⟩) rfl (fun K hK => ?_) AllReadyH.nil)
    rewrite [if_pos (wanted_free rfl)]
    go_simp
    refine (numYes g b1 b2 t e Wac hs hn2 (KpM.rowH HKWac)).mono ?_
    rintro e Wacc ⟨rfl, hRWacc, hOWacc⟩
    have HKWacc := KpM.read HKWac hRWacc (cuv_ne _ _) hOWacc
    go_wp2_with fail
    refine hK.out _ _ trivial (fun _ => ?_)
    clear hK K
    try simp only [Act.put, List.setIfInBounds_toArray, List.set_cons_zero, List.set_cons_succ]
    refine wpAnyH_ready (rs := [11]) (by kernel_rfl) (by simp) (AllReadyH.cons (o := ⟨_, _, _, _, _, _⟩) rfl (fun K hK => ?_) AllReadyH.nil)
    rewrite [if_pos (wanted_free rfl)]
    go_simp
    refine (numNo g b2 t Wacc hs hn3 hp3 (KpM.rowH HKWacc)).mono ?_
    rintro e Waccc ⟨rfl, hOWaccc⟩
    exact ⟨rfl, rfl, HKWacc.out.only.trans hOWaccc⟩
set_option maxRecDepth 100000 in
set_option maxHeartbeats 2000000 in
theorem lnN3 (g p b1 b2 b3 : Nat) (t : ByteArray) (v e x : Int) (w : World) (hs : t.size ≤ maxLen) (hn1 : numO t p = some (v, b1) ∧ p ≤ t.size) (hn2 : numO t b1 = some (e, b2) ∧ b1 ≤ t.size) (hn3 : numO t b2 = some (x, b3) ∧ b2 ≤ t.size) (hL : ∀ w0, Calls Try.prog 78 #[.agg #[.int .i64 v, .int .i64 e, .int .i64 x]] w0 fun r w' => r = .returned (.bool false) ∧ Below w0.heap.size w0 w') (h : RowV w g (cuv t p)) :
    Calls Try.prog 105 #[.pointer (some ⟨g, 0, none⟩)] w fun r w' => r = .panicked [{ v := faultV, recovered := false }] ∧ Only g w w' := by
  have HR : Hid (RowV w g (cuv t p)) := h
  clear h
  go_enter Try.func105, Try.ntmps105
  go_wp2_with (first
    | (with_reducible refine wpList_allocV (w := w) (by with_unfolding_all rfl) 49 (by with_unfolding_all rfl) (lkv 0 0 0) Try.infoLkz ?_; intro wv hAv hBv hSv; have HKv := KpM.new (KpM.start HR.out (cuv_ne _ _)) hAv (lkv_ne _ _ _) hBv; clear hSv hAv hBv))
  refine wp_region_held_drew (S := fun _ => True) (by kernel_rfl) trivial (fun _ => ?_)
  refine wpAnyH_take (i := 0) (oi := ⟨_, _, _, _, _, _⟩) (v := .pointer (some ⟨g, 0, none⟩)) rfl (by kernel_rfl) (by kernel_rfl) (by kernel_rfl) (fun _ _ _ h => h) (Or.inl ⟨wanted_free rfl, fun w' hSw => ?_⟩) trivial ?_
  · go_simp
  try simp only [Act.put, List.setIfInBounds_toArray, List.set_cons_zero, List.set_cons_succ]
  refine wpAnyH_take (i := 1) (oi := ⟨_, _, _, _, _, _⟩) (v := .pointer (some ⟨g, 0, none⟩)) rfl (by kernel_rfl) (by kernel_rfl) (by kernel_rfl) (fun _ _ _ h => h) (Or.inl ⟨wanted_free rfl, fun w' hSw => ?_⟩) trivial ?_
  · go_simp
  try simp only [Act.put, List.setIfInBounds_toArray, List.set_cons_zero, List.set_cons_succ]
  refine wpAnyH_take (i := 2) (oi := ⟨_, _, _, _, _, _⟩) (v := .pointer (some ⟨g, 0, none⟩)) rfl (by kernel_rfl) (by kernel_rfl) (by kernel_rfl) (fun _ _ _ h => h) (Or.inl ⟨wanted_free rfl, fun w' hSw => ?_⟩) trivial ?_
  · go_simp
  try simp only [Act.put, List.setIfInBounds_toArray, List.set_cons_zero, List.set_cons_succ]
  refine wpAnyH_take (i := 4) (oi := ⟨_, _, _, _, _, _⟩) (v := .pointer (some ⟨g, 0, none⟩)) rfl (by kernel_rfl) (by kernel_rfl) (by kernel_rfl) (fun _ _ _ h => h) (Or.inl ⟨wanted_free rfl, fun w' hSw => ?_⟩) trivial ?_
  · go_simp
  try simp only [Act.put, List.setIfInBounds_toArray, List.set_cons_zero, List.set_cons_succ]
  refine wpAnyH_take (i := 5) (oi := ⟨_, _, _, _, _, _⟩) (v := .pointer (some ⟨g, 0, none⟩)) rfl (by kernel_rfl) (by kernel_rfl) (by kernel_rfl) (fun _ _ _ h => h) (Or.inl ⟨wanted_free rfl, fun w' hSw => ?_⟩) trivial ?_
  · go_simp
  try simp only [Act.put, List.setIfInBounds_toArray, List.set_cons_zero, List.set_cons_succ]
  refine wpAnyH_take (i := 6) (oi := ⟨_, _, _, _, _, _⟩) (v := .pointer (some ⟨g, 0, none⟩)) rfl (by kernel_rfl) (by kernel_rfl) (by kernel_rfl) (fun _ _ _ h => h) (Or.inl ⟨wanted_free rfl, fun w' hSw => ?_⟩) trivial ?_
  · go_simp
  try simp only [Act.put, List.setIfInBounds_toArray, List.set_cons_zero, List.set_cons_succ]
  refine wpAnyH_take (i := 8) (oi := ⟨_, _, _, _, _, _⟩) (v := .pointer (some ⟨g, 0, none⟩)) rfl (by kernel_rfl) (by kernel_rfl) (by kernel_rfl) (fun _ _ _ h => h) (Or.inl ⟨wanted_free rfl, fun w' hSw => ?_⟩) trivial ?_
  · go_simp
  try simp only [Act.put, List.setIfInBounds_toArray, List.set_cons_zero, List.set_cons_succ]
  refine wpAnyH_take (i := 9) (oi := ⟨_, _, _, _, _, _⟩) (v := .pointer (some ⟨g, 0, none⟩)) rfl (by kernel_rfl) (by kernel_rfl) (by kernel_rfl) (fun _ _ _ h => h) (Or.inl ⟨wanted_free rfl, fun w' hSw => ?_⟩) trivial ?_
  · go_simp
  try simp only [Act.put, List.setIfInBounds_toArray, List.set_cons_zero, List.set_cons_succ]
  refine wpAnyH_take (i := 10) (oi := ⟨_, _, _, _, _, _⟩) (v := .pointer (some ⟨g, 0, none⟩)) rfl (by kernel_rfl) (by kernel_rfl) (by kernel_rfl) (fun _ _ _ h => h) (Or.inl ⟨wanted_free rfl, fun w' hSw => ?_⟩) trivial ?_
  · go_simp
  try simp only [Act.put, List.setIfInBounds_toArray, List.set_cons_zero, List.set_cons_succ]
  have HKW := KpM.drew HKv
  generalize wv.drew = W at *
  refine wpAnyH_ready (rs := [3, 13]) (by kernel_rfl) (by simp) (AllReadyH.cons (o := ⟨_, _, _, _, _, _⟩) rfl (fun K hK => ?_) (AllReadyH.cons (o := ⟨_, _, _, _, _, _⟩) rfl (fun K hK => ?_) AllReadyH.nil))
  · as_aux_lemma =>
    rewrite [if_pos (wanted_free rfl)]
    go_simp
    refine (numYes g p b1 t v W hs hn1 (KpM.rowH HKW)).mono ?_
    rintro e Wc ⟨rfl, hRWc, hOWc⟩
    have HKWc := KpM.read HKW hRWc (cuv_ne _ _) hOWc
    go_wp2_with fail
    refine hK.out _ _ trivial (fun _ => ?_)
    clear hK K
    try simp only [Act.put, List.setIfInBounds_toArray, List.set_cons_zero, List.set_cons_succ]
    refine wpAnyH_ready (rs := [7, 13]) (by kernel_rfl) (by simp) (AllReadyH.cons (o := ⟨_, _, _, _, _, _⟩) rfl (fun K hK => ?_) (AllReadyH.cons (o := ⟨_, _, _, _, _, _⟩) rfl (fun K hK => ?_) AllReadyH.nil))
    · as_aux_lemma =>
      rewrite [if_pos (wanted_free rfl)]
      go_simp
      refine (numYes g b1 b2 t e Wc hs hn2 (KpM.rowH HKWc)).mono ?_
      rintro e Wcc ⟨rfl, hRWcc, hOWcc⟩
      have HKWcc := KpM.read HKWc hRWcc (cuv_ne _ _) hOWcc
      go_wp2_with fail
      refine hK.out _ _ trivial (fun _ => ?_)
      clear hK K
      try simp only [Act.put, List.setIfInBounds_toArray, List.set_cons_zero, List.set_cons_succ]
      refine wpAnyH_ready (rs := [11, 13]) (by kernel_rfl) (by simp) (AllReadyH.cons (o := ⟨_, _, _, _, _, _⟩) rfl (fun K hK => ?_) (AllReadyH.cons (o := ⟨_, _, _, _, _, _⟩) rfl (fun K hK => ?_) AllReadyH.nil))
      · as_aux_lemma =>
        rewrite [if_pos (wanted_free rfl)]
        go_simp
        refine (numYes g b2 b3 t x Wcc hs hn3 (KpM.rowH HKWcc)).mono ?_
        rintro e Wccc ⟨rfl, hRWccc, hOWccc⟩
        have HKWccc := KpM.read HKWcc hRWccc (cuv_ne _ _) hOWccc
        go_wp2_with fail
        refine hK.out _ _ trivial (fun _ => ?_)
        clear hK K
        try simp only [Act.put, List.setIfInBounds_toArray, List.set_cons_zero, List.set_cons_succ]
        refine wpAnyH_take (i := 12) (oi := ⟨_, _, _, _, _, _⟩) (v := .agg #[.int .i64 v, .int .i64 e, .int .i64 x]) rfl (by kernel_rfl) (by kernel_rfl) (by kernel_rfl) (fun _ _ _ h => h) (Or.inl ⟨wanted_free rfl, fun w' hSw => ?_⟩) trivial ?_
        · go_simp
        try simp only [Act.put, List.setIfInBounds_toArray, List.set_cons_zero, List.set_cons_succ]
        refine wpAnyH_ready (rs := [13]) (by kernel_rfl) (by simp) (AllReadyH.cons (o := ⟨_, _, _, _, _, _⟩) rfl (fun K hK => ?_) AllReadyH.nil)
        rewrite [if_pos (wanted_free rfl)]
        with_reducible refine wp_allocV 49 (by with_unfolding_all rfl) (lkv 0 0 0) Try.infoLkz ?_
        intro Wccca hAWccca hBWccca
        have HKWccca := KpM.new HKWccc hAWccca (lkv_ne _ _ _) hBWccca
        skip
        refine hK.out _ _ trivial (fun _ => ?_)
        clear hK K
        try simp only [Act.put, List.setIfInBounds_toArray, List.set_cons_zero, List.set_cons_succ]
        refine wpAnyH_ready (rs := [14]) (by kernel_rfl) (by simp) (AllReadyH.cons (o := ⟨_, _, _, _, _, _⟩) rfl (fun K hK => ?_) AllReadyH.nil)
        rewrite [if_pos (wanted_free rfl)]
        with_reducible refine wp_storeV 49 (.tmp 3) (.tmp 16) (by with_unfolding_all rfl) Wccc.heap.size (lkv 0 0 0) (lkv v e x) (by with_unfolding_all rfl) (by with_unfolding_all rfl) (KpM.get HKWccca (List.mem_cons_self ..)) 3 Try.sizeLkI (by with_unfolding_all rfl) (by with_unfolding_all rfl) (lkv_one _ _ _) ?_
        intro wf hAf hOf
        have HKf := KpM.put HKWccca (one_apart (KpM.apartN HKWccc) ) hAf (lkv_ne _ _ _) hOf
        refine hK.out _ _ trivial (fun _ => ?_)
        clear hK K
        refine wpAnyH_done (by kernel_rfl) ?_ _
        generalize Wccc.heap.size = GA at *
        clear HKW HKWc HKWcc HKWccc HKWccca
        go_wp2_with fail
        have HKg := KpM.drew HKf
        clear HKf
        refine wp_region_held_drew (S := fun w' => w'.cell? ⟨GA, 0, none⟩ = some (.int .i64 v) ∧ w'.cell? ⟨GA, 1, none⟩ = some (.int .i64 e) ∧ w'.cell? ⟨GA, 2, none⟩ = some (.int .i64 x)) (by kernel_rfl) (KpM.get HKg (List.mem_cons_self ..)).lk (fun hHeld => ?_)
        refine wpAnyH_take (i := 0) (oi := ⟨_, _, _, _, _, _⟩) (v := .pointer (some ⟨g, 0, none⟩)) rfl (by kernel_rfl) (by kernel_rfl) (by kernel_rfl) (fun _ _ _ h => h) (Or.inl ⟨wanted_free rfl, fun w' hSw => ?_⟩) hHeld ?_
        · go_simp
        try simp only [Act.put, List.setIfInBounds_toArray, List.set_cons_zero, List.set_cons_succ]
        refine wpAnyH_take (i := 1) (oi := ⟨_, _, _, _, _, _⟩) (v := .pointer (some ⟨g, 0, none⟩)) rfl (by kernel_rfl) (by kernel_rfl) (by kernel_rfl) (fun _ _ _ h => h) (Or.inl ⟨wanted_free rfl, fun w' hSw => ?_⟩) hHeld ?_
        · go_simp
        try simp only [Act.put, List.setIfInBounds_toArray, List.set_cons_zero, List.set_cons_succ]
        refine wpAnyH_take (i := 2) (oi := ⟨_, _, _, _, _, _⟩) (v := .pointer (some ⟨g, 0, none⟩)) rfl (by kernel_rfl) (by kernel_rfl) (by kernel_rfl) (fun _ _ _ h => h) (Or.inl ⟨wanted_free rfl, fun w' hSw => ?_⟩) hHeld ?_
        · go_simp
        try simp only [Act.put, List.setIfInBounds_toArray, List.set_cons_zero, List.set_cons_succ]
        refine wpAnyH_take (i := 3) (oi := ⟨_, _, _, _, _, _⟩) (v := .agg #[.int .i64 v, .int .i64 e, .int .i64 x]) rfl (by kernel_rfl) (by kernel_rfl) (by kernel_rfl) (fun _ _ _ h => h) (Or.inl ⟨wanted_free rfl, fun w' hSw => ?_⟩) hHeld ?_
        · obtain ⟨s0, s1, s2⟩ := hSw
          go_simp
        try simp only [Act.put, List.setIfInBounds_toArray, List.set_cons_zero, List.set_cons_succ]
        generalize wf.drew = wg at *
        refine wpAnyH_ready (rs := [4]) (by kernel_rfl) (by simp) (AllReadyH.cons (o := ⟨_, _, _, _, _, _⟩) rfl (fun K hK => ?_) AllReadyH.nil)
        rewrite [if_pos (wanted_free rfl)]
        go_simp
        refine (hL wg).mono ?_
        rintro r wh ⟨rfl, hBh⟩
        have HKh := KpM.call HKg hBh
        go_wp2_with fail
        refine hK.out _ _ (KpM.get HKh (List.mem_cons_self ..)).lk (fun _ => ?_)
        clear hK K
        try simp only [Act.put, List.setIfInBounds_toArray, List.set_cons_zero, List.set_cons_succ]
        refine wpAnyH_ready (rs := [5]) (by kernel_rfl) (by simp) (AllReadyH.cons (o := ⟨_, _, _, _, _, _⟩) rfl (fun K hK => ?_) AllReadyH.nil)
        rewrite [if_pos (wanted_free rfl)]
        go_simp
        refine (mustNo _ wh).mono ?_
        rintro r w' ⟨rfl, rfl⟩
        exact ⟨rfl, rfl, HKh.out.only⟩
      · as_aux_lemma =>
        rewrite [if_pos (wanted_free rfl)]
        with_reducible refine wp_allocV 49 (by with_unfolding_all rfl) (lkv 0 0 0) Try.infoLkz ?_
        intro Wcca hAWcca hBWcca
        have HKWcca := KpM.new HKWcc hAWcca (lkv_ne _ _ _) hBWcca
        skip
        refine hK.out _ _ trivial (fun _ => ?_)
        clear hK K
        try simp only [Act.put, List.setIfInBounds_toArray, List.set_cons_zero, List.set_cons_succ]
        refine wpAnyH_ready (rs := [11]) (by kernel_rfl) (by simp) (AllReadyH.cons (o := ⟨_, _, _, _, _, _⟩) rfl (fun K hK => ?_) AllReadyH.nil)
        rewrite [if_pos (wanted_free rfl)]
        go_simp
        refine (numYes g b2 b3 t x Wcca hs hn3 (KpM.rowH HKWcca)).mono ?_
        rintro e Wccac ⟨rfl, hRWccac, hOWccac⟩
        have HKWccac := KpM.read HKWcca hRWccac (cuv_ne _ _) hOWccac
        go_wp2_with fail
        refine hK.out _ _ trivial (fun _ => ?_)
        clear hK K
        try simp only [Act.put, List.setIfInBounds_toArray, List.set_cons_zero, List.set_cons_succ]
        refine wpAnyH_take (i := 12) (oi := ⟨_, _, _, _, _, _⟩) (v := .agg #[.int .i64 v, .int .i64 e, .int .i64 x]) rfl (by kernel_rfl) (by kernel_rfl) (by kernel_rfl) (fun _ _ _ h => h) (Or.inl ⟨wanted_free rfl, fun w' hSw => ?_⟩) trivial ?_
        · go_simp
        try simp only [Act.put, List.setIfInBounds_toArray, List.set_cons_zero, List.set_cons_succ]
        refine wpAnyH_ready (rs := [14]) (by kernel_rfl) (by simp) (AllReadyH.cons (o := ⟨_, _, _, _, _, _⟩) rfl (fun K hK => ?_) AllReadyH.nil)
        rewrite [if_pos (wanted_free rfl)]
        with_reducible refine wp_storeV 49 (.tmp 3) (.tmp 16) (by with_unfolding_all rfl) Wcc.heap.size (lkv 0 0 0) (lkv v e x) (by with_unfolding_all rfl) (by with_unfolding_all rfl) (KpM.get HKWccac (List.mem_cons_self ..)) 3 Try.sizeLkI (by with_unfolding_all rfl) (by with_unfolding_all rfl) (lkv_one _ _ _) ?_
        intro wf hAf hOf
        have HKf := KpM.put HKWccac (one_apart (KpM.apartN HKWcc) ) hAf (lkv_ne _ _ _) hOf
        refine hK.out _ _ trivial (fun _ => ?_)
        clear hK K
        refine wpAnyH_done (by kernel_rfl) ?_ _
        generalize Wcc.heap.size = GA at *
        clear HKW HKWc HKWcc HKWcca HKWccac
        go_wp2_with fail
        have HKg := KpM.drew HKf
        clear HKf
        refine wp_region_held_drew (S := fun w' => w'.cell? ⟨GA, 0, none⟩ = some (.int .i64 v) ∧ w'.cell? ⟨GA, 1, none⟩ = some (.int .i64 e) ∧ w'.cell? ⟨GA, 2, none⟩ = some (.int .i64 x)) (by kernel_rfl) (KpM.get HKg (List.mem_cons_self ..)).lk (fun hHeld => ?_)
        refine wpAnyH_take (i := 0) (oi := ⟨_, _, _, _, _, _⟩) (v := .pointer (some ⟨g, 0, none⟩)) rfl (by kernel_rfl) (by kernel_rfl) (by kernel_rfl) (fun _ _ _ h => h) (Or.inl ⟨wanted_free rfl, fun w' hSw => ?_⟩) hHeld ?_
        · go_simp
        try simp only [Act.put, List.setIfInBounds_toArray, List.set_cons_zero, List.set_cons_succ]
        refine wpAnyH_take (i := 1) (oi := ⟨_, _, _, _, _, _⟩) (v := .pointer (some ⟨g, 0, none⟩)) rfl (by kernel_rfl) (by kernel_rfl) (by kernel_rfl) (fun _ _ _ h => h) (Or.inl ⟨wanted_free rfl, fun w' hSw => ?_⟩) hHeld ?_
        · go_simp
        try simp only [Act.put, List.setIfInBounds_toArray, List.set_cons_zero, List.set_cons_succ]
        refine wpAnyH_take (i := 2) (oi := ⟨_, _, _, _, _, _⟩) (v := .pointer (some ⟨g, 0, none⟩)) rfl (by kernel_rfl) (by kernel_rfl) (by kernel_rfl) (fun _ _ _ h => h) (Or.inl ⟨wanted_free rfl, fun w' hSw => ?_⟩) hHeld ?_
        · go_simp
        try simp only [Act.put, List.setIfInBounds_toArray, List.set_cons_zero, List.set_cons_succ]
        refine wpAnyH_take (i := 3) (oi := ⟨_, _, _, _, _, _⟩) (v := .agg #[.int .i64 v, .int .i64 e, .int .i64 x]) rfl (by kernel_rfl) (by kernel_rfl) (by kernel_rfl) (fun _ _ _ h => h) (Or.inl ⟨wanted_free rfl, fun w' hSw => ?_⟩) hHeld ?_
        · obtain ⟨s0, s1, s2⟩ := hSw
          go_simp
        try simp only [Act.put, List.setIfInBounds_toArray, List.set_cons_zero, List.set_cons_succ]
        generalize wf.drew = wg at *
        refine wpAnyH_ready (rs := [4]) (by kernel_rfl) (by simp) (AllReadyH.cons (o := ⟨_, _, _, _, _, _⟩) rfl (fun K hK => ?_) AllReadyH.nil)
        rewrite [if_pos (wanted_free rfl)]
        go_simp
        refine (hL wg).mono ?_
        rintro r wh ⟨rfl, hBh⟩
        have HKh := KpM.call HKg hBh
        go_wp2_with fail
        refine hK.out _ _ (KpM.get HKh (List.mem_cons_self ..)).lk (fun _ => ?_)
        clear hK K
        try simp only [Act.put, List.setIfInBounds_toArray, List.set_cons_zero, List.set_cons_succ]
        refine wpAnyH_ready (rs := [5]) (by kernel_rfl) (by simp) (AllReadyH.cons (o := ⟨_, _, _, _, _, _⟩) rfl (fun K hK => ?_) AllReadyH.nil)
        rewrite [if_pos (wanted_free rfl)]
        go_simp
        refine (mustNo _ wh).mono ?_
        rintro r w' ⟨rfl, rfl⟩
        exact ⟨rfl, rfl, HKh.out.only⟩
    · as_aux_lemma =>
      rewrite [if_pos (wanted_free rfl)]
      with_reducible refine wp_allocV 49 (by with_unfolding_all rfl) (lkv 0 0 0) Try.infoLkz ?_
      intro Wca hAWca hBWca
      have HKWca := KpM.new HKWc hAWca (lkv_ne _ _ _) hBWca
      skip
      refine hK.out _ _ trivial (fun _ => ?_)
      clear hK K
      try simp only [Act.put, List.setIfInBounds_toArray, List.set_cons_zero, List.set_cons_succ]
      refine wpAnyH_ready (rs := [7]) (by kernel_rfl) (by simp) (AllReadyH.cons (o := ⟨_, _, _, _, _, _⟩) rfl (fun K hK => ?_) AllReadyH.nil)
      rewrite [if_pos (wanted_free rfl)]
      go_simp
      refine (numYes g b1 b2 t e Wca hs hn2 (KpM.rowH HKWca)).mono ?_
      rintro e Wcac ⟨rfl, hRWcac, hOWcac⟩
      have HKWcac := KpM.read HKWca hRWcac (cuv_ne _ _) hOWcac
      go_wp2_with fail
      refine hK.out _ _ trivial (fun _ => ?_)
      clear hK K
      try simp only [Act.put, List.setIfInBounds_toArray, List.set_cons_zero, List.set_cons_succ]
      refine wpAnyH_ready (rs := [11]) (by kernel_rfl) (by simp) (AllReadyH.cons (o := ⟨_, _, _, _, _, _⟩) rfl (fun K hK => ?_) AllReadyH.nil)
      rewrite [if_pos (wanted_free rfl)]
      go_simp
      refine (numYes g b2 b3 t x Wcac hs hn3 (KpM.rowH HKWcac)).mono ?_
      rintro e Wcacc ⟨rfl, hRWcacc, hOWcacc⟩
      have HKWcacc := KpM.read HKWcac hRWcacc (cuv_ne _ _) hOWcacc
      go_wp2_with fail
      refine hK.out _ _ trivial (fun _ => ?_)
      clear hK K
      try simp only [Act.put, List.setIfInBounds_toArray, List.set_cons_zero, List.set_cons_succ]
      refine wpAnyH_take (i := 12) (oi := ⟨_, _, _, _, _, _⟩) (v := .agg #[.int .i64 v, .int .i64 e, .int .i64 x]) rfl (by kernel_rfl) (by kernel_rfl) (by kernel_rfl) (fun _ _ _ h => h) (Or.inl ⟨wanted_free rfl, fun w' hSw => ?_⟩) trivial ?_
      · go_simp
      try simp only [Act.put, List.setIfInBounds_toArray, List.set_cons_zero, List.set_cons_succ]
      refine wpAnyH_ready (rs := [14]) (by kernel_rfl) (by simp) (AllReadyH.cons (o := ⟨_, _, _, _, _, _⟩) rfl (fun K hK => ?_) AllReadyH.nil)
      rewrite [if_pos (wanted_free rfl)]
      with_reducible refine wp_storeV 49 (.tmp 3) (.tmp 16) (by with_unfolding_all rfl) Wc.heap.size (lkv 0 0 0) (lkv v e x) (by with_unfolding_all rfl) (by with_unfolding_all rfl) (KpM.get HKWcacc (List.mem_cons_self ..)) 3 Try.sizeLkI (by with_unfolding_all rfl) (by with_unfolding_all rfl) (lkv_one _ _ _) ?_
      intro wf hAf hOf
      have HKf := KpM.put HKWcacc (one_apart (KpM.apartN HKWc) ) hAf (lkv_ne _ _ _) hOf
      refine hK.out _ _ trivial (fun _ => ?_)
      clear hK K
      refine wpAnyH_done (by kernel_rfl) ?_ _
      generalize Wc.heap.size = GA at *
      clear HKW HKWc HKWca HKWcac HKWcacc
      go_wp2_with fail
      have HKg := KpM.drew HKf
      clear HKf
      refine wp_region_held_drew (S := fun w' => w'.cell? ⟨GA, 0, none⟩ = some (.int .i64 v) ∧ w'.cell? ⟨GA, 1, none⟩ = some (.int .i64 e) ∧ w'.cell? ⟨GA, 2, none⟩ = some (.int .i64 x)) (by kernel_rfl) (KpM.get HKg (List.mem_cons_self ..)).lk (fun hHeld => ?_)
      refine wpAnyH_take (i := 0) (oi := ⟨_, _, _, _, _, _⟩) (v := .pointer (some ⟨g, 0, none⟩)) rfl (by kernel_rfl) (by kernel_rfl) (by kernel_rfl) (fun _ _ _ h => h) (Or.inl ⟨wanted_free rfl, fun w' hSw => ?_⟩) hHeld ?_
      · go_simp
      try simp only [Act.put, List.setIfInBounds_toArray, List.set_cons_zero, List.set_cons_succ]
      refine wpAnyH_take (i := 1) (oi := ⟨_, _, _, _, _, _⟩) (v := .pointer (some ⟨g, 0, none⟩)) rfl (by kernel_rfl) (by kernel_rfl) (by kernel_rfl) (fun _ _ _ h => h) (Or.inl ⟨wanted_free rfl, fun w' hSw => ?_⟩) hHeld ?_
      · go_simp
      try simp only [Act.put, List.setIfInBounds_toArray, List.set_cons_zero, List.set_cons_succ]
      refine wpAnyH_take (i := 2) (oi := ⟨_, _, _, _, _, _⟩) (v := .pointer (some ⟨g, 0, none⟩)) rfl (by kernel_rfl) (by kernel_rfl) (by kernel_rfl) (fun _ _ _ h => h) (Or.inl ⟨wanted_free rfl, fun w' hSw => ?_⟩) hHeld ?_
      · go_simp
      try simp only [Act.put, List.setIfInBounds_toArray, List.set_cons_zero, List.set_cons_succ]
      refine wpAnyH_take (i := 3) (oi := ⟨_, _, _, _, _, _⟩) (v := .agg #[.int .i64 v, .int .i64 e, .int .i64 x]) rfl (by kernel_rfl) (by kernel_rfl) (by kernel_rfl) (fun _ _ _ h => h) (Or.inl ⟨wanted_free rfl, fun w' hSw => ?_⟩) hHeld ?_
      · obtain ⟨s0, s1, s2⟩ := hSw
        go_simp
      try simp only [Act.put, List.setIfInBounds_toArray, List.set_cons_zero, List.set_cons_succ]
      generalize wf.drew = wg at *
      refine wpAnyH_ready (rs := [4]) (by kernel_rfl) (by simp) (AllReadyH.cons (o := ⟨_, _, _, _, _, _⟩) rfl (fun K hK => ?_) AllReadyH.nil)
      rewrite [if_pos (wanted_free rfl)]
      go_simp
      refine (hL wg).mono ?_
      rintro r wh ⟨rfl, hBh⟩
      have HKh := KpM.call HKg hBh
      go_wp2_with fail
      refine hK.out _ _ (KpM.get HKh (List.mem_cons_self ..)).lk (fun _ => ?_)
      clear hK K
      try simp only [Act.put, List.setIfInBounds_toArray, List.set_cons_zero, List.set_cons_succ]
      refine wpAnyH_ready (rs := [5]) (by kernel_rfl) (by simp) (AllReadyH.cons (o := ⟨_, _, _, _, _, _⟩) rfl (fun K hK => ?_) AllReadyH.nil)
      rewrite [if_pos (wanted_free rfl)]
      go_simp
      refine (mustNo _ wh).mono ?_
      rintro r w' ⟨rfl, rfl⟩
      exact ⟨rfl, rfl, HKh.out.only⟩
  · as_aux_lemma =>
    rewrite [if_pos (wanted_free rfl)]
    with_reducible refine wp_allocV 49 (by with_unfolding_all rfl) (lkv 0 0 0) Try.infoLkz ?_
    intro Wa hAWa hBWa
    have HKWa := KpM.new HKW hAWa (lkv_ne _ _ _) hBWa
    refine hK.out _ _ trivial (fun _ => ?_)
    clear hK K
    try simp only [Act.put, List.setIfInBounds_toArray, List.set_cons_zero, List.set_cons_succ]
    refine wpAnyH_ready (rs := [3]) (by kernel_rfl) (by simp) (AllReadyH.cons (o := ⟨_, _, _, _, _, _⟩) rfl (fun K hK => ?_) AllReadyH.nil)
    rewrite [if_pos (wanted_free rfl)]
    go_simp
    refine (numYes g p b1 t v Wa hs hn1 (KpM.rowH HKWa)).mono ?_
    rintro e Wac ⟨rfl, hRWac, hOWac⟩
    have HKWac := KpM.read HKWa hRWac (cuv_ne _ _) hOWac
    go_wp2_with fail
    refine hK.out _ _ trivial (fun _ => ?_)
    clear hK K
    try simp only [Act.put, List.setIfInBounds_toArray, List.set_cons_zero, List.set_cons_succ]
    refine wpAnyH_ready (rs := [7]) (by kernel_rfl) (by simp) (AllReadyH.cons (o := ⟨_, _, _, _, _, _⟩) rfl (fun K hK => ?_) AllReadyH.nil)
    rewrite [if_pos (wanted_free rfl)]
    go_simp
    refine (numYes g b1 b2 t e Wac hs hn2 (KpM.rowH HKWac)).mono ?_
    rintro e Wacc ⟨rfl, hRWacc, hOWacc⟩
    have HKWacc := KpM.read HKWac hRWacc (cuv_ne _ _) hOWacc
    go_wp2_with fail
    refine hK.out _ _ trivial (fun _ => ?_)
    clear hK K
    try simp only [Act.put, List.setIfInBounds_toArray, List.set_cons_zero, List.set_cons_succ]
    refine wpAnyH_ready (rs := [11]) (by kernel_rfl) (by simp) (AllReadyH.cons (o := ⟨_, _, _, _, _, _⟩) rfl (fun K hK => ?_) AllReadyH.nil)
    rewrite [if_pos (wanted_free rfl)]
    go_simp
    refine (numYes g b2 b3 t x Wacc hs hn3 (KpM.rowH HKWacc)).mono ?_
    rintro e Waccc ⟨rfl, hRWaccc, hOWaccc⟩
    have HKWaccc := KpM.read HKWacc hRWaccc (cuv_ne _ _) hOWaccc
    go_wp2_with fail
    refine hK.out _ _ trivial (fun _ => ?_)
    clear hK K
    try simp only [Act.put, List.setIfInBounds_toArray, List.set_cons_zero, List.set_cons_succ]
    refine wpAnyH_take (i := 12) (oi := ⟨_, _, _, _, _, _⟩) (v := .agg #[.int .i64 v, .int .i64 e, .int .i64 x]) rfl (by kernel_rfl) (by kernel_rfl) (by kernel_rfl) (fun _ _ _ h => h) (Or.inl ⟨wanted_free rfl, fun w' hSw => ?_⟩) trivial ?_
    · go_simp
    try simp only [Act.put, List.setIfInBounds_toArray, List.set_cons_zero, List.set_cons_succ]
    refine wpAnyH_ready (rs := [14]) (by kernel_rfl) (by simp) (AllReadyH.cons (o := ⟨_, _, _, _, _, _⟩) rfl (fun K hK => ?_) AllReadyH.nil)
    rewrite [if_pos (wanted_free rfl)]
    with_reducible refine wp_storeV 49 (.tmp 3) (.tmp 16) (by with_unfolding_all rfl) W.heap.size (lkv 0 0 0) (lkv v e x) (by with_unfolding_all rfl) (by with_unfolding_all rfl) (KpM.get HKWaccc (List.mem_cons_self ..)) 3 Try.sizeLkI (by with_unfolding_all rfl) (by with_unfolding_all rfl) (lkv_one _ _ _) ?_
    intro wf hAf hOf
    have HKf := KpM.put HKWaccc (one_apart (KpM.apartN HKW) ) hAf (lkv_ne _ _ _) hOf
    refine hK.out _ _ trivial (fun _ => ?_)
    clear hK K
    refine wpAnyH_done (by kernel_rfl) ?_ _
    generalize W.heap.size = GA at *
    clear HKW HKWa HKWac HKWacc HKWaccc
    go_wp2_with fail
    have HKg := KpM.drew HKf
    clear HKf
    refine wp_region_held_drew (S := fun w' => w'.cell? ⟨GA, 0, none⟩ = some (.int .i64 v) ∧ w'.cell? ⟨GA, 1, none⟩ = some (.int .i64 e) ∧ w'.cell? ⟨GA, 2, none⟩ = some (.int .i64 x)) (by kernel_rfl) (KpM.get HKg (List.mem_cons_self ..)).lk (fun hHeld => ?_)
    refine wpAnyH_take (i := 0) (oi := ⟨_, _, _, _, _, _⟩) (v := .pointer (some ⟨g, 0, none⟩)) rfl (by kernel_rfl) (by kernel_rfl) (by kernel_rfl) (fun _ _ _ h => h) (Or.inl ⟨wanted_free rfl, fun w' hSw => ?_⟩) hHeld ?_
    · go_simp
    try simp only [Act.put, List.setIfInBounds_toArray, List.set_cons_zero, List.set_cons_succ]
    refine wpAnyH_take (i := 1) (oi := ⟨_, _, _, _, _, _⟩) (v := .pointer (some ⟨g, 0, none⟩)) rfl (by kernel_rfl) (by kernel_rfl) (by kernel_rfl) (fun _ _ _ h => h) (Or.inl ⟨wanted_free rfl, fun w' hSw => ?_⟩) hHeld ?_
    · go_simp
    try simp only [Act.put, List.setIfInBounds_toArray, List.set_cons_zero, List.set_cons_succ]
    refine wpAnyH_take (i := 2) (oi := ⟨_, _, _, _, _, _⟩) (v := .pointer (some ⟨g, 0, none⟩)) rfl (by kernel_rfl) (by kernel_rfl) (by kernel_rfl) (fun _ _ _ h => h) (Or.inl ⟨wanted_free rfl, fun w' hSw => ?_⟩) hHeld ?_
    · go_simp
    try simp only [Act.put, List.setIfInBounds_toArray, List.set_cons_zero, List.set_cons_succ]
    refine wpAnyH_take (i := 3) (oi := ⟨_, _, _, _, _, _⟩) (v := .agg #[.int .i64 v, .int .i64 e, .int .i64 x]) rfl (by kernel_rfl) (by kernel_rfl) (by kernel_rfl) (fun _ _ _ h => h) (Or.inl ⟨wanted_free rfl, fun w' hSw => ?_⟩) hHeld ?_
    · obtain ⟨s0, s1, s2⟩ := hSw
      go_simp
    try simp only [Act.put, List.setIfInBounds_toArray, List.set_cons_zero, List.set_cons_succ]
    generalize wf.drew = wg at *
    refine wpAnyH_ready (rs := [4]) (by kernel_rfl) (by simp) (AllReadyH.cons (o := ⟨_, _, _, _, _, _⟩) rfl (fun K hK => ?_) AllReadyH.nil)
    rewrite [if_pos (wanted_free rfl)]
    go_simp
    refine (hL wg).mono ?_
    rintro r wh ⟨rfl, hBh⟩
    have HKh := KpM.call HKg hBh
    go_wp2_with fail
    refine hK.out _ _ (KpM.get HKh (List.mem_cons_self ..)).lk (fun _ => ?_)
    clear hK K
    try simp only [Act.put, List.setIfInBounds_toArray, List.set_cons_zero, List.set_cons_succ]
    refine wpAnyH_ready (rs := [5]) (by kernel_rfl) (by simp) (AllReadyH.cons (o := ⟨_, _, _, _, _, _⟩) rfl (fun K hK => ?_) AllReadyH.nil)
    rewrite [if_pos (wanted_free rfl)]
    go_simp
    refine (mustNo _ wh).mono ?_
    rintro r w' ⟨rfl, rfl⟩
    exact ⟨rfl, rfl, HKh.out.only⟩
set_option maxRecDepth 100000 in
set_option maxHeartbeats 2000000 in
theorem lnY (g p b1 b2 b3 : Nat) (t : ByteArray) (v e x : Int) (w : World) (hs : t.size ≤ maxLen) (hn1 : numO t p = some (v, b1) ∧ p ≤ t.size) (hn2 : numO t b1 = some (e, b2) ∧ b1 ≤ t.size) (hn3 : numO t b2 = some (x, b3) ∧ b2 ≤ t.size) (hL : ∀ w0, Calls Try.prog 78 #[.agg #[.int .i64 v, .int .i64 e, .int .i64 x]] w0 fun r w' => r = .returned (.bool true) ∧ Below w0.heap.size w0 w') (h : RowV w g (cuv t p)) :
    Calls Try.prog 105 #[.pointer (some ⟨g, 0, none⟩)] w fun r w' => r = .returned (.agg #[.int .i64 v, .int .i64 e, .int .i64 x]) ∧ RowV w' g (cuv t b3) ∧ Only g w w' := by
  have HR : Hid (RowV w g (cuv t p)) := h
  clear h
  go_enter Try.func105, Try.ntmps105
  go_wp2_with (first
    | (with_reducible refine wpList_allocV (w := w) (by with_unfolding_all rfl) 49 (by with_unfolding_all rfl) (lkv 0 0 0) Try.infoLkz ?_; intro wv hAv hBv hSv; have HKv := KpM.new (KpM.start HR.out (cuv_ne _ _)) hAv (lkv_ne _ _ _) hBv; clear hSv hAv hBv))
  refine wp_region_held_drew (S := fun _ => True) (by kernel_rfl) trivial (fun _ => ?_)
  refine wpAnyH_take (i := 0) (oi := ⟨_, _, _, _, _, _⟩) (v := .pointer (some ⟨g, 0, none⟩)) rfl (by kernel_rfl) (by kernel_rfl) (by kernel_rfl) (fun _ _ _ h => h) (Or.inl ⟨wanted_free rfl, fun w' hSw => ?_⟩) trivial ?_
  · go_simp
  try simp only [Act.put, List.setIfInBounds_toArray, List.set_cons_zero, List.set_cons_succ]
  refine wpAnyH_take (i := 1) (oi := ⟨_, _, _, _, _, _⟩) (v := .pointer (some ⟨g, 0, none⟩)) rfl (by kernel_rfl) (by kernel_rfl) (by kernel_rfl) (fun _ _ _ h => h) (Or.inl ⟨wanted_free rfl, fun w' hSw => ?_⟩) trivial ?_
  · go_simp
  try simp only [Act.put, List.setIfInBounds_toArray, List.set_cons_zero, List.set_cons_succ]
  refine wpAnyH_take (i := 2) (oi := ⟨_, _, _, _, _, _⟩) (v := .pointer (some ⟨g, 0, none⟩)) rfl (by kernel_rfl) (by kernel_rfl) (by kernel_rfl) (fun _ _ _ h => h) (Or.inl ⟨wanted_free rfl, fun w' hSw => ?_⟩) trivial ?_
  · go_simp
  try simp only [Act.put, List.setIfInBounds_toArray, List.set_cons_zero, List.set_cons_succ]
  refine wpAnyH_take (i := 4) (oi := ⟨_, _, _, _, _, _⟩) (v := .pointer (some ⟨g, 0, none⟩)) rfl (by kernel_rfl) (by kernel_rfl) (by kernel_rfl) (fun _ _ _ h => h) (Or.inl ⟨wanted_free rfl, fun w' hSw => ?_⟩) trivial ?_
  · go_simp
  try simp only [Act.put, List.setIfInBounds_toArray, List.set_cons_zero, List.set_cons_succ]
  refine wpAnyH_take (i := 5) (oi := ⟨_, _, _, _, _, _⟩) (v := .pointer (some ⟨g, 0, none⟩)) rfl (by kernel_rfl) (by kernel_rfl) (by kernel_rfl) (fun _ _ _ h => h) (Or.inl ⟨wanted_free rfl, fun w' hSw => ?_⟩) trivial ?_
  · go_simp
  try simp only [Act.put, List.setIfInBounds_toArray, List.set_cons_zero, List.set_cons_succ]
  refine wpAnyH_take (i := 6) (oi := ⟨_, _, _, _, _, _⟩) (v := .pointer (some ⟨g, 0, none⟩)) rfl (by kernel_rfl) (by kernel_rfl) (by kernel_rfl) (fun _ _ _ h => h) (Or.inl ⟨wanted_free rfl, fun w' hSw => ?_⟩) trivial ?_
  · go_simp
  try simp only [Act.put, List.setIfInBounds_toArray, List.set_cons_zero, List.set_cons_succ]
  refine wpAnyH_take (i := 8) (oi := ⟨_, _, _, _, _, _⟩) (v := .pointer (some ⟨g, 0, none⟩)) rfl (by kernel_rfl) (by kernel_rfl) (by kernel_rfl) (fun _ _ _ h => h) (Or.inl ⟨wanted_free rfl, fun w' hSw => ?_⟩) trivial ?_
  · go_simp
  try simp only [Act.put, List.setIfInBounds_toArray, List.set_cons_zero, List.set_cons_succ]
  refine wpAnyH_take (i := 9) (oi := ⟨_, _, _, _, _, _⟩) (v := .pointer (some ⟨g, 0, none⟩)) rfl (by kernel_rfl) (by kernel_rfl) (by kernel_rfl) (fun _ _ _ h => h) (Or.inl ⟨wanted_free rfl, fun w' hSw => ?_⟩) trivial ?_
  · go_simp
  try simp only [Act.put, List.setIfInBounds_toArray, List.set_cons_zero, List.set_cons_succ]
  refine wpAnyH_take (i := 10) (oi := ⟨_, _, _, _, _, _⟩) (v := .pointer (some ⟨g, 0, none⟩)) rfl (by kernel_rfl) (by kernel_rfl) (by kernel_rfl) (fun _ _ _ h => h) (Or.inl ⟨wanted_free rfl, fun w' hSw => ?_⟩) trivial ?_
  · go_simp
  try simp only [Act.put, List.setIfInBounds_toArray, List.set_cons_zero, List.set_cons_succ]
  have HKW := KpM.drew HKv
  generalize wv.drew = W at *
  refine wpAnyH_ready (rs := [3, 13]) (by kernel_rfl) (by simp) (AllReadyH.cons (o := ⟨_, _, _, _, _, _⟩) rfl (fun K hK => ?_) (AllReadyH.cons (o := ⟨_, _, _, _, _, _⟩) rfl (fun K hK => ?_) AllReadyH.nil))
  · as_aux_lemma =>
    rewrite [if_pos (wanted_free rfl)]
    go_simp
    refine (numYes g p b1 t v W hs hn1 (KpM.rowH HKW)).mono ?_
    rintro e Wc ⟨rfl, hRWc, hOWc⟩
    have HKWc := KpM.read HKW hRWc (cuv_ne _ _) hOWc
    go_wp2_with fail
    refine hK.out _ _ trivial (fun _ => ?_)
    clear hK K
    try simp only [Act.put, List.setIfInBounds_toArray, List.set_cons_zero, List.set_cons_succ]
    refine wpAnyH_ready (rs := [7, 13]) (by kernel_rfl) (by simp) (AllReadyH.cons (o := ⟨_, _, _, _, _, _⟩) rfl (fun K hK => ?_) (AllReadyH.cons (o := ⟨_, _, _, _, _, _⟩) rfl (fun K hK => ?_) AllReadyH.nil))
    · as_aux_lemma =>
      rewrite [if_pos (wanted_free rfl)]
      go_simp
      refine (numYes g b1 b2 t e Wc hs hn2 (KpM.rowH HKWc)).mono ?_
      rintro e Wcc ⟨rfl, hRWcc, hOWcc⟩
      have HKWcc := KpM.read HKWc hRWcc (cuv_ne _ _) hOWcc
      go_wp2_with fail
      refine hK.out _ _ trivial (fun _ => ?_)
      clear hK K
      try simp only [Act.put, List.setIfInBounds_toArray, List.set_cons_zero, List.set_cons_succ]
      refine wpAnyH_ready (rs := [11, 13]) (by kernel_rfl) (by simp) (AllReadyH.cons (o := ⟨_, _, _, _, _, _⟩) rfl (fun K hK => ?_) (AllReadyH.cons (o := ⟨_, _, _, _, _, _⟩) rfl (fun K hK => ?_) AllReadyH.nil))
      · as_aux_lemma =>
        rewrite [if_pos (wanted_free rfl)]
        go_simp
        refine (numYes g b2 b3 t x Wcc hs hn3 (KpM.rowH HKWcc)).mono ?_
        rintro e Wccc ⟨rfl, hRWccc, hOWccc⟩
        have HKWccc := KpM.read HKWcc hRWccc (cuv_ne _ _) hOWccc
        go_wp2_with fail
        refine hK.out _ _ trivial (fun _ => ?_)
        clear hK K
        try simp only [Act.put, List.setIfInBounds_toArray, List.set_cons_zero, List.set_cons_succ]
        refine wpAnyH_take (i := 12) (oi := ⟨_, _, _, _, _, _⟩) (v := .agg #[.int .i64 v, .int .i64 e, .int .i64 x]) rfl (by kernel_rfl) (by kernel_rfl) (by kernel_rfl) (fun _ _ _ h => h) (Or.inl ⟨wanted_free rfl, fun w' hSw => ?_⟩) trivial ?_
        · go_simp
        try simp only [Act.put, List.setIfInBounds_toArray, List.set_cons_zero, List.set_cons_succ]
        refine wpAnyH_ready (rs := [13]) (by kernel_rfl) (by simp) (AllReadyH.cons (o := ⟨_, _, _, _, _, _⟩) rfl (fun K hK => ?_) AllReadyH.nil)
        rewrite [if_pos (wanted_free rfl)]
        with_reducible refine wp_allocV 49 (by with_unfolding_all rfl) (lkv 0 0 0) Try.infoLkz ?_
        intro Wccca hAWccca hBWccca
        have HKWccca := KpM.new HKWccc hAWccca (lkv_ne _ _ _) hBWccca
        skip
        refine hK.out _ _ trivial (fun _ => ?_)
        clear hK K
        try simp only [Act.put, List.setIfInBounds_toArray, List.set_cons_zero, List.set_cons_succ]
        refine wpAnyH_ready (rs := [14]) (by kernel_rfl) (by simp) (AllReadyH.cons (o := ⟨_, _, _, _, _, _⟩) rfl (fun K hK => ?_) AllReadyH.nil)
        rewrite [if_pos (wanted_free rfl)]
        with_reducible refine wp_storeV 49 (.tmp 3) (.tmp 16) (by with_unfolding_all rfl) Wccc.heap.size (lkv 0 0 0) (lkv v e x) (by with_unfolding_all rfl) (by with_unfolding_all rfl) (KpM.get HKWccca (List.mem_cons_self ..)) 3 Try.sizeLkI (by with_unfolding_all rfl) (by with_unfolding_all rfl) (lkv_one _ _ _) ?_
        intro wf hAf hOf
        have HKf := KpM.put HKWccca (one_apart (KpM.apartN HKWccc) ) hAf (lkv_ne _ _ _) hOf
        refine hK.out _ _ trivial (fun _ => ?_)
        clear hK K
        refine wpAnyH_done (by kernel_rfl) ?_ _
        generalize Wccc.heap.size = GA at *
        clear HKW HKWc HKWcc HKWccc HKWccca
        go_wp2_with fail
        have HKg := KpM.drew HKf
        clear HKf
        refine wp_region_held_drew (S := fun w' => w'.cell? ⟨GA, 0, none⟩ = some (.int .i64 v) ∧ w'.cell? ⟨GA, 1, none⟩ = some (.int .i64 e) ∧ w'.cell? ⟨GA, 2, none⟩ = some (.int .i64 x)) (by kernel_rfl) (KpM.get HKg (List.mem_cons_self ..)).lk (fun hHeld => ?_)
        refine wpAnyH_take (i := 0) (oi := ⟨_, _, _, _, _, _⟩) (v := .pointer (some ⟨g, 0, none⟩)) rfl (by kernel_rfl) (by kernel_rfl) (by kernel_rfl) (fun _ _ _ h => h) (Or.inl ⟨wanted_free rfl, fun w' hSw => ?_⟩) hHeld ?_
        · go_simp
        try simp only [Act.put, List.setIfInBounds_toArray, List.set_cons_zero, List.set_cons_succ]
        refine wpAnyH_take (i := 1) (oi := ⟨_, _, _, _, _, _⟩) (v := .pointer (some ⟨g, 0, none⟩)) rfl (by kernel_rfl) (by kernel_rfl) (by kernel_rfl) (fun _ _ _ h => h) (Or.inl ⟨wanted_free rfl, fun w' hSw => ?_⟩) hHeld ?_
        · go_simp
        try simp only [Act.put, List.setIfInBounds_toArray, List.set_cons_zero, List.set_cons_succ]
        refine wpAnyH_take (i := 2) (oi := ⟨_, _, _, _, _, _⟩) (v := .pointer (some ⟨g, 0, none⟩)) rfl (by kernel_rfl) (by kernel_rfl) (by kernel_rfl) (fun _ _ _ h => h) (Or.inl ⟨wanted_free rfl, fun w' hSw => ?_⟩) hHeld ?_
        · go_simp
        try simp only [Act.put, List.setIfInBounds_toArray, List.set_cons_zero, List.set_cons_succ]
        refine wpAnyH_take (i := 3) (oi := ⟨_, _, _, _, _, _⟩) (v := .agg #[.int .i64 v, .int .i64 e, .int .i64 x]) rfl (by kernel_rfl) (by kernel_rfl) (by kernel_rfl) (fun _ _ _ h => h) (Or.inl ⟨wanted_free rfl, fun w' hSw => ?_⟩) hHeld ?_
        · obtain ⟨s0, s1, s2⟩ := hSw
          go_simp
        try simp only [Act.put, List.setIfInBounds_toArray, List.set_cons_zero, List.set_cons_succ]
        generalize wf.drew = wg at *
        refine wpAnyH_ready (rs := [4]) (by kernel_rfl) (by simp) (AllReadyH.cons (o := ⟨_, _, _, _, _, _⟩) rfl (fun K hK => ?_) AllReadyH.nil)
        rewrite [if_pos (wanted_free rfl)]
        go_simp
        refine (hL wg).mono ?_
        rintro r wh ⟨rfl, hBh⟩
        have HKh := KpM.call HKg hBh
        go_wp2_with fail
        refine hK.out _ _ (KpM.get HKh (List.mem_cons_self ..)).lk (fun _ => ?_)
        clear hK K
        try simp only [Act.put, List.setIfInBounds_toArray, List.set_cons_zero, List.set_cons_succ]
        refine wpAnyH_ready (rs := [5]) (by kernel_rfl) (by simp) (AllReadyH.cons (o := ⟨_, _, _, _, _, _⟩) rfl (fun K hK => ?_) AllReadyH.nil)
        rewrite [if_pos (wanted_free rfl)]
        go_simp
        refine (mustYes _ wh).mono ?_
        rintro r w' ⟨rfl, rfl⟩
        go_wp2_with fail
        refine hK.out _ _ (KpM.get HKh (List.mem_cons_self ..)).lk (fun _ => ?_)
        clear hK K
        try simp only [Act.put, List.setIfInBounds_toArray, List.set_cons_zero, List.set_cons_succ]
        refine wpAnyH_done (by kernel_rfl) ?_ _
        have HKi := KpM.swap HKh
        clear HKg HKh hHeld
        go_wp2_with (first
          | (with_reducible refine wpList_loadV (w := wh) (by with_unfolding_all rfl) 49 (.tmp 3) (by with_unfolding_all rfl) GA (lkv v e x) (by with_unfolding_all rfl) (KpM.get HKi (List.mem_cons_of_mem _ (List.mem_cons_self ..))) Try.undLkI 3 Try.sizeLkI (by with_unfolding_all rfl) ?_)
          | (with_reducible refine wpList_storeH (w := wh) (by with_unfolding_all rfl) 49 (.tmp 2) (.tmp 23) (by with_unfolding_all rfl) w.heap.size (lkv 0 0 0) (lkv v e x) (by with_unfolding_all rfl) (by with_unfolding_all rfl) (KpM.get HKi (List.mem_cons_self ..)) 3 Try.sizeLkI (by with_unfolding_all rfl) (by with_unfolding_all rfl) (lkv_one _ _ _) ?_; intro wz hAz hBz hFz hSz; have HKz := KpM.putOf HKi hAz (lkv_ne _ _ _) (Only.set hBz hFz hSz)))
        exact bodyPost_ret (results_V (t := 49) rfl _ w.heap.size _ rfl hAz Try.undLkI 3 Try.sizeLkI rfl) rfl ⟨rfl, HKz.1, HKz.2⟩
      · as_aux_lemma =>
        rewrite [if_pos (wanted_free rfl)]
        with_reducible refine wp_allocV 49 (by with_unfolding_all rfl) (lkv 0 0 0) Try.infoLkz ?_
        intro Wcca hAWcca hBWcca
        have HKWcca := KpM.new HKWcc hAWcca (lkv_ne _ _ _) hBWcca
        skip
        refine hK.out _ _ trivial (fun _ => ?_)
        clear hK K
        try simp only [Act.put, List.setIfInBounds_toArray, List.set_cons_zero, List.set_cons_succ]
        refine wpAnyH_ready (rs := [11]) (by kernel_rfl) (by simp) (AllReadyH.cons (o := ⟨_, _, _, _, _, _⟩) rfl (fun K hK => ?_) AllReadyH.nil)
        rewrite [if_pos (wanted_free rfl)]
        go_simp
        refine (numYes g b2 b3 t x Wcca hs hn3 (KpM.rowH HKWcca)).mono ?_
        rintro e Wccac ⟨rfl, hRWccac, hOWccac⟩
        have HKWccac := KpM.read HKWcca hRWccac (cuv_ne _ _) hOWccac
        go_wp2_with fail
        refine hK.out _ _ trivial (fun _ => ?_)
        clear hK K
        try simp only [Act.put, List.setIfInBounds_toArray, List.set_cons_zero, List.set_cons_succ]
        refine wpAnyH_take (i := 12) (oi := ⟨_, _, _, _, _, _⟩) (v := .agg #[.int .i64 v, .int .i64 e, .int .i64 x]) rfl (by kernel_rfl) (by kernel_rfl) (by kernel_rfl) (fun _ _ _ h => h) (Or.inl ⟨wanted_free rfl, fun w' hSw => ?_⟩) trivial ?_
        · go_simp
        try simp only [Act.put, List.setIfInBounds_toArray, List.set_cons_zero, List.set_cons_succ]
        refine wpAnyH_ready (rs := [14]) (by kernel_rfl) (by simp) (AllReadyH.cons (o := ⟨_, _, _, _, _, _⟩) rfl (fun K hK => ?_) AllReadyH.nil)
        rewrite [if_pos (wanted_free rfl)]
        with_reducible refine wp_storeV 49 (.tmp 3) (.tmp 16) (by with_unfolding_all rfl) Wcc.heap.size (lkv 0 0 0) (lkv v e x) (by with_unfolding_all rfl) (by with_unfolding_all rfl) (KpM.get HKWccac (List.mem_cons_self ..)) 3 Try.sizeLkI (by with_unfolding_all rfl) (by with_unfolding_all rfl) (lkv_one _ _ _) ?_
        intro wf hAf hOf
        have HKf := KpM.put HKWccac (one_apart (KpM.apartN HKWcc) ) hAf (lkv_ne _ _ _) hOf
        refine hK.out _ _ trivial (fun _ => ?_)
        clear hK K
        refine wpAnyH_done (by kernel_rfl) ?_ _
        generalize Wcc.heap.size = GA at *
        clear HKW HKWc HKWcc HKWcca HKWccac
        go_wp2_with fail
        have HKg := KpM.drew HKf
        clear HKf
        refine wp_region_held_drew (S := fun w' => w'.cell? ⟨GA, 0, none⟩ = some (.int .i64 v) ∧ w'.cell? ⟨GA, 1, none⟩ = some (.int .i64 e) ∧ w'.cell? ⟨GA, 2, none⟩ = some (.int .i64 x)) (by kernel_rfl) (KpM.get HKg (List.mem_cons_self ..)).lk (fun hHeld => ?_)
        refine wpAnyH_take (i := 0) (oi := ⟨_, _, _, _, _, _⟩) (v := .pointer (some ⟨g, 0, none⟩)) rfl (by kernel_rfl) (by kernel_rfl) (by kernel_rfl) (fun _ _ _ h => h) (Or.inl ⟨wanted_free rfl, fun w' hSw => ?_⟩) hHeld ?_
        · go_simp
        try simp only [Act.put, List.setIfInBounds_toArray, List.set_cons_zero, List.set_cons_succ]
        refine wpAnyH_take (i := 1) (oi := ⟨_, _, _, _, _, _⟩) (v := .pointer (some ⟨g, 0, none⟩)) rfl (by kernel_rfl) (by kernel_rfl) (by kernel_rfl) (fun _ _ _ h => h) (Or.inl ⟨wanted_free rfl, fun w' hSw => ?_⟩) hHeld ?_
        · go_simp
        try simp only [Act.put, List.setIfInBounds_toArray, List.set_cons_zero, List.set_cons_succ]
        refine wpAnyH_take (i := 2) (oi := ⟨_, _, _, _, _, _⟩) (v := .pointer (some ⟨g, 0, none⟩)) rfl (by kernel_rfl) (by kernel_rfl) (by kernel_rfl) (fun _ _ _ h => h) (Or.inl ⟨wanted_free rfl, fun w' hSw => ?_⟩) hHeld ?_
        · go_simp
        try simp only [Act.put, List.setIfInBounds_toArray, List.set_cons_zero, List.set_cons_succ]
        refine wpAnyH_take (i := 3) (oi := ⟨_, _, _, _, _, _⟩) (v := .agg #[.int .i64 v, .int .i64 e, .int .i64 x]) rfl (by kernel_rfl) (by kernel_rfl) (by kernel_rfl) (fun _ _ _ h => h) (Or.inl ⟨wanted_free rfl, fun w' hSw => ?_⟩) hHeld ?_
        · obtain ⟨s0, s1, s2⟩ := hSw
          go_simp
        try simp only [Act.put, List.setIfInBounds_toArray, List.set_cons_zero, List.set_cons_succ]
        generalize wf.drew = wg at *
        refine wpAnyH_ready (rs := [4]) (by kernel_rfl) (by simp) (AllReadyH.cons (o := ⟨_, _, _, _, _, _⟩) rfl (fun K hK => ?_) AllReadyH.nil)
        rewrite [if_pos (wanted_free rfl)]
        go_simp
        refine (hL wg).mono ?_
        rintro r wh ⟨rfl, hBh⟩
        have HKh := KpM.call HKg hBh
        go_wp2_with fail
        refine hK.out _ _ (KpM.get HKh (List.mem_cons_self ..)).lk (fun _ => ?_)
        clear hK K
        try simp only [Act.put, List.setIfInBounds_toArray, List.set_cons_zero, List.set_cons_succ]
        refine wpAnyH_ready (rs := [5]) (by kernel_rfl) (by simp) (AllReadyH.cons (o := ⟨_, _, _, _, _, _⟩) rfl (fun K hK => ?_) AllReadyH.nil)
        rewrite [if_pos (wanted_free rfl)]
        go_simp
        refine (mustYes _ wh).mono ?_
        rintro r w' ⟨rfl, rfl⟩
        go_wp2_with fail
        refine hK.out _ _ (KpM.get HKh (List.mem_cons_self ..)).lk (fun _ => ?_)
        clear hK K
        try simp only [Act.put, List.setIfInBounds_toArray, List.set_cons_zero, List.set_cons_succ]
        refine wpAnyH_done (by kernel_rfl) ?_ _
        have HKi := KpM.swap HKh
        clear HKg HKh hHeld
        go_wp2_with (first
          | (with_reducible refine wpList_loadV (w := wh) (by with_unfolding_all rfl) 49 (.tmp 3) (by with_unfolding_all rfl) GA (lkv v e x) (by with_unfolding_all rfl) (KpM.get HKi (List.mem_cons_of_mem _ (List.mem_cons_self ..))) Try.undLkI 3 Try.sizeLkI (by with_unfolding_all rfl) ?_)
          | (with_reducible refine wpList_storeH (w := wh) (by with_unfolding_all rfl) 49 (.tmp 2) (.tmp 23) (by with_unfolding_all rfl) w.heap.size (lkv 0 0 0) (lkv v e x) (by with_unfolding_all rfl) (by with_unfolding_all rfl) (KpM.get HKi (List.mem_cons_self ..)) 3 Try.sizeLkI (by with_unfolding_all rfl) (by with_unfolding_all rfl) (lkv_one _ _ _) ?_; intro wz hAz hBz hFz hSz; have HKz := KpM.putOf HKi hAz (lkv_ne _ _ _) (Only.set hBz hFz hSz)))
        exact bodyPost_ret (results_V (t := 49) rfl _ w.heap.size _ rfl hAz Try.undLkI 3 Try.sizeLkI rfl) rfl ⟨rfl, HKz.1, HKz.2⟩
    · as_aux_lemma =>
      rewrite [if_pos (wanted_free rfl)]
      with_reducible refine wp_allocV 49 (by with_unfolding_all rfl) (lkv 0 0 0) Try.infoLkz ?_
      intro Wca hAWca hBWca
      have HKWca := KpM.new HKWc hAWca (lkv_ne _ _ _) hBWca
      skip
      refine hK.out _ _ trivial (fun _ => ?_)
      clear hK K
      try simp only [Act.put, List.setIfInBounds_toArray, List.set_cons_zero, List.set_cons_succ]
      refine wpAnyH_ready (rs := [7]) (by kernel_rfl) (by simp) (AllReadyH.cons (o := ⟨_, _, _, _, _, _⟩) rfl (fun K hK => ?_) AllReadyH.nil)
      rewrite [if_pos (wanted_free rfl)]
      go_simp
      refine (numYes g b1 b2 t e Wca hs hn2 (KpM.rowH HKWca)).mono ?_
      rintro e Wcac ⟨rfl, hRWcac, hOWcac⟩
      have HKWcac := KpM.read HKWca hRWcac (cuv_ne _ _) hOWcac
      go_wp2_with fail
      refine hK.out _ _ trivial (fun _ => ?_)
      clear hK K
      try simp only [Act.put, List.setIfInBounds_toArray, List.set_cons_zero, List.set_cons_succ]
      refine wpAnyH_ready (rs := [11]) (by kernel_rfl) (by simp) (AllReadyH.cons (o := ⟨_, _, _, _, _, _⟩) rfl (fun K hK => ?_) AllReadyH.nil)
      rewrite [if_pos (wanted_free rfl)]
      go_simp
      refine (numYes g b2 b3 t x Wcac hs hn3 (KpM.rowH HKWcac)).mono ?_
      rintro e Wcacc ⟨rfl, hRWcacc, hOWcacc⟩
      have HKWcacc := KpM.read HKWcac hRWcacc (cuv_ne _ _) hOWcacc
      go_wp2_with fail
      refine hK.out _ _ trivial (fun _ => ?_)
      clear hK K
      try simp only [Act.put, List.setIfInBounds_toArray, List.set_cons_zero, List.set_cons_succ]
      refine wpAnyH_take (i := 12) (oi := ⟨_, _, _, _, _, _⟩) (v := .agg #[.int .i64 v, .int .i64 e, .int .i64 x]) rfl (by kernel_rfl) (by kernel_rfl) (by kernel_rfl) (fun _ _ _ h => h) (Or.inl ⟨wanted_free rfl, fun w' hSw => ?_⟩) trivial ?_
      · go_simp
      try simp only [Act.put, List.setIfInBounds_toArray, List.set_cons_zero, List.set_cons_succ]
      refine wpAnyH_ready (rs := [14]) (by kernel_rfl) (by simp) (AllReadyH.cons (o := ⟨_, _, _, _, _, _⟩) rfl (fun K hK => ?_) AllReadyH.nil)
      rewrite [if_pos (wanted_free rfl)]
      with_reducible refine wp_storeV 49 (.tmp 3) (.tmp 16) (by with_unfolding_all rfl) Wc.heap.size (lkv 0 0 0) (lkv v e x) (by with_unfolding_all rfl) (by with_unfolding_all rfl) (KpM.get HKWcacc (List.mem_cons_self ..)) 3 Try.sizeLkI (by with_unfolding_all rfl) (by with_unfolding_all rfl) (lkv_one _ _ _) ?_
      intro wf hAf hOf
      have HKf := KpM.put HKWcacc (one_apart (KpM.apartN HKWc) ) hAf (lkv_ne _ _ _) hOf
      refine hK.out _ _ trivial (fun _ => ?_)
      clear hK K
      refine wpAnyH_done (by kernel_rfl) ?_ _
      generalize Wc.heap.size = GA at *
      clear HKW HKWc HKWca HKWcac HKWcacc
      go_wp2_with fail
      have HKg := KpM.drew HKf
      clear HKf
      refine wp_region_held_drew (S := fun w' => w'.cell? ⟨GA, 0, none⟩ = some (.int .i64 v) ∧ w'.cell? ⟨GA, 1, none⟩ = some (.int .i64 e) ∧ w'.cell? ⟨GA, 2, none⟩ = some (.int .i64 x)) (by kernel_rfl) (KpM.get HKg (List.mem_cons_self ..)).lk (fun hHeld => ?_)
      refine wpAnyH_take (i := 0) (oi := ⟨_, _, _, _, _, _⟩) (v := .pointer (some ⟨g, 0, none⟩)) rfl (by kernel_rfl) (by kernel_rfl) (by kernel_rfl) (fun _ _ _ h => h) (Or.inl ⟨wanted_free rfl, fun w' hSw => ?_⟩) hHeld ?_
      · go_simp
      try simp only [Act.put, List.setIfInBounds_toArray, List.set_cons_zero, List.set_cons_succ]
      refine wpAnyH_take (i := 1) (oi := ⟨_, _, _, _, _, _⟩) (v := .pointer (some ⟨g, 0, none⟩)) rfl (by kernel_rfl) (by kernel_rfl) (by kernel_rfl) (fun _ _ _ h => h) (Or.inl ⟨wanted_free rfl, fun w' hSw => ?_⟩) hHeld ?_
      · go_simp
      try simp only [Act.put, List.setIfInBounds_toArray, List.set_cons_zero, List.set_cons_succ]
      refine wpAnyH_take (i := 2) (oi := ⟨_, _, _, _, _, _⟩) (v := .pointer (some ⟨g, 0, none⟩)) rfl (by kernel_rfl) (by kernel_rfl) (by kernel_rfl) (fun _ _ _ h => h) (Or.inl ⟨wanted_free rfl, fun w' hSw => ?_⟩) hHeld ?_
      · go_simp
      try simp only [Act.put, List.setIfInBounds_toArray, List.set_cons_zero, List.set_cons_succ]
      refine wpAnyH_take (i := 3) (oi := ⟨_, _, _, _, _, _⟩) (v := .agg #[.int .i64 v, .int .i64 e, .int .i64 x]) rfl (by kernel_rfl) (by kernel_rfl) (by kernel_rfl) (fun _ _ _ h => h) (Or.inl ⟨wanted_free rfl, fun w' hSw => ?_⟩) hHeld ?_
      · obtain ⟨s0, s1, s2⟩ := hSw
        go_simp
      try simp only [Act.put, List.setIfInBounds_toArray, List.set_cons_zero, List.set_cons_succ]
      generalize wf.drew = wg at *
      refine wpAnyH_ready (rs := [4]) (by kernel_rfl) (by simp) (AllReadyH.cons (o := ⟨_, _, _, _, _, _⟩) rfl (fun K hK => ?_) AllReadyH.nil)
      rewrite [if_pos (wanted_free rfl)]
      go_simp
      refine (hL wg).mono ?_
      rintro r wh ⟨rfl, hBh⟩
      have HKh := KpM.call HKg hBh
      go_wp2_with fail
      refine hK.out _ _ (KpM.get HKh (List.mem_cons_self ..)).lk (fun _ => ?_)
      clear hK K
      try simp only [Act.put, List.setIfInBounds_toArray, List.set_cons_zero, List.set_cons_succ]
      refine wpAnyH_ready (rs := [5]) (by kernel_rfl) (by simp) (AllReadyH.cons (o := ⟨_, _, _, _, _, _⟩) rfl (fun K hK => ?_) AllReadyH.nil)
      rewrite [if_pos (wanted_free rfl)]
      go_simp
      refine (mustYes _ wh).mono ?_
      rintro r w' ⟨rfl, rfl⟩
      go_wp2_with fail
      refine hK.out _ _ (KpM.get HKh (List.mem_cons_self ..)).lk (fun _ => ?_)
      clear hK K
      try simp only [Act.put, List.setIfInBounds_toArray, List.set_cons_zero, List.set_cons_succ]
      refine wpAnyH_done (by kernel_rfl) ?_ _
      have HKi := KpM.swap HKh
      clear HKg HKh hHeld
      go_wp2_with (first
        | (with_reducible refine wpList_loadV (w := wh) (by with_unfolding_all rfl) 49 (.tmp 3) (by with_unfolding_all rfl) GA (lkv v e x) (by with_unfolding_all rfl) (KpM.get HKi (List.mem_cons_of_mem _ (List.mem_cons_self ..))) Try.undLkI 3 Try.sizeLkI (by with_unfolding_all rfl) ?_)
        | (with_reducible refine wpList_storeH (w := wh) (by with_unfolding_all rfl) 49 (.tmp 2) (.tmp 23) (by with_unfolding_all rfl) w.heap.size (lkv 0 0 0) (lkv v e x) (by with_unfolding_all rfl) (by with_unfolding_all rfl) (KpM.get HKi (List.mem_cons_self ..)) 3 Try.sizeLkI (by with_unfolding_all rfl) (by with_unfolding_all rfl) (lkv_one _ _ _) ?_; intro wz hAz hBz hFz hSz; have HKz := KpM.putOf HKi hAz (lkv_ne _ _ _) (Only.set hBz hFz hSz)))
      exact bodyPost_ret (results_V (t := 49) rfl _ w.heap.size _ rfl hAz Try.undLkI 3 Try.sizeLkI rfl) rfl ⟨rfl, HKz.1, HKz.2⟩
  · as_aux_lemma =>
    rewrite [if_pos (wanted_free rfl)]
    with_reducible refine wp_allocV 49 (by with_unfolding_all rfl) (lkv 0 0 0) Try.infoLkz ?_
    intro Wa hAWa hBWa
    have HKWa := KpM.new HKW hAWa (lkv_ne _ _ _) hBWa
    refine hK.out _ _ trivial (fun _ => ?_)
    clear hK K
    try simp only [Act.put, List.setIfInBounds_toArray, List.set_cons_zero, List.set_cons_succ]
    refine wpAnyH_ready (rs := [3]) (by kernel_rfl) (by simp) (AllReadyH.cons (o := ⟨_, _, _, _, _, _⟩) rfl (fun K hK => ?_) AllReadyH.nil)
    rewrite [if_pos (wanted_free rfl)]
    go_simp
    refine (numYes g p b1 t v Wa hs hn1 (KpM.rowH HKWa)).mono ?_
    rintro e Wac ⟨rfl, hRWac, hOWac⟩
    have HKWac := KpM.read HKWa hRWac (cuv_ne _ _) hOWac
    go_wp2_with fail
    refine hK.out _ _ trivial (fun _ => ?_)
    clear hK K
    try simp only [Act.put, List.setIfInBounds_toArray, List.set_cons_zero, List.set_cons_succ]
    refine wpAnyH_ready (rs := [7]) (by kernel_rfl) (by simp) (AllReadyH.cons (o := ⟨_, _, _, _, _, _⟩) rfl (fun K hK => ?_) AllReadyH.nil)
    rewrite [if_pos (wanted_free rfl)]
    go_simp
    refine (numYes g b1 b2 t e Wac hs hn2 (KpM.rowH HKWac)).mono ?_
    rintro e Wacc ⟨rfl, hRWacc, hOWacc⟩
    have HKWacc := KpM.read HKWac hRWacc (cuv_ne _ _) hOWacc
    go_wp2_with fail
    refine hK.out _ _ trivial (fun _ => ?_)
    clear hK K
    try simp only [Act.put, List.setIfInBounds_toArray, List.set_cons_zero, List.set_cons_succ]
    refine wpAnyH_ready (rs := [11]) (by kernel_rfl) (by simp) (AllReadyH.cons (o := ⟨_, _, _, _, _, _⟩) rfl (fun K hK => ?_) AllReadyH.nil)
    rewrite [if_pos (wanted_free rfl)]
    go_simp
    refine (numYes g b2 b3 t x Wacc hs hn3 (KpM.rowH HKWacc)).mono ?_
    rintro e Waccc ⟨rfl, hRWaccc, hOWaccc⟩
    have HKWaccc := KpM.read HKWacc hRWaccc (cuv_ne _ _) hOWaccc
    go_wp2_with fail
    refine hK.out _ _ trivial (fun _ => ?_)
    clear hK K
    try simp only [Act.put, List.setIfInBounds_toArray, List.set_cons_zero, List.set_cons_succ]
    refine wpAnyH_take (i := 12) (oi := ⟨_, _, _, _, _, _⟩) (v := .agg #[.int .i64 v, .int .i64 e, .int .i64 x]) rfl (by kernel_rfl) (by kernel_rfl) (by kernel_rfl) (fun _ _ _ h => h) (Or.inl ⟨wanted_free rfl, fun w' hSw => ?_⟩) trivial ?_
    · go_simp
    try simp only [Act.put, List.setIfInBounds_toArray, List.set_cons_zero, List.set_cons_succ]
    refine wpAnyH_ready (rs := [14]) (by kernel_rfl) (by simp) (AllReadyH.cons (o := ⟨_, _, _, _, _, _⟩) rfl (fun K hK => ?_) AllReadyH.nil)
    rewrite [if_pos (wanted_free rfl)]
    with_reducible refine wp_storeV 49 (.tmp 3) (.tmp 16) (by with_unfolding_all rfl) W.heap.size (lkv 0 0 0) (lkv v e x) (by with_unfolding_all rfl) (by with_unfolding_all rfl) (KpM.get HKWaccc (List.mem_cons_self ..)) 3 Try.sizeLkI (by with_unfolding_all rfl) (by with_unfolding_all rfl) (lkv_one _ _ _) ?_
    intro wf hAf hOf
    have HKf := KpM.put HKWaccc (one_apart (KpM.apartN HKW) ) hAf (lkv_ne _ _ _) hOf
    refine hK.out _ _ trivial (fun _ => ?_)
    clear hK K
    refine wpAnyH_done (by kernel_rfl) ?_ _
    generalize W.heap.size = GA at *
    clear HKW HKWa HKWac HKWacc HKWaccc
    go_wp2_with fail
    have HKg := KpM.drew HKf
    clear HKf
    refine wp_region_held_drew (S := fun w' => w'.cell? ⟨GA, 0, none⟩ = some (.int .i64 v) ∧ w'.cell? ⟨GA, 1, none⟩ = some (.int .i64 e) ∧ w'.cell? ⟨GA, 2, none⟩ = some (.int .i64 x)) (by kernel_rfl) (KpM.get HKg (List.mem_cons_self ..)).lk (fun hHeld => ?_)
    refine wpAnyH_take (i := 0) (oi := ⟨_, _, _, _, _, _⟩) (v := .pointer (some ⟨g, 0, none⟩)) rfl (by kernel_rfl) (by kernel_rfl) (by kernel_rfl) (fun _ _ _ h => h) (Or.inl ⟨wanted_free rfl, fun w' hSw => ?_⟩) hHeld ?_
    · go_simp
    try simp only [Act.put, List.setIfInBounds_toArray, List.set_cons_zero, List.set_cons_succ]
    refine wpAnyH_take (i := 1) (oi := ⟨_, _, _, _, _, _⟩) (v := .pointer (some ⟨g, 0, none⟩)) rfl (by kernel_rfl) (by kernel_rfl) (by kernel_rfl) (fun _ _ _ h => h) (Or.inl ⟨wanted_free rfl, fun w' hSw => ?_⟩) hHeld ?_
    · go_simp
    try simp only [Act.put, List.setIfInBounds_toArray, List.set_cons_zero, List.set_cons_succ]
    refine wpAnyH_take (i := 2) (oi := ⟨_, _, _, _, _, _⟩) (v := .pointer (some ⟨g, 0, none⟩)) rfl (by kernel_rfl) (by kernel_rfl) (by kernel_rfl) (fun _ _ _ h => h) (Or.inl ⟨wanted_free rfl, fun w' hSw => ?_⟩) hHeld ?_
    · go_simp
    try simp only [Act.put, List.setIfInBounds_toArray, List.set_cons_zero, List.set_cons_succ]
    refine wpAnyH_take (i := 3) (oi := ⟨_, _, _, _, _, _⟩) (v := .agg #[.int .i64 v, .int .i64 e, .int .i64 x]) rfl (by kernel_rfl) (by kernel_rfl) (by kernel_rfl) (fun _ _ _ h => h) (Or.inl ⟨wanted_free rfl, fun w' hSw => ?_⟩) hHeld ?_
    · obtain ⟨s0, s1, s2⟩ := hSw
      go_simp
    try simp only [Act.put, List.setIfInBounds_toArray, List.set_cons_zero, List.set_cons_succ]
    generalize wf.drew = wg at *
    refine wpAnyH_ready (rs := [4]) (by kernel_rfl) (by simp) (AllReadyH.cons (o := ⟨_, _, _, _, _, _⟩) rfl (fun K hK => ?_) AllReadyH.nil)
    rewrite [if_pos (wanted_free rfl)]
    go_simp
    refine (hL wg).mono ?_
    rintro r wh ⟨rfl, hBh⟩
    have HKh := KpM.call HKg hBh
    go_wp2_with fail
    refine hK.out _ _ (KpM.get HKh (List.mem_cons_self ..)).lk (fun _ => ?_)
    clear hK K
    try simp only [Act.put, List.setIfInBounds_toArray, List.set_cons_zero, List.set_cons_succ]
    refine wpAnyH_ready (rs := [5]) (by kernel_rfl) (by simp) (AllReadyH.cons (o := ⟨_, _, _, _, _, _⟩) rfl (fun K hK => ?_) AllReadyH.nil)
    rewrite [if_pos (wanted_free rfl)]
    go_simp
    refine (mustYes _ wh).mono ?_
    rintro r w' ⟨rfl, rfl⟩
    go_wp2_with fail
    refine hK.out _ _ (KpM.get HKh (List.mem_cons_self ..)).lk (fun _ => ?_)
    clear hK K
    try simp only [Act.put, List.setIfInBounds_toArray, List.set_cons_zero, List.set_cons_succ]
    refine wpAnyH_done (by kernel_rfl) ?_ _
    have HKi := KpM.swap HKh
    clear HKg HKh hHeld
    go_wp2_with (first
      | (with_reducible refine wpList_loadV (w := wh) (by with_unfolding_all rfl) 49 (.tmp 3) (by with_unfolding_all rfl) GA (lkv v e x) (by with_unfolding_all rfl) (KpM.get HKi (List.mem_cons_of_mem _ (List.mem_cons_self ..))) Try.undLkI 3 Try.sizeLkI (by with_unfolding_all rfl) ?_)
      | (with_reducible refine wpList_storeH (w := wh) (by with_unfolding_all rfl) 49 (.tmp 2) (.tmp 23) (by with_unfolding_all rfl) w.heap.size (lkv 0 0 0) (lkv v e x) (by with_unfolding_all rfl) (by with_unfolding_all rfl) (KpM.get HKi (List.mem_cons_self ..)) 3 Try.sizeLkI (by with_unfolding_all rfl) (by with_unfolding_all rfl) (lkv_one _ _ _) ?_; intro wz hAz hBz hFz hSz; have HKz := KpM.putOf HKi hAz (lkv_ne _ _ _) (Only.set hBz hFz hSz)))
    exact bodyPost_ret (results_V (t := 49) rfl _ w.heap.size _ rfl hAz Try.undLkI 3 Try.sizeLkI rfl) rfl ⟨rfl, HKz.1, HKz.2⟩
end Go.Proofs.Ytnlalnkoggkdfaa
