/- The program's reader of targets. -/
import Derived.Test.YtmahpmjkejnkfaaTgR
import Derived.Test.YtmahpmjkejnkfaaLnI
import Derived.Test.YtmahpmjkejnkfaaSdO
namespace Go.Proofs.Ytmahpmjkejnkfaa
open Go.RowKit
set_option linter.unusedVariables false

theorem lenT1 {l : List TarV} {n : Nat} (h : Hid (l.length = n)) (y : TarV) : (l ++ [y]).length = n + 1 := by rw [List.length_append, h.out]; rfl
theorem rtv_ne0 : rtv 0 0 none 0 0 ≠ [] := by simp [rtv]
theorem rtv_neA {v e : Int} : rtv v e none 0 0 ≠ [] := by simp [rtv]
theorem bytesO_no {t : ByteArray} {p n : Nat} (h : bytesO t p n = none) : t.size < p + n := by
  unfold bytesO at h
  split at h
  · cases h
  · omega
theorem bytesO_yes {t x : ByteArray} {p n b : Nat} (h : bytesO t p n = some (x, b)) : x = t.extract p b ∧ p + n = b ∧ b ≤ t.size := by
  unfold bytesO at h
  split at h
  · injection h with h
    injection h with h1 h2
    subst h2
    exact ⟨h1.symm, rfl, by assumption⟩
  · cases h
theorem tarW {t a b : ByteArray} {c : Int} {p b1 b2 b3 : Nat} (hs : t.size ≤ maxLen) (h1 : textO t p = some (a, b1)) (h2 : bytesO t b1 32 = some (b, b2)) (h3 : numO t b2 = some (c, b3)) : TarV.w ⟨a, b, c⟩ := by
  refine ⟨Nat.le_trans (textO_some h1).2.2.1 hs, ?_, numO_i64 h3⟩
  obtain ⟨e, e2, e3⟩ := bytesO_yes h2
  show b.size ≤ maxLen
  rw [e, ByteArray.size_extract]
  omega
theorem wpList_appendTg3 {ops : Array Oper} {rest : List Oper} {W : World} {o : Oper} {a : Act} {Q : Exit → Act → World → Prop} (hg : o.guard = none) (s x : Operand) (ho : o.op = .call { callee := .builtin .append, args := #[s, x], argTypes := #[42, 42] })
    (base : Nat) (v : Value) (l : List TarV) (y : TarV) (hs : a.eval s = v) (hown : OwnTg W base v l) (B : Nat) (hx : a.eval x = .slice (some ⟨B, 0, none⟩) 1 1) (hB : RowV W B (tgv y.nm y.im y.sz)) (hn : l.length ≤ 1000) (hbase : base ≤ W.heap.size) (N : Nat) (hN : (l ++ [y]).length = N)
    (h : ∀ a' c' w', OwnTg w' base (.slice a' N c') (l ++ [y]) → W.grownBy w' v.ownBlock → ((Value.slice a' N c').ownBlock = v.ownBlock ∨ (Value.slice a' N c').ownBlock = some W.heap.size) → wpList Try.prog ops Q rest (a.put o.dst (.slice a' N c')) w') : wpList Try.prog ops Q (o :: rest) a W :=
  wpList_plain hg fun _ hK => wp_appendTg s x ho base v l y hs hown B hx hB hn hbase (fun v' w' h1 h2 h3 => by
    obtain ⟨a', c', rfl, -⟩ := OwnTg.form h1
    rw [hN] at h1 h3 ⊢
    exact hK _ _ (h a' c' w' h1 h2 h3))
section
variable {g : Nat} {r : List Value} {rows : List (Nat × List Value)} {v : Value} {l : List TarV} {w w' w2 : World}
theorem apartT (h : Hid (KpT g r rows v l w w')) : ∀ x ∈ rows, x.1 ≠ w'.heap.size := fun x hx => by
  obtain ⟨_, h2, h3⟩ := h.out.km.own x hx
  have := h3.lt h2
  omega
theorem newGV (h : Hid (KpT g r rows v l w w')) : w.heap.size ≤ w'.heap.size := h.out.km.only.size
theorem apartG {GA : Nat} {q : List Value} (h : w.heap.size < GA) : ∀ x ∈ [((w.heap.size, q) : Nat × List Value)], x.1 ≠ GA := fun x hx => by
  obtain rfl := List.mem_singleton.1 hx
  show w.heap.size ≠ GA
  omega
theorem celT {GA n c : Nat} {a : Option Addr} {v e : Int} {q : List (Nat × List Value)} {val : Value} (h : Hid (KpT g r ((GA, rtw v e (.slice a n c)) :: q) val l w w')) : w'.cell? ⟨GA, 0, none⟩ = some (.int .i64 v) ∧ w'.cell? ⟨GA, 1, none⟩ = some (.int .i64 e) ∧ w'.cell? ⟨GA, 2, none⟩ = some (.slice a n c) :=
  ⟨(KpT.get h (List.mem_cons_self ..)).cell (k := 0) rfl, (KpT.get h (List.mem_cons_self ..)).cell (k := 1) rfl, (KpT.get h (List.mem_cons_self ..)).cell (k := 2) rfl⟩
theorem KpT.done {GA : Nat} {q z : List Value} {t : ByteArray} {p : Nat} (h : Hid (KpT g (cuv t p) [(GA, q), (w.heap.size, z)] v l w w')) (ho : Only w.heap.size w' w2) : RowV w2 g (cuv t p) ∧ Only g w w2 ∧ OwnTg w2 w.heap.size v l := by
  have e := h.out.km.lt
  have hoff := h.out.off (w.heap.size, z) (List.mem_cons_of_mem _ (List.mem_cons_self ..))
  refine ⟨ho.row h.out.km.row h.out.km.ne (by omega), ⟨h.out.km.only.below.trans (ho.below.mono (by omega)), fun k hk hl => (ho.blk k (by omega) (Nat.lt_of_lt_of_le hl h.out.km.only.size)).trans (h.out.km.only.blk k hk hl), Nat.le_trans h.out.km.only.size ho.size⟩, own_same h.out.own (fun k hk hl => ho.blk k (fun e => hoff (by rw [hk, e])) hl)⟩
end
/- What the reader tells. -/
def SdT (t : ByteArray) (g : Nat) (R : Option (Int × Int × List TarV × Nat)) (w : World) (r : Ending) (w' : World) : Prop :=
  (∃ x y l q v, R = some (x, y, l, q) ∧ r = .returned (.agg #[.int .i64 x, .int .i64 y, v]) ∧ RowV w' g (cuv t q) ∧ Only g w w' ∧ OwnTg w' w.heap.size v l) ∨ (R = none ∧ r = .panicked [{ v := faultV, recovered := false }] ∧ Only g w w')
set_option maxRecDepth 100000 in
set_option maxHeartbeats 4000000 in
theorem tdN0 (g p : Nat) (t : ByteArray) (w : World) (hs : t.size ≤ maxLen) (hp : p ≤ t.size) (R : Option (Int × Int × List TarV × Nat)) (hn1 : numO t p = none) (hl1 : p ≤ t.size) (HNo : Hid (R = none)) (h : RowV w g (cuv t p)) :
    Calls Try.prog 55 #[.pointer (some ⟨g, 0, none⟩)] w (SdT t g R w) := by
  have HR : Hid (RowV w g (cuv t p)) := h
  clear h
  go_enter Try.func55, Try.ntmps55
  go_wp2_with (first
    | (with_reducible refine wpList_allocV (w := w) (by with_unfolding_all rfl) 44 (by with_unfolding_all rfl) (rtv 0 0 none 0 0) Try.infoTsz ?_; intro wv hAv hBv hSv; have HKv := KpM.new (KpM.start HR.out (cuv_ne _ _)) hAv rtv_ne0 hBv; clear hSv hAv hBv))
  refine wp_region_held_drew (S := fun _ => True) (by kernel_rfl) trivial (fun _ => ?_)
  refine wpAnyH_take (i := 0) (oi := ⟨_, _, _, _, _, _⟩) (v := .pointer (some ⟨g, 0, none⟩)) rfl (by kernel_rfl) (by kernel_rfl) (by kernel_rfl) (fun _ _ _ h => h) (Or.inl ⟨wanted_free rfl, fun w' hSw => ?_⟩) trivial ?_
  · go_simp
  try simp only [Act.put, List.setIfInBounds_toArray, List.set_cons_zero, List.set_cons_succ]
  refine wpAnyH_take (i := 1) (oi := ⟨_, _, _, _, _, _⟩) (v := .pointer (some ⟨g, 0, none⟩)) rfl (by kernel_rfl) (by kernel_rfl) (by kernel_rfl) (fun _ _ _ h => h) (Or.inl ⟨wanted_free rfl, fun w' hSw => ?_⟩) trivial ?_
  · go_simp
  try simp only [Act.put, List.setIfInBounds_toArray, List.set_cons_zero, List.set_cons_succ]
  refine wpAnyH_take (i := 2) (oi := ⟨_, _, _, _, _, _⟩) (v := .pointer (some ⟨g, 0, none⟩)) rfl (by kernel_rfl) (by kernel_rfl) (by kernel_rfl) (fun _ _ _ h => h) (Or.inl ⟨wanted_free rfl, fun w' hSw => ?_⟩) trivial ?_
  · go_simp
  try simp only [Act.put, List.setIfInBounds_toArray, List.set_cons_zero, List.set_cons_succ]
  refine wpAnyH_take (i := 4) (oi := ⟨_, _, _, _, _, _⟩) (v := .pointer (some ⟨g, 0, none⟩)) rfl (by kernel_rfl) (by kernel_rfl) (by kernel_rfl) (fun _ _ _ h => h) (Or.inl ⟨wanted_free rfl, fun w' hSw => ?_⟩) trivial ?_
  · go_simp
  try simp only [Act.put, List.setIfInBounds_toArray, List.set_cons_zero, List.set_cons_succ]
  refine wpAnyH_take (i := 5) (oi := ⟨_, _, _, _, _, _⟩) (v := .pointer (some ⟨g, 0, none⟩)) rfl (by kernel_rfl) (by kernel_rfl) (by kernel_rfl) (fun _ _ _ h => h) (Or.inl ⟨wanted_free rfl, fun w' hSw => ?_⟩) trivial ?_
  · go_simp
  try simp only [Act.put, List.setIfInBounds_toArray, List.set_cons_zero, List.set_cons_succ]
  refine wpAnyH_take (i := 6) (oi := ⟨_, _, _, _, _, _⟩) (v := .pointer (some ⟨g, 0, none⟩)) rfl (by kernel_rfl) (by kernel_rfl) (by kernel_rfl) (fun _ _ _ h => h) (Or.inl ⟨wanted_free rfl, fun w' hSw => ?_⟩) trivial ?_
  · go_simp
  try simp only [Act.put, List.setIfInBounds_toArray, List.set_cons_zero, List.set_cons_succ]
  have HKW := KpM.drew HKv
  generalize wv.drew = W at *
  refine wpAnyH_ready (rs := [3, 9]) (by kernel_rfl) (by simp) (AllReadyH.cons (o := ⟨_, _, _, _, _, _⟩) rfl (fun K hK => ?_) (AllReadyH.cons (o := ⟨_, _, _, _, _, _⟩) rfl (fun K hK => ?_) AllReadyH.nil))
  · as_aux_lemma =>
    rewrite [if_pos (wanted_free rfl)]
    go_simp
    refine (numNo g p t W hs hn1 hl1 (KpM.rowH HKW)).mono ?_
    rintro e Wc ⟨rfl, hOWc⟩
    exact ⟨rfl, Or.inr ⟨HNo.out, rfl, HKW.out.only.trans hOWc⟩⟩
  · as_aux_lemma =>
    rewrite [if_pos (wanted_free rfl)]
    with_reducible refine wp_allocV 44 (by with_unfolding_all rfl) (rtv 0 0 none 0 0) Try.infoTsz ?_
    intro Wa hAWa hBWa
    have HKWa := KpM.new HKW hAWa rtv_ne0 hBWa
    refine hK.out _ _ trivial (fun _ => ?_)
    clear hK K
    try simp only [Act.put, List.setIfInBounds_toArray, List.set_cons_zero, List.set_cons_succ]
    refine wpAnyH_ready (rs := [3]) (by kernel_rfl) (by simp) (AllReadyH.cons (o := ⟨_, _, _, _, _, _⟩) rfl (fun K hK => ?_) AllReadyH.nil)
    rewrite [if_pos (wanted_free rfl)]
    go_simp
    refine (numNo g p t Wa hs hn1 hl1 (KpM.rowH HKWa)).mono ?_
    rintro e Wac ⟨rfl, hOWac⟩
    exact ⟨rfl, Or.inr ⟨HNo.out, rfl, HKWa.out.only.trans hOWac⟩⟩
set_option maxRecDepth 100000 in
set_option maxHeartbeats 4000000 in
theorem tdN1 (g p : Nat) (t : ByteArray) (w : World) (hs : t.size ≤ maxLen) (hp : p ≤ t.size) (R : Option (Int × Int × List TarV × Nat)) (v : Int) (b1 : Nat) (hn1 : numO t p = some (v, b1) ∧ p ≤ t.size) (hn2 : numO t b1 = none) (hl2 : b1 ≤ t.size) (HNo : Hid (R = none)) (h : RowV w g (cuv t p)) :
    Calls Try.prog 55 #[.pointer (some ⟨g, 0, none⟩)] w (SdT t g R w) := by
  have HR : Hid (RowV w g (cuv t p)) := h
  clear h
  go_enter Try.func55, Try.ntmps55
  go_wp2_with (first
    | (with_reducible refine wpList_allocV (w := w) (by with_unfolding_all rfl) 44 (by with_unfolding_all rfl) (rtv 0 0 none 0 0) Try.infoTsz ?_; intro wv hAv hBv hSv; have HKv := KpM.new (KpM.start HR.out (cuv_ne _ _)) hAv rtv_ne0 hBv; clear hSv hAv hBv))
  refine wp_region_held_drew (S := fun _ => True) (by kernel_rfl) trivial (fun _ => ?_)
  refine wpAnyH_take (i := 0) (oi := ⟨_, _, _, _, _, _⟩) (v := .pointer (some ⟨g, 0, none⟩)) rfl (by kernel_rfl) (by kernel_rfl) (by kernel_rfl) (fun _ _ _ h => h) (Or.inl ⟨wanted_free rfl, fun w' hSw => ?_⟩) trivial ?_
  · go_simp
  try simp only [Act.put, List.setIfInBounds_toArray, List.set_cons_zero, List.set_cons_succ]
  refine wpAnyH_take (i := 1) (oi := ⟨_, _, _, _, _, _⟩) (v := .pointer (some ⟨g, 0, none⟩)) rfl (by kernel_rfl) (by kernel_rfl) (by kernel_rfl) (fun _ _ _ h => h) (Or.inl ⟨wanted_free rfl, fun w' hSw => ?_⟩) trivial ?_
  · go_simp
  try simp only [Act.put, List.setIfInBounds_toArray, List.set_cons_zero, List.set_cons_succ]
  refine wpAnyH_take (i := 2) (oi := ⟨_, _, _, _, _, _⟩) (v := .pointer (some ⟨g, 0, none⟩)) rfl (by kernel_rfl) (by kernel_rfl) (by kernel_rfl) (fun _ _ _ h => h) (Or.inl ⟨wanted_free rfl, fun w' hSw => ?_⟩) trivial ?_
  · go_simp
  try simp only [Act.put, List.setIfInBounds_toArray, List.set_cons_zero, List.set_cons_succ]
  refine wpAnyH_take (i := 4) (oi := ⟨_, _, _, _, _, _⟩) (v := .pointer (some ⟨g, 0, none⟩)) rfl (by kernel_rfl) (by kernel_rfl) (by kernel_rfl) (fun _ _ _ h => h) (Or.inl ⟨wanted_free rfl, fun w' hSw => ?_⟩) trivial ?_
  · go_simp
  try simp only [Act.put, List.setIfInBounds_toArray, List.set_cons_zero, List.set_cons_succ]
  refine wpAnyH_take (i := 5) (oi := ⟨_, _, _, _, _, _⟩) (v := .pointer (some ⟨g, 0, none⟩)) rfl (by kernel_rfl) (by kernel_rfl) (by kernel_rfl) (fun _ _ _ h => h) (Or.inl ⟨wanted_free rfl, fun w' hSw => ?_⟩) trivial ?_
  · go_simp
  try simp only [Act.put, List.setIfInBounds_toArray, List.set_cons_zero, List.set_cons_succ]
  refine wpAnyH_take (i := 6) (oi := ⟨_, _, _, _, _, _⟩) (v := .pointer (some ⟨g, 0, none⟩)) rfl (by kernel_rfl) (by kernel_rfl) (by kernel_rfl) (fun _ _ _ h => h) (Or.inl ⟨wanted_free rfl, fun w' hSw => ?_⟩) trivial ?_
  · go_simp
  try simp only [Act.put, List.setIfInBounds_toArray, List.set_cons_zero, List.set_cons_succ]
  have HKW := KpM.drew HKv
  generalize wv.drew = W at *
  refine wpAnyH_ready (rs := [3, 9]) (by kernel_rfl) (by simp) (AllReadyH.cons (o := ⟨_, _, _, _, _, _⟩) rfl (fun K hK => ?_) (AllReadyH.cons (o := ⟨_, _, _, _, _, _⟩) rfl (fun K hK => ?_) AllReadyH.nil))
  · as_aux_lemma =>
    rewrite [if_pos (wanted_free rfl)]
    go_simp
    refine (numYes g p b1 t v W hs hn1 (KpM.rowH HKW)).mono ?_
    rintro e Wc ⟨rfl, hRWc, hOWc⟩
    have HKWc := KpM.read HKW hRWc (cuv_ne _ _) hOWc
    go_wp2_with fail
    refine hK.out _ _ trivial (fun _ => ?_)
    clear hK K
    try simp only [Act.put, List.setIfInBounds_toArray, List.set_cons_zero, List.set_cons_succ]
    refine wpAnyH_ready (rs := [7, 9]) (by kernel_rfl) (by simp) (AllReadyH.cons (o := ⟨_, _, _, _, _, _⟩) rfl (fun K hK => ?_) (AllReadyH.cons (o := ⟨_, _, _, _, _, _⟩) rfl (fun K hK => ?_) AllReadyH.nil))
    · as_aux_lemma =>
      rewrite [if_pos (wanted_free rfl)]
      go_simp
      refine (numNo g b1 t Wc hs hn2 hl2 (KpM.rowH HKWc)).mono ?_
      rintro e Wcc ⟨rfl, hOWcc⟩
      exact ⟨rfl, Or.inr ⟨HNo.out, rfl, HKWc.out.only.trans hOWcc⟩⟩
    · as_aux_lemma =>
      rewrite [if_pos (wanted_free rfl)]
      with_reducible refine wp_allocV 44 (by with_unfolding_all rfl) (rtv 0 0 none 0 0) Try.infoTsz ?_
      intro Wca hAWca hBWca
      have HKWca := KpM.new HKWc hAWca rtv_ne0 hBWca
      refine hK.out _ _ trivial (fun _ => ?_)
      clear hK K
      try simp only [Act.put, List.setIfInBounds_toArray, List.set_cons_zero, List.set_cons_succ]
      refine wpAnyH_ready (rs := [7]) (by kernel_rfl) (by simp) (AllReadyH.cons (o := ⟨_, _, _, _, _, _⟩) rfl (fun K hK => ?_) AllReadyH.nil)
      rewrite [if_pos (wanted_free rfl)]
      go_simp
      refine (numNo g b1 t Wca hs hn2 hl2 (KpM.rowH HKWca)).mono ?_
      rintro e Wcac ⟨rfl, hOWcac⟩
      exact ⟨rfl, Or.inr ⟨HNo.out, rfl, HKWca.out.only.trans hOWcac⟩⟩
  · as_aux_lemma =>
    rewrite [if_pos (wanted_free rfl)]
    with_reducible refine wp_allocV 44 (by with_unfolding_all rfl) (rtv 0 0 none 0 0) Try.infoTsz ?_
    intro Wa hAWa hBWa
    have HKWa := KpM.new HKW hAWa rtv_ne0 hBWa
    refine hK.out _ _ trivial (fun _ => ?_)
    clear hK K
    try simp only [Act.put, List.setIfInBounds_toArray, List.set_cons_zero, List.set_cons_succ]
    refine wpAnyH_ready (rs := [3]) (by kernel_rfl) (by simp) (AllReadyH.cons (o := ⟨_, _, _, _, _, _⟩) rfl (fun K hK => ?_) AllReadyH.nil)
    rewrite [if_pos (wanted_free rfl)]
    go_simp
    refine (numYes g p b1 t v Wa hs hn1 (KpM.rowH HKWa)).mono ?_
    rintro e Wac ⟨rfl, hRWac, hOWac⟩
    have HKWac := KpM.read HKWa hRWac (cuv_ne _ _) hOWac
    go_wp2_with fail
    refine hK.out _ _ trivial (fun _ => ?_)
    clear hK K
    try simp only [Act.put, List.setIfInBounds_toArray, List.set_cons_zero, List.set_cons_succ]
    refine wpAnyH_ready (rs := [7]) (by kernel_rfl) (by simp) (AllReadyH.cons (o := ⟨_, _, _, _, _, _⟩) rfl (fun K hK => ?_) AllReadyH.nil)
    rewrite [if_pos (wanted_free rfl)]
    go_simp
    refine (numNo g b1 t Wac hs hn2 hl2 (KpM.rowH HKWac)).mono ?_
    rintro e Wacc ⟨rfl, hOWacc⟩
    exact ⟨rfl, Or.inr ⟨HNo.out, rfl, HKWac.out.only.trans hOWacc⟩⟩
end Go.Proofs.Ytmahpmjkejnkfaa
