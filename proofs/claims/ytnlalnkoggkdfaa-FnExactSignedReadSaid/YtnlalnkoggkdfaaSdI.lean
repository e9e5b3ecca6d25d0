/- The program's reader of what is signed. -/
import Derived.Test.YtnlalnkoggkdfaaSdO
namespace Go.Proofs.Ytnlalnkoggkdfaa
open Go.RowKit
set_option linter.unusedVariables false

theorem wp_cellO {P : Program} {o : Oper} {a : Act} {w : World} {K : Act → World → Prop} {Q : Exit → Act → World → Prop} (t : TypeId) (x y : Operand) (ho : o.op = .store t x y) (g k : Nat) (l l' : List Value) (v : Value)
    (hx : a.eval x = .pointer (some ⟨g, k, none⟩)) (hy : a.eval y = v) (hp : plainV v = true) (hi : (P.info? t).map (·.size) = some 1) (hl : RowV w g l) (hk : k < l.length) (hl' : l' = l.set k v)
    (h : ∀ w', RowV w' g l' → Only g w w' → K (a.put o.dst undef) w') : o.wp P a w K Q := by
  have hc : w.cell? ⟨g, k, none⟩ = some l[k] := hl.cell (List.getElem?_eq_getElem hk)
  have hf : w.frozen? ⟨g, k, none⟩ = false := hl.frozen hk
  have hh := h _ (hl.setAt hk hl') (Only.set (fun B hB => (Below.refl B w).setCell hB v) (fun j hj => Below.heap_setCell _ _ _ _ hj) (World.size_setCell ..))
  generalize l[k] = u at hc
  obtain ⟨ti, hti, hts⟩ := Option.map_eq_some_iff.1 hi
  cases v with
  | int kd n =>
    simp only [Oper.wp, execOp, ho, hx, hy, Instr.storeAt, Instr.sureAddr, Sem.run_bind, Sem.run_pure, Result.andThen_ok]
    simp [go_sem, hc, hf, hti, hts, storeCells, sizeOf, typeInfo]
    exact hh
  | string s =>
    simp only [Oper.wp, execOp, ho, hx, hy, Instr.storeAt, Instr.sureAddr, Sem.run_bind, Sem.run_pure, Result.andThen_ok]
    simp [go_sem, hc, hf, hti, hts, storeCells, sizeOf, typeInfo]
    exact hh
  | slice p n c =>
    simp only [Oper.wp, execOp, ho, hx, hy, Instr.storeAt, Instr.sureAddr, Sem.run_bind, Sem.run_pure, Result.andThen_ok]
    simp [go_sem, hc, hf, hti, hts, storeCells, sizeOf, typeInfo]
    exact hh
  | _ => simp [plainV] at hp
theorem wp_load1 {P : Program} {o : Oper} {a : Act} {w : World} {K : Act → World → Prop} {Q : Exit → Act → World → Prop} (t e : TypeId) (x : Operand) (ho : o.op = .load t x) (g k : Nat) (v : Value) (hx : a.eval x = .pointer (some ⟨g, k, none⟩)) (hc : w.cell? ⟨g, k, none⟩ = some v) (ht : P.underlying t = some (.slice e))
    (h : K (a.put o.dst v) w) : o.wp P a w K Q := by
  have h2 : (loadVar t ⟨g, k, none⟩).run P w = .ok v w := by simp [loadVar, isAgg, run_underlying ht, go_sem, hc]
  unfold Oper.wp execOp
  simp only [ho, hx, Instr.loadAt, Instr.sureAddr, Sem.run_bind, Sem.run_pure, Result.andThen_ok, h2]
  exact h
theorem KpSd.start {w w' : World} {g GA p : Nat} {t x : ByteArray} (h : Hid (KpM g (cuv t p) [(GA, sgv x none 0 0), (w.heap.size, sgv ⟨#[]⟩ none 0 0)] w w')) (hz : w.heap.size < GA) : Hid (KpSd w g w.heap.size GA t p x (.slice none 0 0) (.slice none 0 0) [] w') :=
  ⟨h.out.only, h.out.row, (h.out.own _ (List.mem_cons_of_mem _ (List.mem_cons_self ..))).2.2, (h.out.own _ (List.mem_cons_self ..)).2.2, ⟨rfl, .inl ⟨rfl, rfl⟩⟩, h.out.lt, Nat.le_refl _, Nat.le_of_lt hz, Nat.ne_of_lt hz, by simp [Value.ownBlock], by simp [Value.ownBlock]⟩
theorem KpSd.szH {w w' : World} {g G2 G3 p : Nat} {t x : ByteArray} {vr v : Value} {l : List SigV} (h : Hid (KpSd w g G2 G3 t p x vr v l w')) : w.heap.size ≤ w'.heap.size := h.out.only.size
theorem KpSd.r3H {w w' : World} {g G2 G3 p : Nat} {t x : ByteArray} {vr v : Value} {l : List SigV} (h : Hid (KpSd w g G2 G3 t p x vr v l w')) : RowV w' G3 (sdv x vr) := h.out.r3
theorem KpSd.r2H {w w' : World} {g G2 G3 p : Nat} {t x : ByteArray} {vr v : Value} {l : List SigV} (h : Hid (KpSd w g G2 G3 t p x vr v l w')) : RowV w' G2 (sgv ⟨#[]⟩ none 0 0) := h.out.r2
theorem KpSd.done {w w' w2 : World} {g G3 p : Nat} {t x : ByteArray} {vr v : Value} {l : List SigV} (h : Hid (KpSd w g w.heap.size G3 t p x vr v l w')) (ho : Only w.heap.size w' w2) : RowV w2 g (cuv t p) ∧ Only g w w2 ∧ OwnSg w2 w.heap.size v l := by
  have e := h.out.lg
  refine ⟨ho.row h.out.cur (cuv_ne _ _) (by omega), ⟨h.out.only.below.trans (ho.below.mono (by omega)), fun k hk hl => (ho.blk k (by omega) (Nat.lt_of_lt_of_le hl h.out.only.size)).trans (h.out.only.blk k hk hl), Nat.le_trans h.out.only.size ho.size⟩, own_same h.out.own (fun k hk hl => ho.blk k (fun e => h.out.n2 (by rw [hk, e])) hl)⟩
/- What the reader tells. -/
def SdPost (t : ByteArray) (g : Nat) (R : Option (ByteArray × List SigV × Nat)) (w : World) (r : Ending) (w' : World) : Prop :=
  (∃ x l q v, R = some (x, l, q) ∧ r = .returned (.agg #[.string x, v]) ∧ RowV w' g (cuv t q) ∧ Only g w w' ∧ OwnSg w' w.heap.size v l) ∨ (R = none ∧ r = .panicked [{ v := faultV, recovered := false }] ∧ Only g w w')
set_option maxRecDepth 100000 in
set_option maxHeartbeats 4000000 in
theorem sdN0 (g p : Nat) (t : ByteArray) (w : World) (hs : t.size ≤ maxLen) (hp : p ≤ t.size) (R : Option (ByteArray × List SigV × Nat)) (hx : textO t p = none) (HNo : Hid (R = none)) (h : RowV w g (cuv t p)) :
    Calls Try.prog 90 #[.pointer (some ⟨g, 0, none⟩)] w (SdPost t g R w) := by
  have HR : Hid (RowV w g (cuv t p)) := h
  clear h
  go_enter Try.func90, Try.ntmps90
  go_wp2_with (first
    | (with_reducible refine wpList_allocV (w := w) (by with_unfolding_all rfl) 59 (by with_unfolding_all rfl) (sgv ⟨#[]⟩ none 0 0) Try.infoSd ?_; intro wv hAv hBv hSv; have HKv := KpM.new (KpM.start HR.out (cuv_ne _ _)) hAv (sgv_ne _ _ _ _) hBv; clear hSv hAv hBv)
    | (go_at_call 130; refine (textNo g p t wv hs hx hp (KpM.rowH HKv)).mono ?_; rintro e wt ⟨rfl, hOt⟩))
  exact ⟨rfl, Or.inr ⟨HNo.out, rfl, HKv.out.only.trans hOt⟩⟩
set_option maxRecDepth 100000 in
set_option maxHeartbeats 4000000 in
theorem sdN1 (g p : Nat) (t : ByteArray) (w : World) (hs : t.size ≤ maxLen) (hp : p ≤ t.size) (R : Option (ByteArray × List SigV × Nat)) (x : ByteArray) (b1 : Nat) (hx : textO t p = some (x, b1) ∧ p ≤ t.size) (hb1 : b1 ≤ t.size) (hc : countO t b1 16 = none) (HNo : Hid (R = none)) (h : RowV w g (cuv t p)) :
    Calls Try.prog 90 #[.pointer (some ⟨g, 0, none⟩)] w (SdPost t g R w) := by
  have HR : Hid (RowV w g (cuv t p)) := h
  clear h
  go_enter Try.func90, Try.ntmps90
  go_wp2_with (first
    | (with_reducible refine wpList_allocV (w := w) (by with_unfolding_all rfl) 59 (by with_unfolding_all rfl) (sgv ⟨#[]⟩ none 0 0) Try.infoSd ?_; intro wv hAv hBv hSv; have HKv := KpM.new (KpM.start HR.out (cuv_ne _ _)) hAv (sgv_ne _ _ _ _) hBv; clear hSv hAv hBv)
    | (go_at_call 130; refine (textYes g p b1 t x wv hs hx (KpM.rowH HKv)).mono ?_; rintro e wt ⟨rfl, hRt, hOt⟩; have HKt := KpM.read HKv hRt (cuv_ne _ _) hOt)
    | (with_reducible refine wpList_allocV (w := wt) (by with_unfolding_all rfl) 59 (by with_unfolding_all rfl) (sgv ⟨#[]⟩ none 0 0) Try.infoSd ?_; intro wa hAa hBa hSa; clear hSa; have HKa := KpM.new HKt hAa (sgv_ne _ _ _ _) hBa)
    | (with_reducible refine wpList_storeH (w := wa) (by with_unfolding_all rfl) 59 (.tmp 3) (.tmp 8) (by with_unfolding_all rfl) wt.heap.size (sgv ⟨#[]⟩ none 0 0) (sgv x none 0 0) (by with_unfolding_all rfl) (by with_unfolding_all rfl) hAa 2 Try.sizeSd (by with_unfolding_all rfl) (by with_unfolding_all rfl) (sgv_one _ _ _ _) ?_; intro wf hAf hBf hFf hSf; have HKf := KpM.put HKa (one_apart (KpM.apartN HKt)) hAf (sgv_ne _ _ _ _) (Only.set hBf hFf hSf); have zGA := KpM.apartN HKt; have HS0 := KpSd.start HKf zGA))
  clear HKf HKa HKt HKv hAf hBf hFf hSf hAa hBa hRt hOt
  generalize wt.heap.size = GA at *
  go_wp2_with (first
    | (go_at_call 131; refine (countNo g b1 16 t wf hs hc hb1 (KpSd.curH HS0)).mono ?_; rintro e wg ⟨rfl, hOg⟩))
  exact ⟨rfl, Or.inr ⟨HNo.out, rfl, HS0.out.only.trans hOg⟩⟩
set_option maxRecDepth 100000 in
set_option maxHeartbeats 4000000 in
theorem sdMain (g p : Nat) (t : ByteArray) (w : World) (hs : t.size ≤ maxLen) (hp : p ≤ t.size) (R : Option (ByteArray × List SigV × Nat)) (x : ByteArray) (b1 b2 k : Nat) (hx : textO t p = some (x, b1) ∧ p ≤ t.size) (hxs : x.size ≤ 20000) (hb1 : b1 ≤ t.size) (hc : countO t b1 16 = some (k, b2)) (hb2 : b2 ≤ t.size) (hk16 : k ≤ 16) (HF : Hid (R = restO t x [] (k - 0) b2)) (h : RowV w g (cuv t p)) :
    Calls Try.prog 90 #[.pointer (some ⟨g, 0, none⟩)] w (SdPost t g R w) := by
  have HR : Hid (RowV w g (cuv t p)) := h
  clear h
  go_enter Try.func90, Try.ntmps90
  go_wp2_with (first
    | (with_reducible refine wpList_allocV (w := w) (by with_unfolding_all rfl) 59 (by with_unfolding_all rfl) (sgv ⟨#[]⟩ none 0 0) Try.infoSd ?_; intro wv hAv hBv hSv; have HKv := KpM.new (KpM.start HR.out (cuv_ne _ _)) hAv (sgv_ne _ _ _ _) hBv; clear hSv hAv hBv)
    | (go_at_call 130; refine (textYes g p b1 t x wv hs hx (KpM.rowH HKv)).mono ?_; rintro e wt ⟨rfl, hRt, hOt⟩; have HKt := KpM.read HKv hRt (cuv_ne _ _) hOt)
    | (with_reducible refine wpList_allocV (w := wt) (by with_unfolding_all rfl) 59 (by with_unfolding_all rfl) (sgv ⟨#[]⟩ none 0 0) Try.infoSd ?_; intro wa hAa hBa hSa; clear hSa; have HKa := KpM.new HKt hAa (sgv_ne _ _ _ _) hBa)
    | (with_reducible refine wpList_storeH (w := wa) (by with_unfolding_all rfl) 59 (.tmp 3) (.tmp 8) (by with_unfolding_all rfl) wt.heap.size (sgv ⟨#[]⟩ none 0 0) (sgv x none 0 0) (by with_unfolding_all rfl) (by with_unfolding_all rfl) hAa 2 Try.sizeSd (by with_unfolding_all rfl) (by with_unfolding_all rfl) (sgv_one _ _ _ _) ?_; intro wf hAf hBf hFf hSf; have HKf := KpM.put HKa (one_apart (KpM.apartN HKt)) hAf (sgv_ne _ _ _ _) (Only.set hBf hFf hSf); have zGA := KpM.apartN HKt; have HS0 := KpSd.start HKf zGA))
  clear HKf HKa HKt HKv hAf hBf hFf hSf hAa hBa hRt hOt
  generalize wt.heap.size = GA at *
  go_wp2_with (first
    | (go_at_call 131; refine (countYes g b1 b2 16 k t wf hs ⟨hc, hb1⟩ (KpSd.curH HS0)).mono ?_; rintro e wg ⟨rfl, hRg, hOg⟩; have HS1 := KpSd.num HS0 hRg hOg))
  clear HS0 hRg hOg
  go_loopw [13] (fun vi wr => ∃ (i p' : Nat) (v : Value) (l1 : List SigV), vi = .int .i64 (i : Int) ∧ i ≤ k ∧ p' ≤ t.size ∧ Hid (l1.length = i) ∧ Hid (∀ y ∈ l1, y.w) ∧ Hid (R = restO t x l1 (k - i) p') ∧ Hid (KpSd w g w.heap.size GA t p' x v v l1 wr)) (fun vi _ => k - (intOf vi).toNat)
  case atStart => exact ⟨0, b2, .slice none 0 0, [], rfl, Nat.zero_le _, hb2, rfl, fun y hy => (by cases hy), HF, HS1⟩
  case round =>
  clear HS1
  obtain ⟨i, p', v, l1, rfl, hi, hpp, HLn, HWl, HRr, HS⟩ := hrel
  by_cases hlt : i < k
  case neg =>
    obtain rfl : i = k := by omega
    have HRe : Hid (R = if signedB x l1 then some (x, l1, p') else none) := by show _ = _; rw [HRr.out, Nat.sub_self, restO_end]
    have hat0 := OwnSg.form HS.out.own
    obtain ⟨a, c, rfl, hat⟩ := hat0
    have hatW : SgsAt wr.drew a l1 := hat
    have hSg : ∀ w0, SgsAt w0 a l1 → Calls Try.prog 82 #[.agg #[.string x, .slice a l1.length c]] w0 fun r w' => r = .returned (.bool (signedB x l1)) ∧ Below w0.heap.size w0 w' := fun w0 h0 => implSigned x a c _ l1 w0 rfl h0 (by have := HLn.out; unfold maxLen; omega) (by unfold maxLen; omega) HWl.out
    clear hat
    obtain ⟨n, hnn⟩ : ∃ n, l1.length = n := ⟨_, rfl⟩
    have HNn : Hid (l1.length = n) := hnn
    rw [hnn] at hSg HS
    clear hnn
    cases hb : signedB x l1 with
    | false =>
      as_aux_lemma =>
      have HNo : Hid (R = none) := by show _ = _; rw [HRe.out, hb]; rfl
      rw [hb] at hSg
      clear HRe HRr
      go_wp2_with fail
      refine wp_region_held_drew (S := fun w' => w'.cell? ⟨GA, 0, none⟩ = some (.string x) ∧ w'.cell? ⟨GA, 1, none⟩ = some (.slice a n c)) (by kernel_rfl) (KpSd.cell (KpSd.drew HS)) (fun hHeld => ?_)
      refine wpAnyH_take (i := 0) (oi := ⟨_, _, _, _, _, _⟩) (v := .pointer (some ⟨g, 0, none⟩)) rfl (by kernel_rfl) (by kernel_rfl) (by kernel_rfl) (fun _ _ _ h => h) (Or.inl ⟨wanted_free rfl, fun w' hSw => ?_⟩) hHeld ?_
      · obtain ⟨s0, s1⟩ := hSw
        go_simp
      try simp only [Act.put, List.setIfInBounds_toArray, List.set_cons_zero, List.set_cons_succ]
      refine wpAnyH_take (i := 1) (oi := ⟨_, _, _, _, _, _⟩) (v := .pointer (some ⟨g, 0, none⟩)) rfl (by kernel_rfl) (by kernel_rfl) (by kernel_rfl) (fun _ _ _ h => h) (Or.inl ⟨wanted_free rfl, fun w' hSw => ?_⟩) hHeld ?_
      · obtain ⟨s0, s1⟩ := hSw
        go_simp
      try simp only [Act.put, List.setIfInBounds_toArray, List.set_cons_zero, List.set_cons_succ]
      refine wpAnyH_take (i := 2) (oi := ⟨_, _, _, _, _, _⟩) (v := .pointer (some ⟨g, 0, none⟩)) rfl (by kernel_rfl) (by kernel_rfl) (by kernel_rfl) (fun _ _ _ h => h) (Or.inl ⟨wanted_free rfl, fun w' hSw => ?_⟩) hHeld ?_
      · obtain ⟨s0, s1⟩ := hSw
        go_simp
      try simp only [Act.put, List.setIfInBounds_toArray, List.set_cons_zero, List.set_cons_succ]
      refine wpAnyH_take (i := 3) (oi := ⟨_, _, _, _, _, _⟩) (v := .agg #[.string x, .slice a n c]) rfl (by kernel_rfl) (by kernel_rfl) (by kernel_rfl) (fun _ _ _ h => h) (Or.inl ⟨wanted_free rfl, fun w' hSw => ?_⟩) hHeld ?_
      · obtain ⟨s0, s1⟩ := hSw
        go_simp
      try simp only [Act.put, List.setIfInBounds_toArray, List.set_cons_zero, List.set_cons_succ]
      have HSW := KpSd.drew HS
      generalize wr.drew = W at *
      clear HS
      refine wpAnyH_ready (rs := [4]) (by kernel_rfl) (by simp) (AllReadyH.cons (o := ⟨_, _, _, _, _, _⟩) rfl (fun K hK => ?_) AllReadyH.nil)
      rewrite [if_pos (wanted_free rfl)]
      go_simp
      refine (hSg W hatW).mono ?_
      rintro r wh ⟨rfl, hBh⟩
      have HSh := KpSd.call HSW hBh
      go_wp2_with fail
      refine hK.out _ _ (KpSd.cell HSh) (fun hHeld => ?_)
      clear hK K
      try simp only [Act.put, List.setIfInBounds_toArray, List.set_cons_zero, List.set_cons_succ]
      refine wpAnyH_ready (rs := [5]) (by kernel_rfl) (by simp) (AllReadyH.cons (o := ⟨_, _, _, _, _, _⟩) rfl (fun K hK => ?_) AllReadyH.nil)
      rewrite [if_pos (wanted_free rfl)]
      go_simp
      refine (mustNo _ wh).mono ?_
      rintro r w' ⟨rfl, rfl⟩
      exact ⟨rfl, Or.inr ⟨HNo.out, rfl, HSh.out.only⟩⟩
    | true =>
      as_aux_lemma =>
      have HYes : Hid (R = some (x, l1, p')) := by show _ = _; rw [HRe.out, hb]; rfl
      rw [hb] at hSg
      clear HRe HRr
      go_wp2_with fail
      refine wp_region_held_drew (S := fun w' => w'.cell? ⟨GA, 0, none⟩ = some (.string x) ∧ w'.cell? ⟨GA, 1, none⟩ = some (.slice a n c)) (by kernel_rfl) (KpSd.cell (KpSd.drew HS)) (fun hHeld => ?_)
      refine wpAnyH_take (i := 0) (oi := ⟨_, _, _, _, _, _⟩) (v := .pointer (some ⟨g, 0, none⟩)) rfl (by kernel_rfl) (by kernel_rfl) (by kernel_rfl) (fun _ _ _ h => h) (Or.inl ⟨wanted_free rfl, fun w' hSw => ?_⟩) hHeld ?_
      · obtain ⟨s0, s1⟩ := hSw
        go_simp
      try simp only [Act.put, List.setIfInBounds_toArray, List.set_cons_zero, List.set_cons_succ]
      refine wpAnyH_take (i := 1) (oi := ⟨_, _, _, _, _, _⟩) (v := .pointer (some ⟨g, 0, none⟩)) rfl (by kernel_rfl) (by kernel_rfl) (by kernel_rfl) (fun _ _ _ h => h) (Or.inl ⟨wanted_free rfl, fun w' hSw => ?_⟩) hHeld ?_
      · obtain ⟨s0, s1⟩ := hSw
        go_simp
      try simp only [Act.put, List.setIfInBounds_toArray, List.set_cons_zero, List.set_cons_succ]
      refine wpAnyH_take (i := 2) (oi := ⟨_, _, _, _, _, _⟩) (v := .pointer (some ⟨g, 0, none⟩)) rfl (by kernel_rfl) (by kernel_rfl) (by kernel_rfl) (fun _ _ _ h => h) (Or.inl ⟨wanted_free rfl, fun w' hSw => ?_⟩) hHeld ?_
      · obtain ⟨s0, s1⟩ := hSw
        go_simp
      try simp only [Act.put, List.setIfInBounds_toArray, List.set_cons_zero, List.set_cons_succ]
      refine wpAnyH_take (i := 3) (oi := ⟨_, _, _, _, _, _⟩) (v := .agg #[.string x, .slice a n c]) rfl (by kernel_rfl) (by kernel_rfl) (by kernel_rfl) (fun _ _ _ h => h) (Or.inl ⟨wanted_free rfl, fun w' hSw => ?_⟩) hHeld ?_
      · obtain ⟨s0, s1⟩ := hSw
        go_simp
      try simp only [Act.put, List.setIfInBounds_toArray, List.set_cons_zero, List.set_cons_succ]
      have HSW := KpSd.drew HS
      generalize wr.drew = W at *
      clear HS
      refine wpAnyH_ready (rs := [4]) (by kernel_rfl) (by simp) (AllReadyH.cons (o := ⟨_, _, _, _, _, _⟩) rfl (fun K hK => ?_) AllReadyH.nil)
      rewrite [if_pos (wanted_free rfl)]
      go_simp
      refine (hSg W hatW).mono ?_
      rintro r wh ⟨rfl, hBh⟩
      have HSh := KpSd.call HSW hBh
      go_wp2_with fail
      refine hK.out _ _ (KpSd.cell HSh) (fun hHeld => ?_)
      clear hK K
      try simp only [Act.put, List.setIfInBounds_toArray, List.set_cons_zero, List.set_cons_succ]
      refine wpAnyH_ready (rs := [5]) (by kernel_rfl) (by simp) (AllReadyH.cons (o := ⟨_, _, _, _, _, _⟩) rfl (fun K hK => ?_) AllReadyH.nil)
      rewrite [if_pos (wanted_free rfl)]
      go_simp
      refine (mustYes _ wh).mono ?_
      rintro r w' ⟨rfl, rfl⟩
      go_wp2_with fail
      refine hK.out _ _ (KpSd.cell HSh) (fun hHeld => ?_)
      clear hK K
      try simp only [Act.put, List.setIfInBounds_toArray, List.set_cons_zero, List.set_cons_succ]
      refine wpAnyH_done (by kernel_rfl) ?_ _
      clear hHeld HSW
      go_wp2_with (first
        | (with_reducible refine wpList_loadV (w := wh) (by with_unfolding_all rfl) 59 (.tmp 3) (by with_unfolding_all rfl) GA (sgv x a n c) (by with_unfolding_all rfl) (KpSd.r3H HSh) Try.undSd 2 Try.sizeSd (by with_unfolding_all rfl) ?_)
        | (with_reducible refine wpList_storeH (w := wh) (by with_unfolding_all rfl) 59 (.tmp 2) (.tmp 40) (by with_unfolding_all rfl) w.heap.size (sgv ⟨#[]⟩ none 0 0) (sgv x a n c) (by with_unfolding_all rfl) (by with_unfolding_all rfl) (KpSd.r2H HSh) 2 Try.sizeSd (by with_unfolding_all rfl) (by with_unfolding_all rfl) (sgv_one _ _ _ _) ?_; intro wz hAz hBz hFz hSz; have HE := KpSd.done HSh (Only.set hBz hFz hSz)))
      exact bodyPost_ret (results_V (t := 59) rfl _ w.heap.size _ rfl hAz Try.undSd 2 Try.sizeSd rfl) rfl (Or.inl ⟨x, l1, p', .slice a n c, HYes.out, rfl, HE.1, HE.2.1, HE.2.2⟩)
  obtain ⟨m, hm⟩ : ∃ m, k - i = m + 1 := ⟨k - i - 1, by omega⟩
  have hm2 : k - (i + 1) = m := by omega
  have hl1000 : l1.length ≤ 1000 := by have := HLn.out; omega
  have li : (i : Int) < k := by omega
  cases hq1 : numO t p' with
  | none =>
    as_aux_lemma =>
    have hn1 := hq1
    have hl1 := hpp
    have HNo : Hid (R = none) := by show _ = _; rw [HRr.out, hm, restO_no1 hq1]
    clear hq1 HRr
    go_wp2_with fail
    refine wp_region_held_drew (S := fun _ => True) (by kernel_rfl) trivial (fun _ => ?_)
    refine wpAnyH_take (i := 0) (oi := ⟨_, _, _, _, _, _⟩) (v := .pointer (some ⟨GA, 1, none⟩)) rfl (by kernel_rfl) (by kernel_rfl) (by kernel_rfl) (fun _ _ _ h => h) (Or.inl ⟨wanted_free rfl, fun w' hSw => ?_⟩) trivial ?_
    · go_simp
    try simp only [Act.put, List.setIfInBounds_toArray, List.set_cons_zero, List.set_cons_succ]
    refine wpAnyH_take (i := 2) (oi := ⟨_, _, _, _, _, _⟩) (v := .pointer (some ⟨g, 0, none⟩)) rfl (by kernel_rfl) (by kernel_rfl) (by kernel_rfl) (fun _ _ _ h => h) (Or.inl ⟨wanted_free rfl, fun w' hSw => ?_⟩) trivial ?_
    · go_simp
    try simp only [Act.put, List.setIfInBounds_toArray, List.set_cons_zero, List.set_cons_succ]
    refine wpAnyH_take (i := 3) (oi := ⟨_, _, _, _, _, _⟩) (v := .pointer (some ⟨g, 0, none⟩)) rfl (by kernel_rfl) (by kernel_rfl) (by kernel_rfl) (fun _ _ _ h => h) (Or.inl ⟨wanted_free rfl, fun w' hSw => ?_⟩) trivial ?_
    · go_simp
    try simp only [Act.put, List.setIfInBounds_toArray, List.set_cons_zero, List.set_cons_succ]
    refine wpAnyH_take (i := 4) (oi := ⟨_, _, _, _, _, _⟩) (v := .pointer (some ⟨g, 0, none⟩)) rfl (by kernel_rfl) (by kernel_rfl) (by kernel_rfl) (fun _ _ _ h => h) (Or.inl ⟨wanted_free rfl, fun w' hSw => ?_⟩) trivial ?_
    · go_simp
    try simp only [Act.put, List.setIfInBounds_toArray, List.set_cons_zero, List.set_cons_succ]
    refine wpAnyH_take (i := 6) (oi := ⟨_, _, _, _, _, _⟩) (v := .pointer (some ⟨g, 0, none⟩)) rfl (by kernel_rfl) (by kernel_rfl) (by kernel_rfl) (fun _ _ _ h => h) (Or.inl ⟨wanted_free rfl, fun w' hSw => ?_⟩) trivial ?_
    · go_simp
    try simp only [Act.put, List.setIfInBounds_toArray, List.set_cons_zero, List.set_cons_succ]
    refine wpAnyH_take (i := 7) (oi := ⟨_, _, _, _, _, _⟩) (v := .pointer (some ⟨g, 0, none⟩)) rfl (by kernel_rfl) (by kernel_rfl) (by kernel_rfl) (fun _ _ _ h => h) (Or.inl ⟨wanted_free rfl, fun w' hSw => ?_⟩) trivial ?_
    · go_simp
    try simp only [Act.put, List.setIfInBounds_toArray, List.set_cons_zero, List.set_cons_succ]
    refine wpAnyH_take (i := 8) (oi := ⟨_, _, _, _, _, _⟩) (v := .pointer (some ⟨g, 0, none⟩)) rfl (by kernel_rfl) (by kernel_rfl) (by kernel_rfl) (fun _ _ _ h => h) (Or.inl ⟨wanted_free rfl, fun w' hSw => ?_⟩) trivial ?_
    · go_simp
    try simp only [Act.put, List.setIfInBounds_toArray, List.set_cons_zero, List.set_cons_succ]
    refine wpAnyH_take (i := 10) (oi := ⟨_, _, _, _, _, _⟩) (v := .pointer (some ⟨g, 0, none⟩)) rfl (by kernel_rfl) (by kernel_rfl) (by kernel_rfl) (fun _ _ _ h => h) (Or.inl ⟨wanted_free rfl, fun w' hSw => ?_⟩) trivial ?_
    · go_simp
    try simp only [Act.put, List.setIfInBounds_toArray, List.set_cons_zero, List.set_cons_succ]
    refine wpAnyH_take (i := 11) (oi := ⟨_, _, _, _, _, _⟩) (v := .pointer (some ⟨g, 0, none⟩)) rfl (by kernel_rfl) (by kernel_rfl) (by kernel_rfl) (fun _ _ _ h => h) (Or.inl ⟨wanted_free rfl, fun w' hSw => ?_⟩) trivial ?_
    · go_simp
    try simp only [Act.put, List.setIfInBounds_toArray, List.set_cons_zero, List.set_cons_succ]
    refine wpAnyH_take (i := 12) (oi := ⟨_, _, _, _, _, _⟩) (v := .pointer (some ⟨g, 0, none⟩)) rfl (by kernel_rfl) (by kernel_rfl) (by kernel_rfl) (fun _ _ _ h => h) (Or.inl ⟨wanted_free rfl, fun w' hSw => ?_⟩) trivial ?_
    · go_simp
    try simp only [Act.put, List.setIfInBounds_toArray, List.set_cons_zero, List.set_cons_succ]
    have HSW := KpSd.drew HS
    generalize wr.drew = W at *
    clear HS
    refine wpAnyH_ready (rs := [1, 5]) (by kernel_rfl) (by simp) (AllReadyH.cons (o := ⟨_, _, _, _, _, _⟩) rfl (fun K hK => ?_) (AllReadyH.cons (o := ⟨_, _, _, _, _, _⟩) rfl (fun K hK => ?_) AllReadyH.nil))
    · as_aux_lemma =>
      rewrite [if_pos (wanted_free rfl)]
      with_reducible refine wp_load1 57 109 (.tmp 15) (by with_unfolding_all rfl) GA 1 v (by with_unfolding_all rfl) (KpSd.cell HSW).2 Try.underlying57 ?_
      refine hK.out _ _ trivial (fun _ => ?_)
      clear hK K
      try simp only [Act.put, List.setIfInBounds_toArray, List.set_cons_zero, List.set_cons_succ]
      refine wpAnyH_ready (rs := [5]) (by kernel_rfl) (by simp) (AllReadyH.cons (o := ⟨_, _, _, _, _, _⟩) rfl (fun K hK => ?_) AllReadyH.nil)
      rewrite [if_pos (wanted_free rfl)]
      go_simp
      refine (numNo g p' t W hs hn1 hl1 (KpSd.curH HSW)).mono ?_
      rintro e Wc ⟨rfl, hOWc⟩
      exact ⟨rfl, Or.inr ⟨HNo.out, rfl, HSW.out.only.trans hOWc⟩⟩
    · as_aux_lemma =>
      rewrite [if_pos (wanted_free rfl)]
      go_simp
      refine (numNo g p' t W hs hn1 hl1 (KpSd.curH HSW)).mono ?_
      rintro e Wc ⟨rfl, hOWc⟩
      exact ⟨rfl, Or.inr ⟨HNo.out, rfl, HSW.out.only.trans hOWc⟩⟩
  | some y1 =>
  obtain ⟨ka, c1⟩ := y1
  have hl2 : c1 ≤ t.size := (numO_some hq1).2.1
  have hn1 : numO t p' = some (ka, c1) ∧ p' ≤ t.size := ⟨hq1, hpp⟩
  cases hq2 : numO t c1 with
  | none =>
    as_aux_lemma =>
    have hn2 := hq2
    have HNo : Hid (R = none) := by show _ = _; rw [HRr.out, hm, restO_no2 hq1 hq2]
    clear hq1 hq2 HRr
    go_wp2_with fail
    refine wp_region_held_drew (S := fun _ => True) (by kernel_rfl) trivial (fun _ => ?_)
    refine wpAnyH_take (i := 0) (oi := ⟨_, _, _, _, _, _⟩) (v := .pointer (some ⟨GA, 1, none⟩)) rfl (by kernel_rfl) (by kernel_rfl) (by kernel_rfl) (fun _ _ _ h => h) (Or.inl ⟨wanted_free rfl, fun w' hSw => ?_⟩) trivial ?_
    · go_simp
    try simp only [Act.put, List.setIfInBounds_toArray, List.set_cons_zero, List.set_cons_succ]
    refine wpAnyH_take (i := 2) (oi := ⟨_, _, _, _, _, _⟩) (v := .pointer (some ⟨g, 0, none⟩)) rfl (by kernel_rfl) (by kernel_rfl) (by kernel_rfl) (fun _ _ _ h => h) (Or.inl ⟨wanted_free rfl, fun w' hSw => ?_⟩) trivial ?_
    · go_simp
    try simp only [Act.put, List.setIfInBounds_toArray, List.set_cons_zero, List.set_cons_succ]
    refine wpAnyH_take (i := 3) (oi := ⟨_, _, _, _, _, _⟩) (v := .pointer (some ⟨g, 0, none⟩)) rfl (by kernel_rfl) (by kernel_rfl) (by kernel_rfl) (fun _ _ _ h => h) (Or.inl ⟨wanted_free rfl, fun w' hSw => ?_⟩) trivial ?_
    · go_simp
    try simp only [Act.put, List.setIfInBounds_toArray, List.set_cons_zero, List.set_cons_succ]
    refine wpAnyH_take (i := 4) (oi := ⟨_, _, _, _, _, _⟩) (v := .pointer (some ⟨g, 0, none⟩)) rfl (by kernel_rfl) (by kernel_rfl) (by kernel_rfl) (fun _ _ _ h => h) (Or.inl ⟨wanted_free rfl, fun w' hSw => ?_⟩) trivial ?_
    · go_simp
    try simp only [Act.put, List.setIfInBounds_toArray, List.set_cons_zero, List.set_cons_succ]
    refine wpAnyH_take (i := 6) (oi := ⟨_, _, _, _, _, _⟩) (v := .pointer (some ⟨g, 0, none⟩)) rfl (by kernel_rfl) (by kernel_rfl) (by kernel_rfl) (fun _ _ _ h => h) (Or.inl ⟨wanted_free rfl, fun w' hSw => ?_⟩) trivial ?_
    · go_simp
    try simp only [Act.put, List.setIfInBounds_toArray, List.set_cons_zero, List.set_cons_succ]
    refine wpAnyH_take (i := 7) (oi := ⟨_, _, _, _, _, _⟩) (v := .pointer (some ⟨g, 0, none⟩)) rfl (by kernel_rfl) (by kernel_rfl) (by kernel_rfl) (fun _ _ _ h => h) (Or.inl ⟨wanted_free rfl, fun w' hSw => ?_⟩) trivial ?_
    · go_simp
    try simp only [Act.put, List.setIfInBounds_toArray, List.set_cons_zero, List.set_cons_succ]
    refine wpAnyH_take (i := 8) (oi := ⟨_, _, _, _, _, _⟩) (v := .pointer (some ⟨g, 0, none⟩)) rfl (by kernel_rfl) (by kernel_rfl) (by kernel_rfl) (fun _ _ _ h => h) (Or.inl ⟨wanted_free rfl, fun w' hSw => ?_⟩) trivial ?_
    · go_simp
    try simp only [Act.put, List.setIfInBounds_toArray, List.set_cons_zero, List.set_cons_succ]
    refine wpAnyH_take (i := 10) (oi := ⟨_, _, _, _, _, _⟩) (v := .pointer (some ⟨g, 0, none⟩)) rfl (by kernel_rfl) (by kernel_rfl) (by kernel_rfl) (fun _ _ _ h => h) (Or.inl ⟨wanted_free rfl, fun w' hSw => ?_⟩) trivial ?_
    · go_simp
    try simp only [Act.put, List.setIfInBounds_toArray, List.set_cons_zero, List.set_cons_succ]
    refine wpAnyH_take (i := 11) (oi := ⟨_, _, _, _, _, _⟩) (v := .pointer (some ⟨g, 0, none⟩)) rfl (by kernel_rfl) (by kernel_rfl) (by kernel_rfl) (fun _ _ _ h => h) (Or.inl ⟨wanted_free rfl, fun w' hSw => ?_⟩) trivial ?_
    · go_simp
    try simp only [Act.put, List.setIfInBounds_toArray, List.set_cons_zero, List.set_cons_succ]
    refine wpAnyH_take (i := 12) (oi := ⟨_, _, _, _, _, _⟩) (v := .pointer (some ⟨g, 0, none⟩)) rfl (by kernel_rfl) (by kernel_rfl) (by kernel_rfl) (fun _ _ _ h => h) (Or.inl ⟨wanted_free rfl, fun w' hSw => ?_⟩) trivial ?_
    · go_simp
    try simp only [Act.put, List.setIfInBounds_toArray, List.set_cons_zero, List.set_cons_succ]
    have HSW := KpSd.drew HS
    generalize wr.drew = W at *
    clear HS
    refine wpAnyH_ready (rs := [1, 5]) (by kernel_rfl) (by simp) (AllReadyH.cons (o := ⟨_, _, _, _, _, _⟩) rfl (fun K hK => ?_) (AllReadyH.cons (o := ⟨_, _, _, _, _, _⟩) rfl (fun K hK => ?_) AllReadyH.nil))
    · as_aux_lemma =>
      rewrite [if_pos (wanted_free rfl)]
      with_reducible refine wp_load1 57 109 (.tmp 15) (by with_unfolding_all rfl) GA 1 v (by with_unfolding_all rfl) (KpSd.cell HSW).2 Try.underlying57 ?_
      refine hK.out _ _ trivial (fun _ => ?_)
      clear hK K
      try simp only [Act.put, List.setIfInBounds_toArray, List.set_cons_zero, List.set_cons_succ]
      refine wpAnyH_ready (rs := [5]) (by kernel_rfl) (by simp) (AllReadyH.cons (o := ⟨_, _, _, _, _, _⟩) rfl (fun K hK => ?_) AllReadyH.nil)
      rewrite [if_pos (wanted_free rfl)]
      go_simp
      refine (numYes g p' c1 t ka W hs hn1 (KpSd.curH HSW)).mono ?_
      rintro e Wc ⟨rfl, hRWc, hOWc⟩
      have HSWc := KpSd.num HSW hRWc hOWc
      go_wp2_with fail
      refine hK.out _ _ trivial (fun _ => ?_)
      clear hK K
      try simp only [Act.put, List.setIfInBounds_toArray, List.set_cons_zero, List.set_cons_succ]
      refine wpAnyH_ready (rs := [9]) (by kernel_rfl) (by simp) (AllReadyH.cons (o := ⟨_, _, _, _, _, _⟩) rfl (fun K hK => ?_) AllReadyH.nil)
      rewrite [if_pos (wanted_free rfl)]
      go_simp
      refine (numNo g c1 t Wc hs hn2 hl2 (KpSd.curH HSWc)).mono ?_
      rintro e Wcc ⟨rfl, hOWcc⟩
      exact ⟨rfl, Or.inr ⟨HNo.out, rfl, HSWc.out.only.trans hOWcc⟩⟩
    · as_aux_lemma =>
      rewrite [if_pos (wanted_free rfl)]
      go_simp
      refine (numYes g p' c1 t ka W hs hn1 (KpSd.curH HSW)).mono ?_
      rintro e Wc ⟨rfl, hRWc, hOWc⟩
      have HSWc := KpSd.num HSW hRWc hOWc
      go_wp2_with fail
      refine hK.out _ _ trivial (fun _ => ?_)
      clear hK K
      try simp only [Act.put, List.setIfInBounds_toArray, List.set_cons_zero, List.set_cons_succ]
      refine wpAnyH_ready (rs := [1, 9]) (by kernel_rfl) (by simp) (AllReadyH.cons (o := ⟨_, _, _, _, _, _⟩) rfl (fun K hK => ?_) (AllReadyH.cons (o := ⟨_, _, _, _, _, _⟩) rfl (fun K hK => ?_) AllReadyH.nil))
      · as_aux_lemma =>
        rewrite [if_pos (wanted_free rfl)]
        with_reducible refine wp_load1 57 109 (.tmp 15) (by with_unfolding_all rfl) GA 1 v (by with_unfolding_all rfl) (KpSd.cell HSWc).2 Try.underlying57 ?_
        refine hK.out _ _ trivial (fun _ => ?_)
        clear hK K
        try simp only [Act.put, List.setIfInBounds_toArray, List.set_cons_zero, List.set_cons_succ]
        refine wpAnyH_ready (rs := [9]) (by kernel_rfl) (by simp) (AllReadyH.cons (o := ⟨_, _, _, _, _, _⟩) rfl (fun K hK => ?_) AllReadyH.nil)
        rewrite [if_pos (wanted_free rfl)]
        go_simp
        refine (numNo g c1 t Wc hs hn2 hl2 (KpSd.curH HSWc)).mono ?_
        rintro e Wcc ⟨rfl, hOWcc⟩
        exact ⟨rfl, Or.inr ⟨HNo.out, rfl, HSWc.out.only.trans hOWcc⟩⟩
      · as_aux_lemma =>
        rewrite [if_pos (wanted_free rfl)]
        go_simp
        refine (numNo g c1 t Wc hs hn2 hl2 (KpSd.curH HSWc)).mono ?_
        rintro e Wcc ⟨rfl, hOWcc⟩
        exact ⟨rfl, Or.inr ⟨HNo.out, rfl, HSWc.out.only.trans hOWcc⟩⟩
  | some y2 =>
  obtain ⟨kb, c2⟩ := y2
  have hl3 : c2 ≤ t.size := (numO_some hq2).2.1
  have hn2 : numO t c1 = some (kb, c2) ∧ c1 ≤ t.size := ⟨hq2, hl2⟩
  cases hq3 : numO t c2 with
  | none =>
    as_aux_lemma =>
    have hn3 := hq3
    have HNo : Hid (R = none) := by show _ = _; rw [HRr.out, hm, restO_no3 hq1 hq2 hq3]
    clear hq1 hq2 hq3 HRr
    go_wp2_with fail
    refine wp_region_held_drew (S := fun _ => True) (by kernel_rfl) trivial (fun _ => ?_)
    refine wpAnyH_take (i := 0) (oi := ⟨_, _, _, _, _, _⟩) (v := .pointer (some ⟨GA, 1, none⟩)) rfl (by kernel_rfl) (by kernel_rfl) (by kernel_rfl) (fun _ _ _ h => h) (Or.inl ⟨wanted_free rfl, fun w' hSw => ?_⟩) trivial ?_
    · go_simp
    try simp only [Act.put, List.setIfInBounds_toArray, List.set_cons_zero, List.set_cons_succ]
    refine wpAnyH_take (i := 2) (oi := ⟨_, _, _, _, _, _⟩) (v := .pointer (some ⟨g, 0, none⟩)) rfl (by kernel_rfl) (by kernel_rfl) (by kernel_rfl) (fun _ _ _ h => h) (Or.inl ⟨wanted_free rfl, fun w' hSw => ?_⟩) trivial ?_
    · go_simp
    try simp only [Act.put, List.setIfInBounds_toArray, List.set_cons_zero, List.set_cons_succ]
    refine wpAnyH_take (i := 3) (oi := ⟨_, _, _, _, _, _⟩) (v := .pointer (some ⟨g, 0, none⟩)) rfl (by kernel_rfl) (by kernel_rfl) (by kernel_rfl) (fun _ _ _ h => h) (Or.inl ⟨wanted_free rfl, fun w' hSw => ?_⟩) trivial ?_
    · go_simp
    try simp only [Act.put, List.setIfInBounds_toArray, List.set_cons_zero, List.set_cons_succ]
    refine wpAnyH_take (i := 4) (oi := ⟨_, _, _, _, _, _⟩) (v := .pointer (some ⟨g, 0, none⟩)) rfl (by kernel_rfl) (by kernel_rfl) (by kernel_rfl) (fun _ _ _ h => h) (Or.inl ⟨wanted_free rfl, fun w' hSw => ?_⟩) trivial ?_
    · go_simp
    try simp only [Act.put, List.setIfInBounds_toArray, List.set_cons_zero, List.set_cons_succ]
    refine wpAnyH_take (i := 6) (oi := ⟨_, _, _, _, _, _⟩) (v := .pointer (some ⟨g, 0, none⟩)) rfl (by kernel_rfl) (by kernel_rfl) (by kernel_rfl) (fun _ _ _ h => h) (Or.inl ⟨wanted_free rfl, fun w' hSw => ?_⟩) trivial ?_
    · go_simp
    try simp only [Act.put, List.setIfInBounds_toArray, List.set_cons_zero, List.set_cons_succ]
    refine wpAnyH_take (i := 7) (oi := ⟨_, _, _, _, _, _⟩) (v := .pointer (some ⟨g, 0, none⟩)) rfl (by kernel_rfl) (by kernel_rfl) (by kernel_rfl) (fun _ _ _ h => h) (Or.inl ⟨wanted_free rfl, fun w' hSw => ?_⟩) trivial ?_
    · go_simp
    try simp only [Act.put, List.setIfInBounds_toArray, List.set_cons_zero, List.set_cons_succ]
    refine wpAnyH_take (i := 8) (oi := ⟨_, _, _, _, _, _⟩) (v := .pointer (some ⟨g, 0, none⟩)) rfl (by kernel_rfl) (by kernel_rfl) (by kernel_rfl) (fun _ _ _ h => h) (Or.inl ⟨wanted_free rfl, fun w' hSw => ?_⟩) trivial ?_
    · go_simp
    try simp only [Act.put, List.setIfInBounds_toArray, List.set_cons_zero, List.set_cons_succ]
    refine wpAnyH_take (i := 10) (oi := ⟨_, _, _, _, _, _⟩) (v := .pointer (some ⟨g, 0, none⟩)) rfl (by kernel_rfl) (by kernel_rfl) (by kernel_rfl) (fun _ _ _ h => h) (Or.inl ⟨wanted_free rfl, fun w' hSw => ?_⟩) trivial ?_
    · go_simp
    try simp only [Act.put, List.setIfInBounds_toArray, List.set_cons_zero, List.set_cons_succ]
    refine wpAnyH_take (i := 11) (oi := ⟨_, _, _, _, _, _⟩) (v := .pointer (some ⟨g, 0, none⟩)) rfl (by kernel_rfl) (by kernel_rfl) (by kernel_rfl) (fun _ _ _ h => h) (Or.inl ⟨wanted_free rfl, fun w' hSw => ?_⟩) trivial ?_
    · go_simp
    try simp only [Act.put, List.setIfInBounds_toArray, List.set_cons_zero, List.set_cons_succ]
    refine wpAnyH_take (i := 12) (oi := ⟨_, _, _, _, _, _⟩) (v := .pointer (some ⟨g, 0, none⟩)) rfl (by kernel_rfl) (by kernel_rfl) (by kernel_rfl) (fun _ _ _ h => h) (Or.inl ⟨wanted_free rfl, fun w' hSw => ?_⟩) trivial ?_
    · go_simp
    try simp only [Act.put, List.setIfInBounds_toArray, List.set_cons_zero, List.set_cons_succ]
    have HSW := KpSd.drew HS
    generalize wr.drew = W at *
    clear HS
    refine wpAnyH_ready (rs := [1, 5]) (by kernel_rfl) (by simp) (AllReadyH.cons (o := ⟨_, _, _, _, _, _⟩) rfl (fun K hK => ?_) (AllReadyH.cons (o := ⟨_, _, _, _, _, _⟩) rfl (fun K hK => ?_) AllReadyH.nil))
    · as_aux_lemma =>
      rewrite [if_pos (wanted_free rfl)]
      with_reducible refine wp_load1 57 109 (.tmp 15) (by with_unfolding_all rfl) GA 1 v (by with_unfolding_all rfl) (KpSd.cell HSW).2 Try.underlying57 ?_
      refine hK.out _ _ trivial (fun _ => ?_)
      clear hK K
      try simp only [Act.put, List.setIfInBounds_toArray, List.set_cons_zero, List.set_cons_succ]
      refine wpAnyH_ready (rs := [5]) (by kernel_rfl) (by simp) (AllReadyH.cons (o := ⟨_, _, _, _, _, _⟩) rfl (fun K hK => ?_) AllReadyH.nil)
      rewrite [if_pos (wanted_free rfl)]
      go_simp
      refine (numYes g p' c1 t ka W hs hn1 (KpSd.curH HSW)).mono ?_
      rintro e Wc ⟨rfl, hRWc, hOWc⟩
      have HSWc := KpSd.num HSW hRWc hOWc
      go_wp2_with fail
      refine hK.out _ _ trivial (fun _ => ?_)
      clear hK K
      try simp only [Act.put, List.setIfInBounds_toArray, List.set_cons_zero, List.set_cons_succ]
      refine wpAnyH_ready (rs := [9]) (by kernel_rfl) (by simp) (AllReadyH.cons (o := ⟨_, _, _, _, _, _⟩) rfl (fun K hK => ?_) AllReadyH.nil)
      rewrite [if_pos (wanted_free rfl)]
      go_simp
      refine (numYes g c1 c2 t kb Wc hs hn2 (KpSd.curH HSWc)).mono ?_
      rintro e Wcc ⟨rfl, hRWcc, hOWcc⟩
      have HSWcc := KpSd.num HSWc hRWcc hOWcc
      go_wp2_with fail
      refine hK.out _ _ trivial (fun _ => ?_)
      clear hK K
      try simp only [Act.put, List.setIfInBounds_toArray, List.set_cons_zero, List.set_cons_succ]
      refine wpAnyH_ready (rs := [13]) (by kernel_rfl) (by simp) (AllReadyH.cons (o := ⟨_, _, _, _, _, _⟩) rfl (fun K hK => ?_) AllReadyH.nil)
      rewrite [if_pos (wanted_free rfl)]
      go_simp
      refine (numNo g c2 t Wcc hs hn3 hl3 (KpSd.curH HSWcc)).mono ?_
      rintro e Wccc ⟨rfl, hOWccc⟩
      exact ⟨rfl, Or.inr ⟨HNo.out, rfl, HSWcc.out.only.trans hOWccc⟩⟩
    · as_aux_lemma =>
      rewrite [if_pos (wanted_free rfl)]
      go_simp
      refine (numYes g p' c1 t ka W hs hn1 (KpSd.curH HSW)).mono ?_
      rintro e Wc ⟨rfl, hRWc, hOWc⟩
      have HSWc := KpSd.num HSW hRWc hOWc
      go_wp2_with fail
      refine hK.out _ _ trivial (fun _ => ?_)
      clear hK K
      try simp only [Act.put, List.setIfInBounds_toArray, List.set_cons_zero, List.set_cons_succ]
      refine wpAnyH_ready (rs := [1, 9]) (by kernel_rfl) (by simp) (AllReadyH.cons (o := ⟨_, _, _, _, _, _⟩) rfl (fun K hK => ?_) (AllReadyH.cons (o := ⟨_, _, _, _, _, _⟩) rfl (fun K hK => ?_) AllReadyH.nil))
      · as_aux_lemma =>
        rewrite [if_pos (wanted_free rfl)]
        with_reducible refine wp_load1 57 109 (.tmp 15) (by with_unfolding_all rfl) GA 1 v (by with_unfolding_all rfl) (KpSd.cell HSWc).2 Try.underlying57 ?_
        refine hK.out _ _ trivial (fun _ => ?_)
        clear hK K
        try simp only [Act.put, List.setIfInBounds_toArray, List.set_cons_zero, List.set_cons_succ]
        refine wpAnyH_ready (rs := [9]) (by kernel_rfl) (by simp) (AllReadyH.cons (o := ⟨_, _, _, _, _, _⟩) rfl (fun K hK => ?_) AllReadyH.nil)
        rewrite [if_pos (wanted_free rfl)]
        go_simp
        refine (numYes g c1 c2 t kb Wc hs hn2 (KpSd.curH HSWc)).mono ?_
        rintro e Wcc ⟨rfl, hRWcc, hOWcc⟩
        have HSWcc := KpSd.num HSWc hRWcc hOWcc
        go_wp2_with fail
        refine hK.out _ _ trivial (fun _ => ?_)
        clear hK K
        try simp only [Act.put, List.setIfInBounds_toArray, List.set_cons_zero, List.set_cons_succ]
        refine wpAnyH_ready (rs := [13]) (by kernel_rfl) (by simp) (AllReadyH.cons (o := ⟨_, _, _, _, _, _⟩) rfl (fun K hK => ?_) AllReadyH.nil)
        rewrite [if_pos (wanted_free rfl)]
        go_simp
        refine (numNo g c2 t Wcc hs hn3 hl3 (KpSd.curH HSWcc)).mono ?_
        rintro e Wccc ⟨rfl, hOWccc⟩
        exact ⟨rfl, Or.inr ⟨HNo.out, rfl, HSWcc.out.only.trans hOWccc⟩⟩
      · as_aux_lemma =>
        rewrite [if_pos (wanted_free rfl)]
        go_simp
        refine (numYes g c1 c2 t kb Wc hs hn2 (KpSd.curH HSWc)).mono ?_
        rintro e Wcc ⟨rfl, hRWcc, hOWcc⟩
        have HSWcc := KpSd.num HSWc hRWcc hOWcc
        go_wp2_with fail
        refine hK.out _ _ trivial (fun _ => ?_)
        clear hK K
        try simp only [Act.put, List.setIfInBounds_toArray, List.set_cons_zero, List.set_cons_succ]
        refine wpAnyH_ready (rs := [1, 13]) (by kernel_rfl) (by simp) (AllReadyH.cons (o := ⟨_, _, _, _, _, _⟩) rfl (fun K hK => ?_) (AllReadyH.cons (o := ⟨_, _, _, _, _, _⟩) rfl (fun K hK => ?_) AllReadyH.nil))
        · as_aux_lemma =>
          rewrite [if_pos (wanted_free rfl)]
          with_reducible refine wp_load1 57 109 (.tmp 15) (by with_unfolding_all rfl) GA 1 v (by with_unfolding_all rfl) (KpSd.cell HSWcc).2 Try.underlying57 ?_
          refine hK.out _ _ trivial (fun _ => ?_)
          clear hK K
          try simp only [Act.put, List.setIfInBounds_toArray, List.set_cons_zero, List.set_cons_succ]
          refine wpAnyH_ready (rs := [13]) (by kernel_rfl) (by simp) (AllReadyH.cons (o := ⟨_, _, _, _, _, _⟩) rfl (fun K hK => ?_) AllReadyH.nil)
          rewrite [if_pos (wanted_free rfl)]
          go_simp
          refine (numNo g c2 t Wcc hs hn3 hl3 (KpSd.curH HSWcc)).mono ?_
          rintro e Wccc ⟨rfl, hOWccc⟩
          exact ⟨rfl, Or.inr ⟨HNo.out, rfl, HSWcc.out.only.trans hOWccc⟩⟩
        · as_aux_lemma =>
          rewrite [if_pos (wanted_free rfl)]
          go_simp
          refine (numNo g c2 t Wcc hs hn3 hl3 (KpSd.curH HSWcc)).mono ?_
          rintro e Wccc ⟨rfl, hOWccc⟩
          exact ⟨rfl, Or.inr ⟨HNo.out, rfl, HSWcc.out.only.trans hOWccc⟩⟩
  | some y3 =>
  as_aux_lemma =>
  obtain ⟨kc, c3⟩ := y3
  have hn3 : numO t c2 = some (kc, c3) ∧ c2 ≤ t.size := ⟨hq3, hl3⟩
  have HRn : Hid (R = restO t x (l1 ++ [⟨ka, kb, kc⟩]) (k - (i + 1)) c3) := by show _ = _; rw [HRr.out, hm, restO_step hq1 hq2 hq3, hm2]
  have HWn : Hid (∀ y ∈ l1 ++ [⟨ka, kb, kc⟩], SigV.w y) := fun y hy => by
    rcases List.mem_append.1 hy with hy | hy
    · exact HWl.out y hy
    · obtain rfl := List.mem_singleton.1 hy
      exact ⟨numO_i64 hq1, numO_i64 hq2, numO_i64 hq3⟩
  clear hl3
  have hl3 : c3 ≤ t.size := (numO_some hq3).2.1
  clear hq1 hq2 hq3 HRr HWl
  go_wp2_with fail
  refine wp_region_held_drew (S := fun _ => True) (by kernel_rfl) trivial (fun _ => ?_)
  refine wpAnyH_take (i := 0) (oi := ⟨_, _, _, _, _, _⟩) (v := .pointer (some ⟨GA, 1, none⟩)) rfl (by kernel_rfl) (by kernel_rfl) (by kernel_rfl) (fun _ _ _ h => h) (Or.inl ⟨wanted_free rfl, fun w' hSw => ?_⟩) trivial ?_
  · go_simp
  try simp only [Act.put, List.setIfInBounds_toArray, List.set_cons_zero, List.set_cons_succ]
  refine wpAnyH_take (i := 2) (oi := ⟨_, _, _, _, _, _⟩) (v := .pointer (some ⟨g, 0, none⟩)) rfl (by kernel_rfl) (by kernel_rfl) (by kernel_rfl) (fun _ _ _ h => h) (Or.inl ⟨wanted_free rfl, fun w' hSw => ?_⟩) trivial ?_
  · go_simp
  try simp only [Act.put, List.setIfInBounds_toArray, List.set_cons_zero, List.set_cons_succ]
  refine wpAnyH_take (i := 3) (oi := ⟨_, _, _, _, _, _⟩) (v := .pointer (some ⟨g, 0, none⟩)) rfl (by kernel_rfl) (by kernel_rfl) (by kernel_rfl) (fun _ _ _ h => h) (Or.inl ⟨wanted_free rfl, fun w' hSw => ?_⟩) trivial ?_
  · go_simp
  try simp only [Act.put, List.setIfInBounds_toArray, List.set_cons_zero, List.set_cons_succ]
  refine wpAnyH_take (i := 4) (oi := ⟨_, _, _, _, _, _⟩) (v := .pointer (some ⟨g, 0, none⟩)) rfl (by kernel_rfl) (by kernel_rfl) (by kernel_rfl) (fun _ _ _ h => h) (Or.inl ⟨wanted_free rfl, fun w' hSw => ?_⟩) trivial ?_
  · go_simp
  try simp only [Act.put, List.setIfInBounds_toArray, List.set_cons_zero, List.set_cons_succ]
  refine wpAnyH_take (i := 6) (oi := ⟨_, _, _, _, _, _⟩) (v := .pointer (some ⟨g, 0, none⟩)) rfl (by kernel_rfl) (by kernel_rfl) (by kernel_rfl) (fun _ _ _ h => h) (Or.inl ⟨wanted_free rfl, fun w' hSw => ?_⟩) trivial ?_
  · go_simp
  try simp only [Act.put, List.setIfInBounds_toArray, List.set_cons_zero, List.set_cons_succ]
  refine wpAnyH_take (i := 7) (oi := ⟨_, _, _, _, _, _⟩) (v := .pointer (some ⟨g, 0, none⟩)) rfl (by kernel_rfl) (by kernel_rfl) (by kernel_rfl) (fun _ _ _ h => h) (Or.inl ⟨wanted_free rfl, fun w' hSw => ?_⟩) trivial ?_
  · go_simp
  try simp only [Act.put, List.setIfInBounds_toArray, List.set_cons_zero, List.set_cons_succ]
  refine wpAnyH_take (i := 8) (oi := ⟨_, _, _, _, _, _⟩) (v := .pointer (some ⟨g, 0, none⟩)) rfl (by kernel_rfl) (by kernel_rfl) (by kernel_rfl) (fun _ _ _ h => h) (Or.inl ⟨wanted_free rfl, fun w' hSw => ?_⟩) trivial ?_
  · go_simp
  try simp only [Act.put, List.setIfInBounds_toArray, List.set_cons_zero, List.set_cons_succ]
  refine wpAnyH_take (i := 10) (oi := ⟨_, _, _, _, _, _⟩) (v := .pointer (some ⟨g, 0, none⟩)) rfl (by kernel_rfl) (by kernel_rfl) (by kernel_rfl) (fun _ _ _ h => h) (Or.inl ⟨wanted_free rfl, fun w' hSw => ?_⟩) trivial ?_
  · go_simp
  try simp only [Act.put, List.setIfInBounds_toArray, List.set_cons_zero, List.set_cons_succ]
  refine wpAnyH_take (i := 11) (oi := ⟨_, _, _, _, _, _⟩) (v := .pointer (some ⟨g, 0, none⟩)) rfl (by kernel_rfl) (by kernel_rfl) (by kernel_rfl) (fun _ _ _ h => h) (Or.inl ⟨wanted_free rfl, fun w' hSw => ?_⟩) trivial ?_
  · go_simp
  try simp only [Act.put, List.setIfInBounds_toArray, List.set_cons_zero, List.set_cons_succ]
  refine wpAnyH_take (i := 12) (oi := ⟨_, _, _, _, _, _⟩) (v := .pointer (some ⟨g, 0, none⟩)) rfl (by kernel_rfl) (by kernel_rfl) (by kernel_rfl) (fun _ _ _ h => h) (Or.inl ⟨wanted_free rfl, fun w' hSw => ?_⟩) trivial ?_
  · go_simp
  try simp only [Act.put, List.setIfInBounds_toArray, List.set_cons_zero, List.set_cons_succ]
  have HSW := KpSd.drew HS
  generalize wr.drew = W at *
  clear HS
  refine wpAnyH_ready (rs := [1, 5]) (by kernel_rfl) (by simp) (AllReadyH.cons (o := ⟨_, _, _, _, _, _⟩) rfl (fun K hK => ?_) (AllReadyH.cons (o := ⟨_, _, _, _, _, _⟩) rfl (fun K hK => ?_) AllReadyH.nil))
  · as_aux_lemma =>
    rewrite [if_pos (wanted_free rfl)]
    with_reducible refine wp_load1 57 109 (.tmp 15) (by with_unfolding_all rfl) GA 1 v (by with_unfolding_all rfl) (KpSd.cell HSW).2 Try.underlying57 ?_
    refine hK.out _ _ trivial (fun _ => ?_)
    clear hK K
    try simp only [Act.put, List.setIfInBounds_toArray, List.set_cons_zero, List.set_cons_succ]
    refine wpAnyH_ready (rs := [5]) (by kernel_rfl) (by simp) (AllReadyH.cons (o := ⟨_, _, _, _, _, _⟩) rfl (fun K hK => ?_) AllReadyH.nil)
    rewrite [if_pos (wanted_free rfl)]
    go_simp
    refine (numYes g p' c1 t ka W hs hn1 (KpSd.curH HSW)).mono ?_
    rintro e Wc ⟨rfl, hRWc, hOWc⟩
    have HSWc := KpSd.num HSW hRWc hOWc
    go_wp2_with fail
    refine hK.out _ _ trivial (fun _ => ?_)
    clear hK K
    try simp only [Act.put, List.setIfInBounds_toArray, List.set_cons_zero, List.set_cons_succ]
    refine wpAnyH_ready (rs := [9]) (by kernel_rfl) (by simp) (AllReadyH.cons (o := ⟨_, _, _, _, _, _⟩) rfl (fun K hK => ?_) AllReadyH.nil)
    rewrite [if_pos (wanted_free rfl)]
    go_simp
    refine (numYes g c1 c2 t kb Wc hs hn2 (KpSd.curH HSWc)).mono ?_
    rintro e Wcc ⟨rfl, hRWcc, hOWcc⟩
    have HSWcc := KpSd.num HSWc hRWcc hOWcc
    go_wp2_with fail
    refine hK.out _ _ trivial (fun _ => ?_)
    clear hK K
    try simp only [Act.put, List.setIfInBounds_toArray, List.set_cons_zero, List.set_cons_succ]
    refine wpAnyH_ready (rs := [13]) (by kernel_rfl) (by simp) (AllReadyH.cons (o := ⟨_, _, _, _, _, _⟩) rfl (fun K hK => ?_) AllReadyH.nil)
    rewrite [if_pos (wanted_free rfl)]
    go_simp
    refine (numYes g c2 c3 t kc Wcc hs hn3 (KpSd.curH HSWcc)).mono ?_
    rintro e Wccc ⟨rfl, hRWccc, hOWccc⟩
    have HSWccc := KpSd.num HSWcc hRWccc hOWccc
    go_wp2_with fail
    refine hK.out _ _ trivial (fun _ => ?_)
    clear hK K
    try simp only [Act.put, List.setIfInBounds_toArray, List.set_cons_zero, List.set_cons_succ]
    refine wpAnyH_take (i := 14) (oi := ⟨_, _, _, _, _, _⟩) (v := .agg #[.int .i64 ka, .int .i64 kb, .int .i64 kc]) rfl (by kernel_rfl) (by kernel_rfl) (by kernel_rfl) (fun _ _ _ h => h) (Or.inl ⟨wanted_free rfl, fun w' hSw => ?_⟩) trivial ?_
    · go_simp
    try simp only [Act.put, List.setIfInBounds_toArray, List.set_cons_zero, List.set_cons_succ]
    refine wpAnyH_ready (rs := [15]) (by kernel_rfl) (by simp) (AllReadyH.cons (o := ⟨_, _, _, _, _, _⟩) rfl (fun K hK => ?_) AllReadyH.nil)
    rewrite [if_pos (wanted_free rfl)]
    with_reducible refine wp_buildSg (w := Wccc) (.tmp 29) (by with_unfolding_all rfl) ka kb kc (by with_unfolding_all rfl) ?_
    intro Wcccc hAWcccc hBWcccc
    have HSWcccc := KpSd.call HSWccc hBWcccc
    refine hK.out _ _ trivial (fun _ => ?_)
    clear hK K
    try simp only [Act.put, List.setIfInBounds_toArray, List.set_cons_zero, List.set_cons_succ]
    refine wpAnyH_ready (rs := [16]) (by kernel_rfl) (by simp) (AllReadyH.cons (o := ⟨_, _, _, _, _, _⟩) rfl (fun K hK => ?_) AllReadyH.nil)
    rewrite [if_pos (wanted_free rfl)]
    with_reducible refine wp_appendSg (W := Wcccc) (.tmp 16) (.tmp 30) (by with_unfolding_all rfl) w.heap.size v l1 ⟨ka, kb, kc⟩ (by with_unfolding_all rfl) HSWcccc.out.own Wccc.heap.size (by with_unfolding_all rfl) hAWcccc hl1000 (KpSd.szH HSWcccc) ?_
    intro v2 wa hOa hGa hba
    have HSa := KpSd.app HSWcccc hOa hGa hba
    refine hK.out _ _ trivial (fun _ => ?_)
    clear hK K
    try simp only [Act.put, List.setIfInBounds_toArray, List.set_cons_zero, List.set_cons_succ]
    refine wpAnyH_take (i := 17) (oi := ⟨_, _, _, _, _, _⟩) (v := .pointer (some ⟨GA, 1, none⟩)) rfl (by kernel_rfl) (by kernel_rfl) (by kernel_rfl) (fun _ _ _ h => h) (Or.inl ⟨wanted_free rfl, fun w' hSw => ?_⟩) trivial ?_
    · go_simp
    try simp only [Act.put, List.setIfInBounds_toArray, List.set_cons_zero, List.set_cons_succ]
    obtain ⟨a2, cc2, rfl, -⟩ := OwnSg.form hOa
    refine wpAnyH_ready (rs := [18]) (by kernel_rfl) (by simp) (AllReadyH.cons (o := ⟨_, _, _, _, _, _⟩) rfl (fun K hK => ?_) AllReadyH.nil)
    rewrite [if_pos (wanted_free rfl)]
    with_reducible refine wp_cellO 57 (.tmp 32) (.tmp 31) (by with_unfolding_all rfl) GA 1 (sdv x v) (sdv x (.slice a2 (l1 ++ [(⟨ka, kb, kc⟩ : SigV)]).length cc2)) (.slice a2 (l1 ++ [(⟨ka, kb, kc⟩ : SigV)]).length cc2) (by with_unfolding_all rfl) (by with_unfolding_all rfl) rfl Try.size1Sgs (KpSd.r3H HSa) (by simp [sdv]) (by with_unfolding_all rfl) ?_
    intro wz hAz hOz
    have HSz := KpSd.put HSa hAz hOz
    refine hK.out _ _ trivial (fun _ => ?_)
    clear hK K
    refine wpAnyH_done (by kernel_rfl) ?_ _
    clear HSa HSW HSWc HSWcc HSWccc HSWcccc
    go_wp2
    go_roundw
    case rel => exact ⟨i + 1, c3, _, l1 ++ [⟨ka, kb, kc⟩], by go_num, by omega, hl3, by show _ = _; rw [List.length_append, HLn.out]; rfl, HWn, HRn, HSz⟩
    case measure => simp [intOf]; omega
  · as_aux_lemma =>
    rewrite [if_pos (wanted_free rfl)]
    go_simp
    refine (numYes g p' c1 t ka W hs hn1 (KpSd.curH HSW)).mono ?_
    rintro e Wc ⟨rfl, hRWc, hOWc⟩
    have HSWc := KpSd.num HSW hRWc hOWc
    go_wp2_with fail
    refine hK.out _ _ trivial (fun _ => ?_)
    clear hK K
    try simp only [Act.put, List.setIfInBounds_toArray, List.set_cons_zero, List.set_cons_succ]
    refine wpAnyH_ready (rs := [1, 9]) (by kernel_rfl) (by simp) (AllReadyH.cons (o := ⟨_, _, _, _, _, _⟩) rfl (fun K hK => ?_) (AllReadyH.cons (o := ⟨_, _, _, _, _, _⟩) rfl (fun K hK => ?_) AllReadyH.nil))
    · as_aux_lemma =>
      rewrite [if_pos (wanted_free rfl)]
      with_reducible refine wp_load1 57 109 (.tmp 15) (by with_unfolding_all rfl) GA 1 v (by with_unfolding_all rfl) (KpSd.cell HSWc).2 Try.underlying57 ?_
      refine hK.out _ _ trivial (fun _ => ?_)
      clear hK K
      try simp only [Act.put, List.setIfInBounds_toArray, List.set_cons_zero, List.set_cons_succ]
      refine wpAnyH_ready (rs := [9]) (by kernel_rfl) (by simp) (AllReadyH.cons (o := ⟨_, _, _, _, _, _⟩) rfl (fun K hK => ?_) AllReadyH.nil)
      rewrite [if_pos (wanted_free rfl)]
      go_simp
      refine (numYes g c1 c2 t kb Wc hs hn2 (KpSd.curH HSWc)).mono ?_
      rintro e Wcc ⟨rfl, hRWcc, hOWcc⟩
      have HSWcc := KpSd.num HSWc hRWcc hOWcc
      go_wp2_with fail
      refine hK.out _ _ trivial (fun _ => ?_)
      clear hK K
      try simp only [Act.put, List.setIfInBounds_toArray, List.set_cons_zero, List.set_cons_succ]
      refine wpAnyH_ready (rs := [13]) (by kernel_rfl) (by simp) (AllReadyH.cons (o := ⟨_, _, _, _, _, _⟩) rfl (fun K hK => ?_) AllReadyH.nil)
      rewrite [if_pos (wanted_free rfl)]
      go_simp
      refine (numYes g c2 c3 t kc Wcc hs hn3 (KpSd.curH HSWcc)).mono ?_
      rintro e Wccc ⟨rfl, hRWccc, hOWccc⟩
      have HSWccc := KpSd.num HSWcc hRWccc hOWccc
      go_wp2_with fail
      refine hK.out _ _ trivial (fun _ => ?_)
      clear hK K
      try simp only [Act.put, List.setIfInBounds_toArray, List.set_cons_zero, List.set_cons_succ]
      refine wpAnyH_take (i := 14) (oi := ⟨_, _, _, _, _, _⟩) (v := .agg #[.int .i64 ka, .int .i64 kb, .int .i64 kc]) rfl (by kernel_rfl) (by kernel_rfl) (by kernel_rfl) (fun _ _ _ h => h) (Or.inl ⟨wanted_free rfl, fun w' hSw => ?_⟩) trivial ?_
      · go_simp
      try simp only [Act.put, List.setIfInBounds_toArray, List.set_cons_zero, List.set_cons_succ]
      refine wpAnyH_ready (rs := [15]) (by kernel_rfl) (by simp) (AllReadyH.cons (o := ⟨_, _, _, _, _, _⟩) rfl (fun K hK => ?_) AllReadyH.nil)
      rewrite [if_pos (wanted_free rfl)]
      with_reducible refine wp_buildSg (w := Wccc) (.tmp 29) (by with_unfolding_all rfl) ka kb kc (by with_unfolding_all rfl) ?_
      intro Wcccc hAWcccc hBWcccc
      have HSWcccc := KpSd.call HSWccc hBWcccc
      refine hK.out _ _ trivial (fun _ => ?_)
      clear hK K
      try simp only [Act.put, List.setIfInBounds_toArray, List.set_cons_zero, List.set_cons_succ]
      refine wpAnyH_ready (rs := [16]) (by kernel_rfl) (by simp) (AllReadyH.cons (o := ⟨_, _, _, _, _, _⟩) rfl (fun K hK => ?_) AllReadyH.nil)
      rewrite [if_pos (wanted_free rfl)]
      with_reducible refine wp_appendSg (W := Wcccc) (.tmp 16) (.tmp 30) (by with_unfolding_all rfl) w.heap.size v l1 ⟨ka, kb, kc⟩ (by with_unfolding_all rfl) HSWcccc.out.own Wccc.heap.size (by with_unfolding_all rfl) hAWcccc hl1000 (KpSd.szH HSWcccc) ?_
      intro v2 wa hOa hGa hba
      have HSa := KpSd.app HSWcccc hOa hGa hba
      refine hK.out _ _ trivial (fun _ => ?_)
      clear hK K
      try simp only [Act.put, List.setIfInBounds_toArray, List.set_cons_zero, List.set_cons_succ]
      refine wpAnyH_take (i := 17) (oi := ⟨_, _, _, _, _, _⟩) (v := .pointer (some ⟨GA, 1, none⟩)) rfl (by kernel_rfl) (by kernel_rfl) (by kernel_rfl) (fun _ _ _ h => h) (Or.inl ⟨wanted_free rfl, fun w' hSw => ?_⟩) trivial ?_
      · go_simp
      try simp only [Act.put, List.setIfInBounds_toArray, List.set_cons_zero, List.set_cons_succ]
      obtain ⟨a2, cc2, rfl, -⟩ := OwnSg.form hOa
      refine wpAnyH_ready (rs := [18]) (by kernel_rfl) (by simp) (AllReadyH.cons (o := ⟨_, _, _, _, _, _⟩) rfl (fun K hK => ?_) AllReadyH.nil)
      rewrite [if_pos (wanted_free rfl)]
      with_reducible refine wp_cellO 57 (.tmp 32) (.tmp 31) (by with_unfolding_all rfl) GA 1 (sdv x v) (sdv x (.slice a2 (l1 ++ [(⟨ka, kb, kc⟩ : SigV)]).length cc2)) (.slice a2 (l1 ++ [(⟨ka, kb, kc⟩ : SigV)]).length cc2) (by with_unfolding_all rfl) (by with_unfolding_all rfl) rfl Try.size1Sgs (KpSd.r3H HSa) (by simp [sdv]) (by with_unfolding_all rfl) ?_
      intro wz hAz hOz
      have HSz := KpSd.put HSa hAz hOz
      refine hK.out _ _ trivial (fun _ => ?_)
      clear hK K
      refine wpAnyH_done (by kernel_rfl) ?_ _
      clear HSa HSW HSWc HSWcc HSWccc HSWcccc
      go_wp2
      go_roundw
      case rel => exact ⟨i + 1, c3, _, l1 ++ [⟨ka, kb, kc⟩], by go_num, by omega, hl3, by show _ = _; rw [List.length_append, HLn.out]; rfl, HWn, HRn, HSz⟩
      case measure => simp [intOf]; omega
    · as_aux_lemma =>
      rewrite [if_pos (wanted_free rfl)]
      go_simp
      refine (numYes g c1 c2 t kb Wc hs hn2 (KpSd.curH HSWc)).mono ?_
      rintro e Wcc ⟨rfl, hRWcc, hOWcc⟩
      have HSWcc := KpSd.num HSWc hRWcc hOWcc
      go_wp2_with fail
      refine hK.out _ _ trivial (fun _ => ?_)
      clear hK K
      try simp only [Act.put, List.setIfInBounds_toArray, List.set_cons_zero, List.set_cons_succ]
      refine wpAnyH_ready (rs := [1, 13]) (by kernel_rfl) (by simp) (AllReadyH.cons (o := ⟨_, _, _, _, _, _⟩) rfl (fun K hK => ?_) (AllReadyH.cons (o := ⟨_, _, _, _, _, _⟩) rfl (fun K hK => ?_) AllReadyH.nil))
      · as_aux_lemma =>
        rewrite [if_pos (wanted_free rfl)]
        with_reducible refine wp_load1 57 109 (.tmp 15) (by with_unfolding_all rfl) GA 1 v (by with_unfolding_all rfl) (KpSd.cell HSWcc).2 Try.underlying57 ?_
        refine hK.out _ _ trivial (fun _ => ?_)
        clear hK K
        try simp only [Act.put, List.setIfInBounds_toArray, List.set_cons_zero, List.set_cons_succ]
        refine wpAnyH_ready (rs := [13]) (by kernel_rfl) (by simp) (AllReadyH.cons (o := ⟨_, _, _, _, _, _⟩) rfl (fun K hK => ?_) AllReadyH.nil)
        rewrite [if_pos (wanted_free rfl)]
        go_simp
        refine (numYes g c2 c3 t kc Wcc hs hn3 (KpSd.curH HSWcc)).mono ?_
        rintro e Wccc ⟨rfl, hRWccc, hOWccc⟩
        have HSWccc := KpSd.num HSWcc hRWccc hOWccc
        go_wp2_with fail
        refine hK.out _ _ trivial (fun _ => ?_)
        clear hK K
        try simp only [Act.put, List.setIfInBounds_toArray, List.set_cons_zero, List.set_cons_succ]
        refine wpAnyH_take (i := 14) (oi := ⟨_, _, _, _, _, _⟩) (v := .agg #[.int .i64 ka, .int .i64 kb, .int .i64 kc]) rfl (by kernel_rfl) (by kernel_rfl) (by kernel_rfl) (fun _ _ _ h => h) (Or.inl ⟨wanted_free rfl, fun w' hSw => ?_⟩) trivial ?_
        · go_simp
        try simp only [Act.put, List.setIfInBounds_toArray, List.set_cons_zero, List.set_cons_succ]
        refine wpAnyH_ready (rs := [15]) (by kernel_rfl) (by simp) (AllReadyH.cons (o := ⟨_, _, _, _, _, _⟩) rfl (fun K hK => ?_) AllReadyH.nil)
        rewrite [if_pos (wanted_free rfl)]
        with_reducible refine wp_buildSg (w := Wccc) (.tmp 29) (by with_unfolding_all rfl) ka kb kc (by with_unfolding_all rfl) ?_
        intro Wcccc hAWcccc hBWcccc
        have HSWcccc := KpSd.call HSWccc hBWcccc
        refine hK.out _ _ trivial (fun _ => ?_)
        clear hK K
        try simp only [Act.put, List.setIfInBounds_toArray, List.set_cons_zero, List.set_cons_succ]
        refine wpAnyH_ready (rs := [16]) (by kernel_rfl) (by simp) (AllReadyH.cons (o := ⟨_, _, _, _, _, _⟩) rfl (fun K hK => ?_) AllReadyH.nil)
        rewrite [if_pos (wanted_free rfl)]
        with_reducible refine wp_appendSg (W := Wcccc) (.tmp 16) (.tmp 30) (by with_unfolding_all rfl) w.heap.size v l1 ⟨ka, kb, kc⟩ (by with_unfolding_all rfl) HSWcccc.out.own Wccc.heap.size (by with_unfolding_all rfl) hAWcccc hl1000 (KpSd.szH HSWcccc) ?_
        intro v2 wa hOa hGa hba
        have HSa := KpSd.app HSWcccc hOa hGa hba
        refine hK.out _ _ trivial (fun _ => ?_)
        clear hK K
        try simp only [Act.put, List.setIfInBounds_toArray, List.set_cons_zero, List.set_cons_succ]
        refine wpAnyH_take (i := 17) (oi := ⟨_, _, _, _, _, _⟩) (v := .pointer (some ⟨GA, 1, none⟩)) rfl (by kernel_rfl) (by kernel_rfl) (by kernel_rfl) (fun _ _ _ h => h) (Or.inl ⟨wanted_free rfl, fun w' hSw => ?_⟩) trivial ?_
        · go_simp
        try simp only [Act.put, List.setIfInBounds_toArray, List.set_cons_zero, List.set_cons_succ]
        obtain ⟨a2, cc2, rfl, -⟩ := OwnSg.form hOa
        refine wpAnyH_ready (rs := [18]) (by kernel_rfl) (by simp) (AllReadyH.cons (o := ⟨_, _, _, _, _, _⟩) rfl (fun K hK => ?_) AllReadyH.nil)
        rewrite [if_pos (wanted_free rfl)]
        with_reducible refine wp_cellO 57 (.tmp 32) (.tmp 31) (by with_unfolding_all rfl) GA 1 (sdv x v) (sdv x (.slice a2 (l1 ++ [(⟨ka, kb, kc⟩ : SigV)]).length cc2)) (.slice a2 (l1 ++ [(⟨ka, kb, kc⟩ : SigV)]).length cc2) (by with_unfolding_all rfl) (by with_unfolding_all rfl) rfl Try.size1Sgs (KpSd.r3H HSa) (by simp [sdv]) (by with_unfolding_all rfl) ?_
        intro wz hAz hOz
        have HSz := KpSd.put HSa hAz hOz
        refine hK.out _ _ trivial (fun _ => ?_)
        clear hK K
        refine wpAnyH_done (by kernel_rfl) ?_ _
        clear HSa HSW HSWc HSWcc HSWccc HSWcccc
        go_wp2
        go_roundw
        case rel => exact ⟨i + 1, c3, _, l1 ++ [⟨ka, kb, kc⟩], by go_num, by omega, hl3, by show _ = _; rw [List.length_append, HLn.out]; rfl, HWn, HRn, HSz⟩
        case measure => simp [intOf]; omega
      · as_aux_lemma =>
        rewrite [if_pos (wanted_free rfl)]
        go_simp
        refine (numYes g c2 c3 t kc Wcc hs hn3 (KpSd.curH HSWcc)).mono ?_
        rintro e Wccc ⟨rfl, hRWccc, hOWccc⟩
        have HSWccc := KpSd.num HSWcc hRWccc hOWccc
        go_wp2_with fail
        refine hK.out _ _ trivial (fun _ => ?_)
        clear hK K
        try simp only [Act.put, List.setIfInBounds_toArray, List.set_cons_zero, List.set_cons_succ]
        refine wpAnyH_take (i := 14) (oi := ⟨_, _, _, _, _, _⟩) (v := .agg #[.int .i64 ka, .int .i64 kb, .int .i64 kc]) rfl (by kernel_rfl) (by kernel_rfl) (by kernel_rfl) (fun _ _ _ h => h) (Or.inl ⟨wanted_free rfl, fun w' hSw => ?_⟩) trivial ?_
        · go_simp
        try simp only [Act.put, List.setIfInBounds_toArray, List.set_cons_zero, List.set_cons_succ]
        refine wpAnyH_ready (rs := [1, 15]) (by kernel_rfl) (by simp) (AllReadyH.cons (o := ⟨_, _, _, _, _, _⟩) rfl (fun K hK => ?_) (AllReadyH.cons (o := ⟨_, _, _, _, _, _⟩) rfl (fun K hK => ?_) AllReadyH.nil))
        · as_aux_lemma =>
          rewrite [if_pos (wanted_free rfl)]
          with_reducible refine wp_load1 57 109 (.tmp 15) (by with_unfolding_all rfl) GA 1 v (by with_unfolding_all rfl) (KpSd.cell HSWccc).2 Try.underlying57 ?_
          refine hK.out _ _ trivial (fun _ => ?_)
          clear hK K
          try simp only [Act.put, List.setIfInBounds_toArray, List.set_cons_zero, List.set_cons_succ]
          refine wpAnyH_ready (rs := [15]) (by kernel_rfl) (by simp) (AllReadyH.cons (o := ⟨_, _, _, _, _, _⟩) rfl (fun K hK => ?_) AllReadyH.nil)
          rewrite [if_pos (wanted_free rfl)]
          with_reducible refine wp_buildSg (w := Wccc) (.tmp 29) (by with_unfolding_all rfl) ka kb kc (by with_unfolding_all rfl) ?_
          intro Wcccc hAWcccc hBWcccc
          have HSWcccc := KpSd.call HSWccc hBWcccc
          refine hK.out _ _ trivial (fun _ => ?_)
          clear hK K
          try simp only [Act.put, List.setIfInBounds_toArray, List.set_cons_zero, List.set_cons_succ]
          refine wpAnyH_ready (rs := [16]) (by kernel_rfl) (by simp) (AllReadyH.cons (o := ⟨_, _, _, _, _, _⟩) rfl (fun K hK => ?_) AllReadyH.nil)
          rewrite [if_pos (wanted_free rfl)]
          with_reducible refine wp_appendSg (W := Wcccc) (.tmp 16) (.tmp 30) (by with_unfolding_all rfl) w.heap.size v l1 ⟨ka, kb, kc⟩ (by with_unfolding_all rfl) HSWcccc.out.own Wccc.heap.size (by with_unfolding_all rfl) hAWcccc hl1000 (KpSd.szH HSWcccc) ?_
          intro v2 wa hOa hGa hba
          have HSa := KpSd.app HSWcccc hOa hGa hba
          refine hK.out _ _ trivial (fun _ => ?_)
          clear hK K
          try simp only [Act.put, List.setIfInBounds_toArray, List.set_cons_zero, List.set_cons_succ]
          refine wpAnyH_take (i := 17) (oi := ⟨_, _, _, _, _, _⟩) (v := .pointer (some ⟨GA, 1, none⟩)) rfl (by kernel_rfl) (by kernel_rfl) (by kernel_rfl) (fun _ _ _ h => h) (Or.inl ⟨wanted_free rfl, fun w' hSw => ?_⟩) trivial ?_
          · go_simp
          try simp only [Act.put, List.setIfInBounds_toArray, List.set_cons_zero, List.set_cons_succ]
          obtain ⟨a2, cc2, rfl, -⟩ := OwnSg.form hOa
          refine wpAnyH_ready (rs := [18]) (by kernel_rfl) (by simp) (AllReadyH.cons (o := ⟨_, _, _, _, _, _⟩) rfl (fun K hK => ?_) AllReadyH.nil)
          rewrite [if_pos (wanted_free rfl)]
          with_reducible refine wp_cellO 57 (.tmp 32) (.tmp 31) (by with_unfolding_all rfl) GA 1 (sdv x v) (sdv x (.slice a2 (l1 ++ [(⟨ka, kb, kc⟩ : SigV)]).length cc2)) (.slice a2 (l1 ++ [(⟨ka, kb, kc⟩ : SigV)]).length cc2) (by with_unfolding_all rfl) (by with_unfolding_all rfl) rfl Try.size1Sgs (KpSd.r3H HSa) (by simp [sdv]) (by with_unfolding_all rfl) ?_
          intro wz hAz hOz
          have HSz := KpSd.put HSa hAz hOz
          refine hK.out _ _ trivial (fun _ => ?_)
          clear hK K
          refine wpAnyH_done (by kernel_rfl) ?_ _
          clear HSa HSW HSWc HSWcc HSWccc HSWcccc
          go_wp2
          go_roundw
          case rel => exact ⟨i + 1, c3, _, l1 ++ [⟨ka, kb, kc⟩], by go_num, by omega, hl3, by show _ = _; rw [List.length_append, HLn.out]; rfl, HWn, HRn, HSz⟩
          case measure => simp [intOf]; omega
        · as_aux_lemma =>
          rewrite [if_pos (wanted_free rfl)]
          with_reducible refine wp_buildSg (w := Wccc) (.tmp 29) (by with_unfolding_all rfl) ka kb kc (by with_unfolding_all rfl) ?_
          intro Wcccc hAWcccc hBWcccc
          have HSWcccc := KpSd.call HSWccc hBWcccc
          refine hK.out _ _ trivial (fun _ => ?_)
          clear hK K
          try simp only [Act.put, List.setIfInBounds_toArray, List.set_cons_zero, List.set_cons_succ]
          refine wpAnyH_ready (rs := [1]) (by kernel_rfl) (by simp) (AllReadyH.cons (o := ⟨_, _, _, _, _, _⟩) rfl (fun K hK => ?_) AllReadyH.nil)
          rewrite [if_pos (wanted_free rfl)]
          with_reducible refine wp_load1 57 109 (.tmp 15) (by with_unfolding_all rfl) GA 1 v (by with_unfolding_all rfl) (KpSd.cell HSWcccc).2 Try.underlying57 ?_
          refine hK.out _ _ trivial (fun _ => ?_)
          clear hK K
          try simp only [Act.put, List.setIfInBounds_toArray, List.set_cons_zero, List.set_cons_succ]
          refine wpAnyH_ready (rs := [16]) (by kernel_rfl) (by simp) (AllReadyH.cons (o := ⟨_, _, _, _, _, _⟩) rfl (fun K hK => ?_) AllReadyH.nil)
          rewrite [if_pos (wanted_free rfl)]
          with_reducible refine wp_appendSg (W := Wcccc) (.tmp 16) (.tmp 30) (by with_unfolding_all rfl) w.heap.size v l1 ⟨ka, kb, kc⟩ (by with_unfolding_all rfl) HSWcccc.out.own Wccc.heap.size (by with_unfolding_all rfl) hAWcccc hl1000 (KpSd.szH HSWcccc) ?_
          intro v2 wa hOa hGa hba
          have HSa := KpSd.app HSWcccc hOa hGa hba
          refine hK.out _ _ trivial (fun _ => ?_)
          clear hK K
          try simp only [Act.put, List.setIfInBounds_toArray, List.set_cons_zero, List.set_cons_succ]
          refine wpAnyH_take (i := 17) (oi := ⟨_, _, _, _, _, _⟩) (v := .pointer (some ⟨GA, 1, none⟩)) rfl (by kernel_rfl) (by kernel_rfl) (by kernel_rfl) (fun _ _ _ h => h) (Or.inl ⟨wanted_free rfl, fun w' hSw => ?_⟩) trivial ?_
          · go_simp
          try simp only [Act.put, List.setIfInBounds_toArray, List.set_cons_zero, List.set_cons_succ]
          obtain ⟨a2, cc2, rfl, -⟩ := OwnSg.form hOa
          refine wpAnyH_ready (rs := [18]) (by kernel_rfl) (by simp) (AllReadyH.cons (o := ⟨_, _, _, _, _, _⟩) rfl (fun K hK => ?_) AllReadyH.nil)
          rewrite [if_pos (wanted_free rfl)]
          with_reducible refine wp_cellO 57 (.tmp 32) (.tmp 31) (by with_unfolding_all rfl) GA 1 (sdv x v) (sdv x (.slice a2 (l1 ++ [(⟨ka, kb, kc⟩ : SigV)]).length cc2)) (.slice a2 (l1 ++ [(⟨ka, kb, kc⟩ : SigV)]).length cc2) (by with_unfolding_all rfl) (by with_unfolding_all rfl) rfl Try.size1Sgs (KpSd.r3H HSa) (by simp [sdv]) (by with_unfolding_all rfl) ?_
          intro wz hAz hOz
          have HSz := KpSd.put HSa hAz hOz
          refine hK.out _ _ trivial (fun _ => ?_)
          clear hK K
          refine wpAnyH_done (by kernel_rfl) ?_ _
          clear HSa HSW HSWc HSWcc HSWccc HSWcccc
          go_wp2
          go_roundw
          case rel => exact ⟨i + 1, c3, _, l1 ++ [⟨ka, kb, kc⟩], by go_num, by omega, hl3, by show _ = _; rw [List.length_append, HLn.out]; rfl, HWn, HRn, HSz⟩
          case measure => simp [intOf]; omega
end Go.Proofs.Ytnlalnkoggkdfaa
