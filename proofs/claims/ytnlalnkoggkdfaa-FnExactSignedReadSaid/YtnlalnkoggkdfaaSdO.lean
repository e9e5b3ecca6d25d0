/- What is signed, gathered while it is read: the numbers' bounds, the signatures that stand in a text, a row of the call's own. -/
import Derived.Test.YtnlalnkoggkdfaaCu3
import Derived.Test.YtnlalnkoggkdfaaSgI
import Derived.Test.YtnlalnkoggkdfaaSgL
import Derived.Maps.AppendAt
namespace Go.Proofs.Ytnlalnkoggkdfaa
open Go.RowKit
set_option linter.unusedVariables false

theorem unf_i64 {u : Nat} (h : u ≤ 18446744073709551615) : I64 (unf u) := by
  unfold I64 unf
  split <;> simp [Lit.wf, IntKind.min, IntKind.max, IntKind.signed, IntKind.bits] <;> omega
theorem Rd.i64 {s : ByteArray} {a : Nat} {R : G} : ∀ (m i u : Nat), i + m = 9 → Rd s a R i u → R.code = 0 → I64 R.n
  | m, i, u, hm, h, hc => by
    by_cases hlt : a + i < s.size
    · by_cases hl : s[a + i].toNat < 128 ∨ i = 9
      · have he := h.last hlt rfl hl
        unfold fin at he
        split at he
        · rw [he] at hc; exact absurd hc (by decide)
        · rename_i hn
          rw [he]
          exact unf_i64 (h.sum (d := s[a + i].toNat) (by omega) (by omega))
      · have h2 := h.more hlt rfl (by omega) (by omega)
        match m, hm with
        | 0, hm => omega
        | m + 1, hm => exact Rd.i64 m (i + 1) _ (by omega) h2 hc
    · rw [h.short hlt] at hc; exact absurd hc (by decide)
theorem numO_i64 {t : ByteArray} {p b : Nat} {n : Int} (h : numO t p = some (n, b)) : I64 n := by
  obtain ⟨hg, -, h2⟩ := numO_some h
  have hh : scan t p 10 0 0 = ⟨n, b, 0⟩ := by
    have := hg
    unfold getN at this
    rw [if_neg (by omega), if_neg (by omega)] at this
    simpa using this
  have := Rd.i64 9 0 0 rfl (Rd.start t p) (by rw [hh])
  rw [hh] at this
  exact this
/- So many signatures, one behind the other. -/
def sigsO (t : ByteArray) : Nat → Nat → Option (List SigV × Nat)
  | 0, p => some ([], p)
  | m + 1, p => match numO t p with
    | none => none
    | some (a, b1) => match numO t b1 with
      | none => none
      | some (b, b2) => match numO t b2 with
        | none => none
        | some (c, b3) => match sigsO t m b3 with
          | none => none
          | some (l, q) => some (⟨a, b, c⟩ :: l, q)
/- What is still to be read, behind what was. -/
def restO (t x : ByteArray) (l1 : List SigV) (m p : Nat) : Option (ByteArray × List SigV × Nat) := match sigsO t m p with
  | none => none
  | some (l2, q) => if signedB x (l1 ++ l2) then some (x, l1 ++ l2, q) else none
theorem restO_end {t x : ByteArray} {l1 : List SigV} {p : Nat} : restO t x l1 0 p = if signedB x l1 then some (x, l1, p) else none := by
  unfold restO sigsO
  simp
theorem restO_step {t x : ByteArray} {l1 : List SigV} {m p b1 b2 b3 : Nat} {a b c : Int} (h1 : numO t p = some (a, b1)) (h2 : numO t b1 = some (b, b2)) (h3 : numO t b2 = some (c, b3)) : restO t x l1 (m + 1) p = restO t x (l1 ++ [⟨a, b, c⟩]) m b3 := by
  unfold restO
  rw [sigsO, h1]
  simp only
  rw [h2]
  simp only
  rw [h3]
  simp only
  cases sigsO t m b3 with
  | none => rfl
  | some y => simp
theorem restO_no1 {t x : ByteArray} {l1 : List SigV} {m p : Nat} (h1 : numO t p = none) : restO t x l1 (m + 1) p = none := by
  unfold restO
  rw [sigsO, h1]
theorem restO_no2 {t x : ByteArray} {l1 : List SigV} {m p b1 : Nat} {a : Int} (h1 : numO t p = some (a, b1)) (h2 : numO t b1 = none) : restO t x l1 (m + 1) p = none := by
  unfold restO
  rw [sigsO, h1]
  simp only
  rw [h2]
theorem restO_no3 {t x : ByteArray} {l1 : List SigV} {m p b1 b2 : Nat} {a b : Int} (h1 : numO t p = some (a, b1)) (h2 : numO t b1 = some (b, b2)) (h3 : numO t b2 = none) : restO t x l1 (m + 1) p = none := by
  unfold restO
  rw [sigsO, h1]
  simp only
  rw [h2]
  simp only
  rw [h3]
/- A Signed that stands in a text from a place on. -/
def signedO (t : ByteArray) (p : Nat) : Option (ByteArray × List SigV × Nat) := match textO t p with
  | none => none
  | some (x, b1) => match countO t b1 16 with
    | none => none
    | some (k, b2) => restO t x [] k b2
/- Rows of signatures of the call's own. -/
def OwnSg (w : World) (base : Nat) (v : Value) (l : List SigV) : Prop := w.ownsRow base 109 3 v l.length (sgL l).flatten
theorem flat_len (l : List SigV) : (sgL l).flatten.length = l.length * 3 := by
  induction l with
  | nil => rfl
  | cons x l ih => show (svs x.k x.e x.s ++ (sgL l).flatten).length = _; rw [List.length_append, ih, List.length_cons]; show 3 + _ = _; omega
theorem flat_app (a b : List SigV) : (sgL (a ++ b)).flatten = (sgL a).flatten ++ (sgL b).flatten := by unfold sgL; rw [List.map_append, List.flatten_append]
theorem flat_get : ∀ (l : List SigV) (i : Nat) (h : i < l.length), (sgL l).flatten[i * 3]? = some (.int .i64 l[i].k) ∧ (sgL l).flatten[i * 3 + 1]? = some (.int .i64 l[i].e) ∧ (sgL l).flatten[i * 3 + 2]? = some (.int .i64 l[i].s)
  | x :: l, 0, h => ⟨rfl, rfl, rfl⟩
  | x :: l, i + 1, h => by
    have := flat_get l i (by simpa using h)
    rw [show (i + 1) * 3 = i * 3 + 3 by omega]
    exact this
theorem OwnSg.form {w : World} {base : Nat} {v : Value} {l : List SigV} (h : OwnSg w base v l) : ∃ a c, v = .slice a l.length c ∧ SgsAt w a l := by
  rcases h.2 with ⟨h0, hn⟩ | ⟨g, cap, cur, hv, hbg, hg, h1, h2, h3, h4⟩
  · exact ⟨none, 0, by rw [h0, hn], fun i hi => by omega⟩
  · subst hv
    refine ⟨some ⟨g, 0, none⟩, cap, rfl, fun i hi => ?_⟩
    have h' : w.ownsRow base 109 3 (.slice (some ⟨g, 0, none⟩) l.length cap) l.length (sgL l).flatten := h
    obtain ⟨e0, e1, e2⟩ := flat_get l i hi
    have hc : ∀ j u, j < l.length * 3 → (sgL l).flatten[j]? = some u → w.cell? ⟨g, 0 + j, none⟩ = some u := fun j u hj hu => by
      rw [Nat.zero_add, World.ownsRow.cellAt h' j hj, hu]
    exact ⟨g, 0, rfl, hc _ _ (by omega) e0, by have := hc _ _ (by omega) e1; rw [← Nat.add_assoc] at this; exact this, by have := hc _ _ (by omega) e2; rw [← Nat.add_assoc] at this; exact this⟩
theorem own_same {w w' : World} {base e s : Nat} {v : Value} {n : Nat} {xs : List Value} (h : w.ownsRow base e s v n xs) (hk : ∀ k, v.ownBlock = some k → k < w.heap.size → w'.heap[k]? = w.heap[k]?) : w'.ownsRow base e s v n xs := by
  refine ⟨h.1, ?_⟩
  rcases h.2 with h0 | ⟨g, cap, cur, hv, hbg, hg, h1, h2, h3, h4⟩
  · exact .inl h0
  · exact .inr ⟨g, cap, cur, hv, hbg, (hk g (by rw [hv]; rfl) (Array.getElem?_eq_some_iff.1 hg).1).trans hg, h1, h2, h3, h4⟩
theorem own_ge {w : World} {base e s : Nat} {v : Value} {n : Nat} {xs : List Value} (h : w.ownsRow base e s v n xs) {k : Nat} (hk : v.ownBlock = some k) : base ≤ k ∧ k < w.heap.size := by
  rcases h.2 with ⟨h0, _⟩ | ⟨g, cap, cur, hv, hbg, hg, _⟩
  · rw [h0] at hk; cases hk
  · rw [hv] at hk
    cases hk
    exact ⟨hbg, (Array.getElem?_eq_some_iff.1 hg).1⟩
theorem row_blk {w w' : World} {g : Nat} {l : List Value} (h : RowV w g l) (hk : w'.heap[g]? = w.heap[g]?) : RowV w' g l := h.same fun k => same_far (x := ⟨g, k, none⟩) hk
theorem wp_buildSg {o : Oper} {a : Act} {w : World} {K : Act → World → Prop} {Q : Exit → Act → World → Prop} (x0 : Operand) (ho : o.op = .buildSlice 57 1 #[(0, x0)]) (k e s : Int) (e0 : a.eval x0 = .agg #[.int .i64 k, .int .i64 e, .int .i64 s])
    (h : ∀ w', RowV w' w.heap.size (svs k e s) → Below w.heap.size w w' → K (a.put o.dst (.slice (some ⟨w.heap.size, 0, none⟩) 1 1)) w') : o.wp Try.prog a w K Q := by
  obtain ⟨i0, hi, hz0, hz1, hz2⟩ := info_parts Try.infoSg
  refine wp_buildSlice 57 109 1 _ ho (svs k e s).toArray i0 _ Try.underlying57 hi hz0 (by rw [hz1]; omega) (by rw [hz1]; omega) ?_ (h _ (RowV.new w (svs k e s) 109) (below_alloc _ _))
  rw [hz1]
  simp only [List.map_toArray, List.map, e0]
  kernel_rfl
theorem wp_appendSg {W : World} {o : Oper} {a : Act} {K : Act → World → Prop} {Q : Exit → Act → World → Prop} (s x : Operand) (ho : o.op = .call { callee := .builtin .append, args := #[s, x], argTypes := #[57, 57] })
    (base : Nat) (v : Value) (l : List SigV) (y : SigV) (hs : a.eval s = v) (hown : OwnSg W base v l) (B : Nat) (hx : a.eval x = .slice (some ⟨B, 0, none⟩) 1 1) (hB : RowV W B (svs y.k y.e y.s)) (hn : l.length ≤ 1000) (hbase : base ≤ W.heap.size)
    (h : ∀ v' w', OwnSg w' base v' (l ++ [y]) → W.grownBy w' v.ownBlock → (v'.ownBlock = v.ownBlock ∨ v'.ownBlock = some W.heap.size) → K (a.put o.dst v') w') : Oper.wp Try.prog o a W K Q := by
  obtain ⟨i0, hi, hz0, hz1, hz2⟩ := info_parts Try.infoSg
  obtain ⟨v', w', hr, h2, h3, h4, h5⟩ := run_append_own_at (P := Try.prog) W base 57 o.type 109 i0 _ 3 24 Try.underlying57 hi hz0 hz1 hz2 rfl (by decide) v l.length (sgL l).flatten hown ⟨B, 0, none⟩ 1 1 (svs y.k y.e y.s) rfl
    (fun j u hj => by rw [Addr.add_lit]; have := hB.rng j u hj; exact this) (svs_one _ _ _) (by unfold maxLen; omega) (by omega) hbase
  unfold Oper.wp execOp
  simp only [ho, resolve, invoke, builtin, Sem.run_bind, Sem.run_pure, Result.andThen_ok, List.map_toArray, List.map_cons, List.map_nil, hs, hx, hr]
  refine h v' w' ?_ h3 h5
  unfold OwnSg
  rw [flat_app, List.length_append]
  have e : (sgL [y]).flatten = svs y.k y.e y.s := by unfold sgL; simp
  rw [e]
  exact h2
def sdv (x : ByteArray) (v : Value) : List Value := [.string x, v]
theorem sdv_ne (x : ByteArray) (v : Value) : sdv x v ≠ [] := by simp [sdv]
/- What stands while a Signed is read. -/
structure KpSd (w : World) (g G2 G3 : Nat) (t : ByteArray) (p : Nat) (x : ByteArray) (vr v : Value) (l : List SigV) (w' : World) : Prop where
  only : Only g w w'
  cur : RowV w' g (cuv t p)
  r2 : RowV w' G2 (sgv ⟨#[]⟩ none 0 0)
  r3 : RowV w' G3 (sdv x vr)
  own : OwnSg w' w.heap.size v l
  lg : g < w.heap.size
  l2 : w.heap.size ≤ G2
  l3 : w.heap.size ≤ G3
  n23 : G2 ≠ G3
  n2 : v.ownBlock ≠ some G2
  n3 : v.ownBlock ≠ some G3
theorem KpSd.num {w w' w2 : World} {g G2 G3 p q : Nat} {t x : ByteArray} {vr v : Value} {l : List SigV} (h : Hid (KpSd w g G2 G3 t p x vr v l w')) (hr : RowV w2 g (cuv t q)) (ho : Only g w' w2) : Hid (KpSd w g G2 G3 t q x vr v l w2) := by
  have hg := h.out.lg
  have := h.out.l2
  have := h.out.l3
  exact ⟨h.out.only.trans ho, hr, ho.row h.out.r2 (sgv_ne _ _ _ _) (by omega), ho.row h.out.r3 (sdv_ne _ _) (by omega), own_same h.out.own (fun k hk hl => ho.blk k (by have := (own_ge h.out.own hk).1; omega) hl), hg, h.out.l2, h.out.l3, h.out.n23, h.out.n2, h.out.n3⟩
theorem KpSd.call {w w' w2 : World} {g G2 G3 p : Nat} {t x : ByteArray} {vr v : Value} {l : List SigV} (h : Hid (KpSd w g G2 G3 t p x vr v l w')) (hb : Below w'.heap.size w' w2) : Hid (KpSd w g G2 G3 t p x vr v l w2) :=
  ⟨h.out.only.trans (Only.of hb (Nat.le_trans (Nat.le_of_lt h.out.lg) h.out.only.size)), h.out.cur.below hb (h.out.cur.lt (cuv_ne _ _)), h.out.r2.below hb (h.out.r2.lt (sgv_ne _ _ _ _)), h.out.r3.below hb (h.out.r3.lt (sdv_ne _ _)), own_same h.out.own (fun k _ hl => hb.block k hl), h.out.lg, h.out.l2, h.out.l3, h.out.n23, h.out.n2, h.out.n3⟩
theorem KpSd.drew {w w' : World} {g G2 G3 p : Nat} {t x : ByteArray} {vr v : Value} {l : List SigV} (h : Hid (KpSd w g G2 G3 t p x vr v l w')) : Hid (KpSd w g G2 G3 t p x vr v l w'.drew) :=
  ⟨h.out.only.drew, h.out.cur.drew, h.out.r2.drew, h.out.r3.drew, h.out.own, h.out.lg, h.out.l2, h.out.l3, h.out.n23, h.out.n2, h.out.n3⟩
theorem KpSd.app {w w' w2 : World} {g G2 G3 p : Nat} {t x : ByteArray} {vr v v' : Value} {l l' : List SigV} (h : Hid (KpSd w g G2 G3 t p x vr v l w')) (ho : OwnSg w2 w.heap.size v' l') (hg : w'.grownBy w2 v.ownBlock) (hb : v'.ownBlock = v.ownBlock ∨ v'.ownBlock = some w'.heap.size) : Hid (KpSd w g G2 G3 t p x vr v' l' w2) := by
  have e := h.out.lg
  have el := h.out.only.size
  have hb2 := h.out.r2.lt (sgv_ne _ _ _ _)
  have hb3 := h.out.r3.lt (sdv_ne _ _)
  have old : ∀ k, k < w.heap.size → w2.heap[k]? = w'.heap[k]? := fun k hk => hg.block k (by omega) (fun e => by have := (own_ge h.out.own e.symm).1; omega)
  refine ⟨⟨h.out.only.below.trans ⟨hg.os, hg.tape, hg.output, hg.size, fun k hk => old k (by omega)⟩, fun k hk hl => (old k hl).trans (h.out.only.blk k hk hl), Nat.le_trans el hg.size⟩, row_blk h.out.cur (old g e), row_blk h.out.r2 (hg.block G2 hb2 (fun e => h.out.n2 e.symm)), row_blk h.out.r3 (hg.block G3 hb3 (fun e => h.out.n3 e.symm)), ho, e, h.out.l2, h.out.l3, h.out.n23, ?_, ?_⟩
  · rcases hb with hb | hb
    · rw [hb]; exact h.out.n2
    · rw [hb]; intro e; injection e with e; omega
  · rcases hb with hb | hb
    · rw [hb]; exact h.out.n3
    · rw [hb]; intro e; injection e with e; omega
theorem KpSd.put {w w' w2 : World} {g G2 G3 p : Nat} {t x : ByteArray} {vr v : Value} {l : List SigV} (h : Hid (KpSd w g G2 G3 t p x vr v l w')) (hr : RowV w2 G3 (sdv x v)) (ho : Only G3 w' w2) : Hid (KpSd w g G2 G3 t p x v v l w2) := by
  have e := h.out.lg
  have e3 := h.out.l3
  refine ⟨⟨h.out.only.below.trans (ho.below.mono (by omega)), fun k hk hl => (ho.blk k (by omega) (Nat.lt_of_lt_of_le hl h.out.only.size)).trans (h.out.only.blk k hk hl), Nat.le_trans h.out.only.size ho.size⟩, ho.row h.out.cur (cuv_ne _ _) (by omega), ho.row h.out.r2 (sgv_ne _ _ _ _) h.out.n23, hr, own_same h.out.own (fun k hk hl => ho.blk k (fun e => h.out.n3 (by rw [hk, e])) hl), e, h.out.l2, h.out.l3, h.out.n23, h.out.n2, h.out.n3⟩
theorem KpSd.cell {w w' : World} {g G2 G3 p : Nat} {t x : ByteArray} {vr v : Value} {l : List SigV} (h : Hid (KpSd w g G2 G3 t p x vr v l w')) : w'.cell? ⟨G3, 0, none⟩ = some (.string x) ∧ w'.cell? ⟨G3, 1, none⟩ = some vr := ⟨h.out.r3.cell (k := 0) rfl, h.out.r3.cell (k := 1) rfl⟩
theorem KpSd.curH {w w' : World} {g G2 G3 p : Nat} {t x : ByteArray} {vr v : Value} {l : List SigV} (h : Hid (KpSd w g G2 G3 t p x vr v l w')) : RowV w' g (cuv t p) := h.out.cur
end Go.Proofs.Ytnlalnkoggkdfaa
