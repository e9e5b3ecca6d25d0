/- Rows of signatures of the call's own. -/
import Derived.Test.YtmahpmjkejnkfaaDoorSgL
import Derived.Test.YtmahpmjkejnkfaaDoorOnl
import Derived.Maps.AppendAt
import Derived.Great.BuildSlice
import Derived.Great.FillDense
namespace Go.Proofs.YtmahpmjkejnkfaaDoor
open Go.RowKit
set_option linter.unusedVariables false

def OwnSg (w : World) (base : Nat) (v : Value) (l : List SigV) : Prop := w.ownsRow base 57 3 v l.length (sgL l).flatten
theorem flat_len (l : List SigV) : (sgL l).flatten.length = l.length * 3 := by
  induction l with
  | nil => rfl
  | cons x l ih => show (svs x.k x.e x.s ++ (sgL l).flatten).length = _; rw [List.length_append, ih, List.length_cons]; show 3 + _ = _; omega
theorem flat_app (a b : List SigV) : (sgL (a ++ b)).flatten = (sgL a).flatten ++ (sgL b).flatten := by unfold sgL; rw [List.map_append, List.flatten_append]
theorem flat_get : ∀ (l : List SigV) (i : Nat) (h : i < l.length), (sgL l).flatten[i * 3]? = some (.int .i64 l[i].k) ∧ (sgL l).flatten[i * 3 + 1]? = some (.int .i64 l[i].e) ∧ (sgL l).flatten[i * 3 + 2]? = some (.int .i64 l[i].s)
  | x :: l, 0, h => ⟨rfl, rfl, rfl⟩
  | x :: l, i + 1, h => by
    have := flat_get l i (by simpa using h)
    rw [show (i + 1) * 3 = i * 3 + 3 by omega]
    exact this
theorem OwnSg.form {w : World} {base : Nat} {v : Value} {l : List SigV} (h : OwnSg w base v l) : ∃ a c, v = .slice a l.length c ∧ SgsAt w a l := by
  rcases h.2 with ⟨h0, hn⟩ | ⟨g, cap, cur, hv, hbg, hg, h1, h2, h3, h4⟩
  · exact ⟨none, 0, by rw [h0, hn], fun i hi => by omega⟩
  · subst hv
    refine ⟨some ⟨g, 0, none⟩, cap, rfl, fun i hi => ?_⟩
    have h' : w.ownsRow base 57 3 (.slice (some ⟨g, 0, none⟩) l.length cap) l.length (sgL l).flatten := h
    obtain ⟨e0, e1, e2⟩ := flat_get l i hi
    have hc : ∀ j u, j < l.length * 3 → (sgL l).flatten[j]? = some u → w.cell? ⟨g, 0 + j, none⟩ = some u := fun j u hj hu => by
      rw [Nat.zero_add, World.ownsRow.cellAt h' j hj, hu]
    exact ⟨g, 0, rfl, hc _ _ (by omega) e0, by have := hc _ _ (by omega) e1; rw [← Nat.add_assoc] at this; exact this, by have := hc _ _ (by omega) e2; rw [← Nat.add_assoc] at this; exact this⟩
theorem own_same {w w' : World} {base e s : Nat} {v : Value} {n : Nat} {xs : List Value} (h : w.ownsRow base e s v n xs) (hk : ∀ k, v.ownBlock = some k → k < w.heap.size → w'.heap[k]? = w.heap[k]?) : w'.ownsRow base e s v n xs := by
  refine ⟨h.1, ?_⟩
  rcases h.2 with h0 | ⟨g, cap, cur, hv, hbg, hg, h1, h2, h3, h4⟩
  · exact .inl h0
  · exact .inr ⟨g, cap, cur, hv, hbg, (hk g (by rw [hv]; rfl) (Array.getElem?_eq_some_iff.1 hg).1).trans hg, h1, h2, h3, h4⟩
theorem own_ge {w : World} {base e s : Nat} {v : Value} {n : Nat} {xs : List Value} (h : w.ownsRow base e s v n xs) {k : Nat} (hk : v.ownBlock = some k) : base ≤ k ∧ k < w.heap.size := by
  rcases h.2 with ⟨h0, _⟩ | ⟨g, cap, cur, hv, hbg, hg, _⟩
  · rw [h0] at hk; cases hk
  · rw [hv] at hk
    cases hk
    exact ⟨hbg, (Array.getElem?_eq_some_iff.1 hg).1⟩
theorem row_blk {w w' : World} {g : Nat} {l : List Value} (h : RowV w g l) (hk : w'.heap[g]? = w.heap[g]?) : RowV w' g l := h.same fun k => same_far (x := ⟨g, k, none⟩) hk
theorem wp_buildSg {o : Oper} {a : Act} {w : World} {K : Act → World → Prop} {Q : Exit → Act → World → Prop} (x0 : Operand) (ho : o.op = .buildSlice 33 1 #[(0, x0)]) (k e s : Int) (e0 : a.eval x0 = .agg #[.int .i64 k, .int .i64 e, .int .i64 s])
    (h : ∀ w', RowV w' w.heap.size (svs k e s) → Below w.heap.size w w' → K (a.put o.dst (.slice (some ⟨w.heap.size, 0, none⟩) 1 1)) w') : o.wp Tryd.prog a w K Q := by
  obtain ⟨i0, hi, hz0, hz1, hz2⟩ := info_parts Tryd.infoSg
  refine wp_buildSlice 33 57 1 _ ho (svs k e s).toArray i0 _ Tryd.underlying33 hi hz0 (by rw [hz1]; omega) (by rw [hz1]; omega) ?_ (h _ (RowV.new w (svs k e s) 57) (below_alloc _ _))
  rw [hz1]
  simp only [List.map_toArray, List.map, e0]
  kernel_rfl
theorem wp_appendSg {W : World} {o : Oper} {a : Act} {K : Act → World → Prop} {Q : Exit → Act → World → Prop} (s x : Operand) (ho : o.op = .call { callee := .builtin .append, args := #[s, x], argTypes := #[33, 33] })
    (base : Nat) (v : Value) (l : List SigV) (y : SigV) (hs : a.eval s = v) (hown : OwnSg W base v l) (B : Nat) (hx : a.eval x = .slice (some ⟨B, 0, none⟩) 1 1) (hB : RowV W B (svs y.k y.e y.s)) (hn : l.length ≤ 1000) (hbase : base ≤ W.heap.size)
    (h : ∀ v' w', OwnSg w' base v' (l ++ [y]) → W.grownBy w' v.ownBlock → (v'.ownBlock = v.ownBlock ∨ v'.ownBlock = some W.heap.size) → K (a.put o.dst v') w') : Oper.wp Tryd.prog o a W K Q := by
  obtain ⟨i0, hi, hz0, hz1, hz2⟩ := info_parts Tryd.infoSg
  obtain ⟨v', w', hr, h2, h3, h4, h5⟩ := run_append_own_at (P := Tryd.prog) W base 33 o.type 57 i0 _ 3 24 Tryd.underlying33 hi hz0 hz1 hz2 rfl (by decide) v l.length (sgL l).flatten hown ⟨B, 0, none⟩ 1 1 (svs y.k y.e y.s) rfl
    (fun j u hj => by rw [Addr.add_lit]; have := hB.rng j u hj; exact this) (svs_one _ _ _) (by unfold maxLen; omega) (by omega) hbase
  unfold Oper.wp execOp
  simp only [ho, resolve, invoke, builtin, Sem.run_bind, Sem.run_pure, Result.andThen_ok, List.map_toArray, List.map_cons, List.map_nil, hs, hx, hr]
  refine h v' w' ?_ h3 h5
  unfold OwnSg
  rw [flat_app, List.length_append]
  have e : (sgL [y]).flatten = svs y.k y.e y.s := by unfold sgL; simp
  rw [e]
  exact h2
theorem wp_cellO {P : Program} {o : Oper} {a : Act} {w : World} {K : Act → World → Prop} {Q : Exit → Act → World → Prop} (t : TypeId) (x y : Operand) (ho : o.op = .store t x y) (g k : Nat) (l l' : List Value) (v : Value)
    (hx : a.eval x = .pointer (some ⟨g, k, none⟩)) (hy : a.eval y = v) (hp : plainV v = true) (hi : (P.info? t).map (·.size) = some 1) (hl : RowV w g l) (hk : k < l.length) (hl' : l' = l.set k v)
    (h : ∀ w', RowV w' g l' → Only g w w' → K (a.put o.dst undef) w') : o.wp P a w K Q := by
  have hc : w.cell? ⟨g, k, none⟩ = some l[k] := hl.cell (List.getElem?_eq_getElem hk)
  have hf : w.frozen? ⟨g, k, none⟩ = false := hl.frozen hk
  have hh := h _ (hl.setAt hk hl') (Only.set (fun B hB => (Below.refl B w).setCell hB v) (fun j hj => Below.heap_setCell _ _ _ _ hj) (World.size_setCell ..))
  generalize l[k] = u at hc
  obtain ⟨ti, hti, hts⟩ := Option.map_eq_some_iff.1 hi
  cases v with
  | int kd n =>
    simp only [Oper.wp, execOp, ho, hx, hy, Instr.storeAt, Instr.sureAddr, Sem.run_bind, Sem.run_pure, Result.andThen_ok]
    simp [go_sem, hc, hf, hti, hts, storeCells, sizeOf, typeInfo]
    exact hh
  | string s =>
    simp only [Oper.wp, execOp, ho, hx, hy, Instr.storeAt, Instr.sureAddr, Sem.run_bind, Sem.run_pure, Result.andThen_ok]
    simp [go_sem, hc, hf, hti, hts, storeCells, sizeOf, typeInfo]
    exact hh
  | slice p n c =>
    simp only [Oper.wp, execOp, ho, hx, hy, Instr.storeAt, Instr.sureAddr, Sem.run_bind, Sem.run_pure, Result.andThen_ok]
    simp [go_sem, hc, hf, hti, hts, storeCells, sizeOf, typeInfo]
    exact hh
  | _ => simp [plainV] at hp
theorem wp_load1 {P : Program} {o : Oper} {a : Act} {w : World} {K : Act → World → Prop} {Q : Exit → Act → World → Prop} (t e : TypeId) (x : Operand) (ho : o.op = .load t x) (g k : Nat) (v : Value) (hx : a.eval x = .pointer (some ⟨g, k, none⟩)) (hc : w.cell? ⟨g, k, none⟩ = some v) (ht : P.underlying t = some (.slice e))
    (h : K (a.put o.dst v) w) : o.wp P a w K Q := by
  have h2 : (loadVar t ⟨g, k, none⟩).run P w = .ok v w := by simp [loadVar, isAgg, run_underlying ht, go_sem, hc]
  unfold Oper.wp execOp
  simp only [ho, hx, Instr.loadAt, Instr.sureAddr, Sem.run_bind, Sem.run_pure, Result.andThen_ok, h2]
  exact h
theorem wpList_buildSg {ops : Array Oper} {rest : List Oper} {o : Oper} {a : Act} {w : World} {Q : Exit → Act → World → Prop} (hg : o.guard = none) (x0 : Operand) (ho : o.op = .buildSlice 33 1 #[(0, x0)]) (k e s : Int) (e0 : a.eval x0 = .agg #[.int .i64 k, .int .i64 e, .int .i64 s])
    (h : ∀ w', RowV w' w.heap.size (svs k e s) → Below w.heap.size w w' → wpList Tryd.prog ops Q rest (a.put o.dst (.slice (some ⟨w.heap.size, 0, none⟩) 1 1)) w') : wpList Tryd.prog ops Q (o :: rest) a w :=
  wpList_plain hg fun _ hK => wp_buildSg x0 ho k e s e0 (fun w' h1 h2 => hK _ _ (h w' h1 h2))
theorem wpList_appendSg {ops : Array Oper} {rest : List Oper} {W : World} {o : Oper} {a : Act} {Q : Exit → Act → World → Prop} (hg : o.guard = none) (s x : Operand) (ho : o.op = .call { callee := .builtin .append, args := #[s, x], argTypes := #[33, 33] })
    (base : Nat) (v : Value) (l : List SigV) (y : SigV) (hs : a.eval s = v) (hown : OwnSg W base v l) (B : Nat) (hx : a.eval x = .slice (some ⟨B, 0, none⟩) 1 1) (hB : RowV W B (svs y.k y.e y.s)) (hn : l.length ≤ 1000) (hbase : base ≤ W.heap.size)
    (h : ∀ v' w', OwnSg w' base v' (l ++ [y]) → W.grownBy w' v.ownBlock → wpList Tryd.prog ops Q rest (a.put o.dst v') w') : wpList Tryd.prog ops Q (o :: rest) a W :=
  wpList_plain hg fun _ hK => wp_appendSg s x ho base v l y hs hown B hx hB hn hbase (fun v' w' h1 h2 _ => hK _ _ (h v' w' h1 h2))
end Go.Proofs.YtmahpmjkejnkfaaDoor
