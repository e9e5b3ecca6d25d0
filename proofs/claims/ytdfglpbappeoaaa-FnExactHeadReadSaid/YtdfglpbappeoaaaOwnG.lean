/- Rows of signatures of the call's own. -/
import Derived.Test.YtdfglpbappeoaaaSgL
import Derived.Test.YtdfglpbappeoaaaOnl
import Derived.Maps.AppendAt
import Derived.Great.BuildSlice
import Derived.Great.FillDense
namespace Go.Proofs.Ytdfglpbappeoaaa
open Go.RowKit
set_option linter.unusedVariables false

def OwnSg (w : World) (base : Nat) (v : Value) (l : List SigV) : Prop := w.ownsRow base 113 3 v l.length (sgL l).flatten
theorem flat_len (l : List SigV) : (sgL l).flatten.length = l.length * 3 := by
  induction l with
  | nil => rfl
  | cons x l ih => show (svs x.k x.e x.s ++ (sgL l).flatten).length = _; rw [List.length_append, ih, List.length_cons]; show 3 + _ = _; omega
theorem flat_app (a b : List SigV) : (sgL (a ++ b)).flatten = (sgL a).flatten ++ (sgL b).flatten := by unfold sgL; rw [List.map_append, List.flatten_append]
theorem flat_get : ∀ (l : List SigV) (i : Nat) (h : i < l.length), (sgL l).flatten[i * 3]? = some (.int .i64 l[i].k) ∧ (sgL l).flatten[i * 3 + 1]? = some (.int .i64 l[i].e) ∧ (sgL l).flatten[i * 3 + 2]? = some (.int .i64 l[i].s)
  | x :: l, 0, h => ⟨rfl, rfl, rfl⟩
  | x :: l, i + 1, h => by
    have := flat_get l i (by simpa using h)
    rw [show (i + 1) * 3 = i * 3 + 3 by omega]
    exact this
theorem OwnSg.form {w : World} {base : Nat} {v : Value} {l : List SigV} (h : OwnSg w base v l) : ∃ a c, v = .slice a l.length c ∧ SgsAt w a l := by
  rcases h.2 with ⟨h0, hn⟩ | ⟨g, cap, cur, hv, hbg, hg, h1, h2, h3, h4⟩
  · exact ⟨none, 0, by rw [h0, hn], fun i hi => by omega⟩
  · subst hv
    refine ⟨some ⟨g, 0, none⟩, cap, rfl, fun i hi => ?_⟩
    have h' : w.ownsRow base 113 3 (.slice (some ⟨g, 0, none⟩) l.length cap) l.length (sgL l).flatten := h
    obtain ⟨e0, e1, e2⟩ := flat_get l i hi
    have hc : ∀ j u, j < l.length * 3 → (sgL l).flatten[j]? = some u → w.cell? ⟨g, 0 + j, none⟩ = some u := fun j u hj hu => by
      rw [Nat.zero_add, World.ownsRow.cellAt h' j hj, hu]
    exact ⟨g, 0, rfl, hc _ _ (by omega) e0, by have := hc _ _ (by omega) e1; rw [← Nat.add_assoc] at this; exact this, by have := hc _ _ (by omega) e2; rw [← Nat.add_assoc] at this; exact this⟩
theorem wp_buildSg {o : Oper} {a : Act} {w : World} {K : Act → World → Prop} {Q : Exit → Act → World → Prop} (x0 : Operand) (ho : o.op = .buildSlice 65 1 #[(0, x0)]) (k e s : Int) (e0 : a.eval x0 = .agg #[.int .i64 k, .int .i64 e, .int .i64 s])
    (h : ∀ w', RowV w' w.heap.size (svs k e s) → Below w.heap.size w w' → K (a.put o.dst (.slice (some ⟨w.heap.size, 0, none⟩) 1 1)) w') : o.wp Try.prog a w K Q := by
  obtain ⟨i0, hi, hz0, hz1, hz2⟩ := info_parts Try.infoSg
  refine wp_buildSlice 65 113 1 _ ho (svs k e s).toArray i0 _ Try.underlying65 hi hz0 (by rw [hz1]; omega) (by rw [hz1]; omega) ?_ (h _ (RowV.new w (svs k e s) 113) (below_alloc _ _))
  rw [hz1]
  simp only [List.map_toArray, List.map, e0]
  kernel_rfl
theorem wp_appendSg {W : World} {o : Oper} {a : Act} {K : Act → World → Prop} {Q : Exit → Act → World → Prop} (s x : Operand) (ho : o.op = .call { callee := .builtin .append, args := #[s, x], argTypes := #[65, 65] })
    (base : Nat) (v : Value) (l : List SigV) (y : SigV) (hs : a.eval s = v) (hown : OwnSg W base v l) (B : Nat) (hx : a.eval x = .slice (some ⟨B, 0, none⟩) 1 1) (hB : RowV W B (svs y.k y.e y.s)) (hn : l.length ≤ 1000) (hbase : base ≤ W.heap.size)
    (h : ∀ v' w', OwnSg w' base v' (l ++ [y]) → W.grownBy w' v.ownBlock → (v'.ownBlock = v.ownBlock ∨ v'.ownBlock = some W.heap.size) → K (a.put o.dst v') w') : Oper.wp Try.prog o a W K Q := by
  obtain ⟨i0, hi, hz0, hz1, hz2⟩ := info_parts Try.infoSg
  obtain ⟨v', w', hr, h2, h3, h4, h5⟩ := run_append_own_at (P := Try.prog) W base 65 o.type 113 i0 _ 3 24 Try.underlying65 hi hz0 hz1 hz2 rfl (by decide) v l.length (sgL l).flatten hown ⟨B, 0, none⟩ 1 1 (svs y.k y.e y.s) rfl
    (fun j u hj => by rw [Addr.add_lit]; have := hB.rng j u hj; exact this) (svs_one _ _ _) (by unfold maxLen; omega) (by omega) hbase
  unfold Oper.wp execOp
  simp only [ho, resolve, invoke, builtin, Sem.run_bind, Sem.run_pure, Result.andThen_ok, List.map_toArray, List.map_cons, List.map_nil, hs, hx, hr]
  refine h v' w' ?_ h3 h5
  unfold OwnSg
  rw [flat_app, List.length_append]
  have e : (sgL [y]).flatten = svs y.k y.e y.s := by unfold sgL; simp
  rw [e]
  exact h2
theorem wpList_buildSg {ops : Array Oper} {rest : List Oper} {o : Oper} {a : Act} {w : World} {Q : Exit → Act → World → Prop} (hg : o.guard = none) (x0 : Operand) (ho : o.op = .buildSlice 65 1 #[(0, x0)]) (k e s : Int) (e0 : a.eval x0 = .agg #[.int .i64 k, .int .i64 e, .int .i64 s])
    (h : ∀ w', RowV w' w.heap.size (svs k e s) → Below w.heap.size w w' → wpList Try.prog ops Q rest (a.put o.dst (.slice (some ⟨w.heap.size, 0, none⟩) 1 1)) w') : wpList Try.prog ops Q (o :: rest) a w :=
  wpList_plain hg fun _ hK => wp_buildSg x0 ho k e s e0 (fun w' h1 h2 => hK _ _ (h w' h1 h2))
theorem wpList_appendSg {ops : Array Oper} {rest : List Oper} {W : World} {o : Oper} {a : Act} {Q : Exit → Act → World → Prop} (hg : o.guard = none) (s x : Operand) (ho : o.op = .call { callee := .builtin .append, args := #[s, x], argTypes := #[65, 65] })
    (base : Nat) (v : Value) (l : List SigV) (y : SigV) (hs : a.eval s = v) (hown : OwnSg W base v l) (B : Nat) (hx : a.eval x = .slice (some ⟨B, 0, none⟩) 1 1) (hB : RowV W B (svs y.k y.e y.s)) (hn : l.length ≤ 1000) (hbase : base ≤ W.heap.size)
    (h : ∀ v' w', OwnSg w' base v' (l ++ [y]) → W.grownBy w' v.ownBlock → wpList Try.prog ops Q rest (a.put o.dst v') w') : wpList Try.prog ops Q (o :: rest) a W :=
  wpList_plain hg fun _ hK => wp_appendSg s x ho base v l y hs hown B hx hB hn hbase (fun v' w' h1 h2 _ => hK _ _ (h v' w' h1 h2))
end Go.Proofs.Ytdfglpbappeoaaa
