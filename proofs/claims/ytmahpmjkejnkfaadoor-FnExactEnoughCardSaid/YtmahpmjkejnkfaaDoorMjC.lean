/- Rows of signatures of the call's own. A map of rows of signatures by their keys, that the call makes: what it holds, key by key. Signatures by their keys, on the program's side: a map of rows; and does one of some pass? Signers of a role: the mathematics, and what stands while they are sought. Enough on the program's side. Signers and Enough on the specification's side. Enough on the specification's side. The law of Enough, for every role and everything signed. -/
import Derived.Test.YtmahpmjkejnkfaaDoorSgL
import Derived.Test.YtmahpmjkejnkfaaDoorOnl
import Derived.Maps.AppendAt
import Derived.Great.BuildSlice
import Derived.Great.FillDense
import Derived.Maps.Own
import Derived.Maps.Views
import Derived.Test.YtmahpmjkejnkfaaDoorMjE
import Derived.Test.YtmahpmjkejnkfaaDoorMjA
import Derived.Test.YtmahpmjkejnkfaaDoorMjB
namespace Go.Proofs.YtmahpmjkejnkfaaDoor
open Go.RowKit
set_option linter.unusedVariables false

def OwnSg (w : World) (base : Nat) (v : Value) (l : List SigV) : Prop := w.ownsRow base 57 3 v l.length (sgL l).flatten
theorem flat_len (l : List SigV) : (sgL l).flatten.length = l.length * 3 := by
  induction l with
  | nil => rfl
  | cons x l ih => show (svs x.k x.e x.s ++ (sgL l).flatten).length = _; rw [List.length_append, ih, List.length_cons]; show 3 + _ = _; omega
theorem flat_app (a b : List SigV) : (sgL (a ++ b)).flatten = (sgL a).flatten ++ (sgL b).flatten := by unfold sgL; rw [List.map_append, List.flatten_append]
theorem flat_get : ∀ (l : List SigV) (i : Nat) (h : i < l.length), (sgL l).flatten[i * 3]? = some (.int .i64 l[i].k) ∧ (sgL l).flatten[i * 3 + 1]? = some (.int .i64 l[i].e) ∧ (sgL l).flatten[i * 3 + 2]? = some (.int .i64 l[i].s)
  | x :: l, 0, h => ⟨rfl, rfl, rfl⟩
  | x :: l, i + 1, h => by
    have := flat_get l i (by simpa using h)
    rw [show (i + 1) * 3 = i * 3 + 3 by omega]
    exact this
theorem OwnSg.form {w : World} {base : Nat} {v : Value} {l : List SigV} (h : OwnSg w base v l) : ∃ a c, v = .slice a l.length c ∧ SgsAt w a l := by
  rcases h.2 with ⟨h0, hn⟩ | ⟨g, cap, cur, hv, hbg, hg, h1, h2, h3, h4⟩
  · exact ⟨none, 0, by rw [h0, hn], fun i hi => by omega⟩
  · subst hv
    refine ⟨some ⟨g, 0, none⟩, cap, rfl, fun i hi => ?_⟩
    have h' : w.ownsRow base 57 3 (.slice (some ⟨g, 0, none⟩) l.length cap) l.length (sgL l).flatten := h
    obtain ⟨e0, e1, e2⟩ := flat_get l i hi
    have hc : ∀ j u, j < l.length * 3 → (sgL l).flatten[j]? = some u → w.cell? ⟨g, 0 + j, none⟩ = some u := fun j u hj hu => by
      rw [Nat.zero_add, World.ownsRow.cellAt h' j hj, hu]
    exact ⟨g, 0, rfl, hc _ _ (by omega) e0, by have := hc _ _ (by omega) e1; rw [← Nat.add_assoc] at this; exact this, by have := hc _ _ (by omega) e2; rw [← Nat.add_assoc] at this; exact this⟩
theorem own_same {w w' : World} {base e s : Nat} {v : Value} {n : Nat} {xs : List Value} (h : w.ownsRow base e s v n xs) (hk : ∀ k, v.ownBlock = some k → k < w.heap.size → w'.heap[k]? = w.heap[k]?) : w'.ownsRow base e s v n xs := by
  refine ⟨h.1, ?_⟩
  rcases h.2 with h0 | ⟨g, cap, cur, hv, hbg, hg, h1, h2, h3, h4⟩
  · exact .inl h0
  · exact .inr ⟨g, cap, cur, hv, hbg, (hk g (by rw [hv]; rfl) (Array.getElem?_eq_some_iff.1 hg).1).trans hg, h1, h2, h3, h4⟩
theorem own_ge {w : World} {base e s : Nat} {v : Value} {n : Nat} {xs : List Value} (h : w.ownsRow base e s v n xs) {k : Nat} (hk : v.ownBlock = some k) : base ≤ k ∧ k < w.heap.size := by
  rcases h.2 with ⟨h0, _⟩ | ⟨g, cap, cur, hv, hbg, hg, _⟩
  · rw [h0] at hk; cases hk
  · rw [hv] at hk
    cases hk
    exact ⟨hbg, (Array.getElem?_eq_some_iff.1 hg).1⟩
theorem row_blk {w w' : World} {g : Nat} {l : List Value} (h : RowV w g l) (hk : w'.heap[g]? = w.heap[g]?) : RowV w' g l := h.same fun k => same_far (x := ⟨g, k, none⟩) hk
theorem wp_buildSg {o : Oper} {a : Act} {w : World} {K : Act → World → Prop} {Q : Exit → Act → World → Prop} (x0 : Operand) (ho : o.op = .buildSlice 33 1 #[(0, x0)]) (k e s : Int) (e0 : a.eval x0 = .agg #[.int .i64 k, .int .i64 e, .int .i64 s])
    (h : ∀ w', RowV w' w.heap.size (svs k e s) → Below w.heap.size w w' → K (a.put o.dst (.slice (some ⟨w.heap.size, 0, none⟩) 1 1)) w') : o.wp Tryd.prog a w K Q := by
  obtain ⟨i0, hi, hz0, hz1, hz2⟩ := info_parts Tryd.infoSg
  refine wp_buildSlice 33 57 1 _ ho (svs k e s).toArray i0 _ Tryd.underlying33 hi hz0 (by rw [hz1]; omega) (by rw [hz1]; omega) ?_ (h _ (RowV.new w (svs k e s) 57) (below_alloc _ _))
  rw [hz1]
  simp only [List.map_toArray, List.map, e0]
  kernel_rfl
theorem wp_appendSg {W : World} {o : Oper} {a : Act} {K : Act → World → Prop} {Q : Exit → Act → World → Prop} (s x : Operand) (ho : o.op = .call { callee := .builtin .append, args := #[s, x], argTypes := #[33, 33] })
    (base : Nat) (v : Value) (l : List SigV) (y : SigV) (hs : a.eval s = v) (hown : OwnSg W base v l) (B : Nat) (hx : a.eval x = .slice (some ⟨B, 0, none⟩) 1 1) (hB : RowV W B (svs y.k y.e y.s)) (hn : l.length ≤ 1000) (hbase : base ≤ W.heap.size)
    (h : ∀ v' w', OwnSg w' base v' (l ++ [y]) → W.grownBy w' v.ownBlock → (v'.ownBlock = v.ownBlock ∨ v'.ownBlock = some W.heap.size) → K (a.put o.dst v') w') : Oper.wp Tryd.prog o a W K Q := by
  obtain ⟨i0, hi, hz0, hz1, hz2⟩ := info_parts Tryd.infoSg
  obtain ⟨v', w', hr, h2, h3, h4, h5⟩ := run_append_own_at (P := Tryd.prog) W base 33 o.type 57 i0 _ 3 24 Tryd.underlying33 hi hz0 hz1 hz2 rfl (by decide) v l.length (sgL l).flatten hown ⟨B, 0, none⟩ 1 1 (svs y.k y.e y.s) rfl
    (fun j u hj => by rw [Addr.add_lit]; have := hB.rng j u hj; exact this) (svs_one _ _ _) (by unfold maxLen; omega) (by omega) hbase
  unfold Oper.wp execOp
  simp only [ho, resolve, invoke, builtin, Sem.run_bind, Sem.run_pure, Result.andThen_ok, List.map_toArray, List.map_cons, List.map_nil, hs, hx, hr]
  refine h v' w' ?_ h3 h5
  unfold OwnSg
  rw [flat_app, List.length_append]
  have e : (sgL [y]).flatten = svs y.k y.e y.s := by unfold sgL; simp
  rw [e]
  exact h2
theorem wp_cellO {P : Program} {o : Oper} {a : Act} {w : World} {K : Act → World → Prop} {Q : Exit → Act → World → Prop} (t : TypeId) (x y : Operand) (ho : o.op = .store t x y) (g k : Nat) (l l' : List Value) (v : Value)
    (hx : a.eval x = .pointer (some ⟨g, k, none⟩)) (hy : a.eval y = v) (hp : plainV v = true) (hi : (P.info? t).map (·.size) = some 1) (hl : RowV w g l) (hk : k < l.length) (hl' : l' = l.set k v)
    (h : ∀ w', RowV w' g l' → Only g w w' → K (a.put o.dst undef) w') : o.wp P a w K Q := by
  have hc : w.cell? ⟨g, k, none⟩ = some l[k] := hl.cell (List.getElem?_eq_getElem hk)
  have hf : w.frozen? ⟨g, k, none⟩ = false := hl.frozen hk
  have hh := h _ (hl.setAt hk hl') (Only.set (fun B hB => (Below.refl B w).setCell hB v) (fun j hj => Below.heap_setCell _ _ _ _ hj) (World.size_setCell ..))
  generalize l[k] = u at hc
  obtain ⟨ti, hti, hts⟩ := Option.map_eq_some_iff.1 hi
  cases v with
  | int kd n =>
    simp only [Oper.wp, execOp, ho, hx, hy, Instr.storeAt, Instr.sureAddr, Sem.run_bind, Sem.run_pure, Result.andThen_ok]
    simp [go_sem, hc, hf, hti, hts, storeCells, sizeOf, typeInfo]
    exact hh
  | string s =>
    simp only [Oper.wp, execOp, ho, hx, hy, Instr.storeAt, Instr.sureAddr, Sem.run_bind, Sem.run_pure, Result.andThen_ok]
    simp [go_sem, hc, hf, hti, hts, storeCells, sizeOf, typeInfo]
    exact hh
  | slice p n c =>
    simp only [Oper.wp, execOp, ho, hx, hy, Instr.storeAt, Instr.sureAddr, Sem.run_bind, Sem.run_pure, Result.andThen_ok]
    simp [go_sem, hc, hf, hti, hts, storeCells, sizeOf, typeInfo]
    exact hh
  | _ => simp [plainV] at hp
theorem wp_load1 {P : Program} {o : Oper} {a : Act} {w : World} {K : Act → World → Prop} {Q : Exit → Act → World → Prop} (t e : TypeId) (x : Operand) (ho : o.op = .load t x) (g k : Nat) (v : Value) (hx : a.eval x = .pointer (some ⟨g, k, none⟩)) (hc : w.cell? ⟨g, k, none⟩ = some v) (ht : P.underlying t = some (.slice e))
    (h : K (a.put o.dst v) w) : o.wp P a w K Q := by
  have h2 : (loadVar t ⟨g, k, none⟩).run P w = .ok v w := by simp [loadVar, isAgg, run_underlying ht, go_sem, hc]
  unfold Oper.wp execOp
  simp only [ho, hx, Instr.loadAt, Instr.sureAddr, Sem.run_bind, Sem.run_pure, Result.andThen_ok, h2]
  exact h
theorem wpList_buildSg {ops : Array Oper} {rest : List Oper} {o : Oper} {a : Act} {w : World} {Q : Exit → Act → World → Prop} (hg : o.guard = none) (x0 : Operand) (ho : o.op = .buildSlice 33 1 #[(0, x0)]) (k e s : Int) (e0 : a.eval x0 = .agg #[.int .i64 k, .int .i64 e, .int .i64 s])
    (h : ∀ w', RowV w' w.heap.size (svs k e s) → Below w.heap.size w w' → wpList Tryd.prog ops Q rest (a.put o.dst (.slice (some ⟨w.heap.size, 0, none⟩) 1 1)) w') : wpList Tryd.prog ops Q (o :: rest) a w :=
  wpList_plain hg fun _ hK => wp_buildSg x0 ho k e s e0 (fun w' h1 h2 => hK _ _ (h w' h1 h2))
theorem wpList_appendSg {ops : Array Oper} {rest : List Oper} {W : World} {o : Oper} {a : Act} {Q : Exit → Act → World → Prop} (hg : o.guard = none) (s x : Operand) (ho : o.op = .call { callee := .builtin .append, args := #[s, x], argTypes := #[33, 33] })
    (base : Nat) (v : Value) (l : List SigV) (y : SigV) (hs : a.eval s = v) (hown : OwnSg W base v l) (B : Nat) (hx : a.eval x = .slice (some ⟨B, 0, none⟩) 1 1) (hB : RowV W B (svs y.k y.e y.s)) (hn : l.length ≤ 1000) (hbase : base ≤ W.heap.size)
    (h : ∀ v' w', OwnSg w' base v' (l ++ [y]) → W.grownBy w' v.ownBlock → wpList Tryd.prog ops Q rest (a.put o.dst v') w') : wpList Tryd.prog ops Q (o :: rest) a W :=
  wpList_plain hg fun _ hK => wp_appendSg s x ho base v l y hs hown B hx hB hn hbase (fun v' w' h1 h2 _ => hK _ _ (h v' w' h1 h2))
end Go.Proofs.YtmahpmjkejnkfaaDoor
namespace Go.Proofs.YtmahpmjkejnkfaaDoor
open Go.RowKit Go.Maps
set_option linter.unusedVariables false

def valR (v : Value) : Option (DataW Value × List MemPlace) := some (.held v, [])
def HasM (P : Program) (K : TypeId) (w : World) (B n : Nat) (f : Int → Value) : Prop :=
  ∃ D : DataW Value, w.ownsMap P K valR B n D ∧ ∀ k, I64 k → D.atKey (.int .i64 k) (.held (.slice none 0 0)) = .held (f k)
section
variable {P : Program} {K : TypeId} {w w' : World} {B n : Nat} {f : Int → Value}
theorem HasM.made (w : World) : HasM P K (w.alloc (.map #[] 0)) w.heap.size 0 (fun _ => .slice none 0 0) :=
  ⟨.map [], World.ownsMap_made w P K valR, fun k _ => rfl⟩
theorem HasM.kept {row : Option Nat} (h : HasM P K w B n f) (hg : w.grownBy w' row) (hne : some B ≠ row) : HasM P K w' B n f := by
  obtain ⟨D, h1, h2⟩ := h
  exact ⟨D, h1.kept hg hne, h2⟩
theorem HasM.lt (h : HasM P K w B n f) : B < w.heap.size := by
  obtain ⟨D, h1, h2⟩ := h
  exact h1.lt
theorem HasM.look {t e : TypeId} {k : Int} (h : HasM P K w B n f) (hK : P.underlying K = some (.int .i64)) (ht : P.underlying t = some (.map K e)) (hz : (zeroValue e).run P w = .ok (.slice none 0 0) w) (hk : I64 k) :
    (Instr.lookup t (.map (some B)) (.int .i64 k) false).run P w = .ok (f k) w := by
  obtain ⟨D, h1, h2⟩ := h
  obtain ⟨v, ps, hr, hv⟩ := h1.lookup (int_keyed hK) ht hz (show valR (.slice none 0 0) = some (.held (.slice none 0 0), []) from rfl) (keyOf_int_mk hK hk)
  rw [h2 k hk] at hv
  unfold valR at hv
  injection hv with hv
  injection hv with hv _
  injection hv with hv
  rw [hr, hv]
theorem HasM.put {t e : TypeId} {k : Int} {v : Value} (h : HasM P K w B n f) (hK : P.underlying K = some (.int .i64)) (ht : P.underlying t = some (.map K e)) (hn : n < maxLen) (hk : I64 k) :
    ∃ w', (Instr.mapUpdate t (.map (some B)) (.int .i64 k) v).run P w = .ok () w' ∧ HasM P K w' B (n + 1) (fun j => if j = k then v else f j) ∧ w.grownBy w' (some B) := by
  obtain ⟨D, h1, h2⟩ := h
  obtain ⟨w', hr, ho, hg⟩ := h1.update (int_keyed hK) ht hn (keyOf_int_mk hK hk) (show valR v = some (.held v, []) from rfl)
  refine ⟨w', hr, ⟨_, ho, fun j hj => ?_⟩, hg⟩
  show _ = DataW.held (if j = k then v else f j)
  by_cases e : j = k
  · subst e
    rw [if_pos rfl]
    exact Maps.atKey_put_same (by obtain ⟨es, clock, _, _, _, hD⟩ := h1; exact ⟨_, hD⟩) (show WideAt.IsKeyLit (.int .i64 j) from True.intro) _ _
  · rw [if_neg e, ← h2 j hj]
    exact Maps.atKey_put_other (fun h => e (by injection h)) _ _
end
/- The signatures of each key lie in a row of their own. -/
structure GrpS (w : World) (base B : Nat) (l : List SigV) (f : Int → Value) : Prop where
  map : HasM Tryd.prog 2 w B l.length f
  own : ∀ k, I64 k → OwnSg w base (f k) (l.filter fun x => x.k == k)
  apart : ∀ j k, I64 j → I64 k → j ≠ k → ∀ b, (f j).ownBlock = some b → (f k).ownBlock ≠ some b
  low : B < base
  size : base ≤ w.heap.size
theorem GrpS.made (w : World) : GrpS (w.alloc (.map #[] 0)) (w.heap.size + 1) w.heap.size [] (fun _ => .slice none 0 0) :=
  ⟨HasM.made w, fun k _ => ⟨rfl, .inl ⟨rfl, rfl⟩⟩, fun j k _ _ _ b hb => by simp [Value.ownBlock] at hb, Nat.lt_succ_self _, by simp⟩
theorem GrpS.below {w w' : World} {base B : Nat} {l : List SigV} {f : Int → Value} (h : GrpS w base B l f) (hb : Below w.heap.size w w') : GrpS w' base B l f :=
  ⟨h.map.kept ⟨hb.os, hb.tape, hb.output, hb.size, fun k hk _ => hb.block k hk⟩ (row := none) (by simp), fun k hk => own_same (h.own k hk) (fun j _ hj => hb.block j hj), h.apart, h.low, Nat.le_trans h.size hb.size⟩
theorem GrpS.drew {w : World} {base B : Nat} {l : List SigV} {f : Int → Value} (h : GrpS w base B l f) : GrpS w.drew base B l f := ⟨h.map, h.own, h.apart, h.low, h.size⟩
theorem filter_add (l : List SigV) (x : SigV) (k : Int) : (l ++ [x]).filter (fun y => y.k == k) = l.filter (fun y => y.k == k) ++ (if x.k = k then [x] else []) := by
  rw [List.filter_append]
  congr 1
  by_cases h : x.k = k
  · rw [if_pos h]; simp [h]
  · rw [if_neg h]; simp [h]
theorem GrpS.step {w w1 w2 : World} {base B : Nat} {l : List SigV} {f : Int → Value} {x : SigV} {v' : Value} (h : GrpS w base B l f) (hk : I64 x.k) (ho : OwnSg w1 base v' (l.filter (fun y => y.k == x.k) ++ [x])) (hg : w.grownBy w1 (f x.k).ownBlock)
    (hv : v'.ownBlock = (f x.k).ownBlock ∨ v'.ownBlock = some w.heap.size) (hm : HasM Tryd.prog 2 w2 B (l.length + 1) (fun j => if j = x.k then v' else f j)) (hg2 : w1.grownBy w2 (some B)) : GrpS w2 base B (l ++ [x]) (fun j => if j = x.k then v' else f j) := by
  have old : ∀ j b, I64 j → (f j).ownBlock = some b → base ≤ b ∧ b < w.heap.size := fun j b hj hb => own_ge (h.own j hj) hb
  have hl := h.low
  refine ⟨by rw [List.length_append]; exact hm, fun k hkk => ?_, fun j k hj hkk hne b => ?_, h.low, Nat.le_trans h.size (Nat.le_trans hg.size hg2.size)⟩
  · rw [filter_add]
    show OwnSg _ _ (if k = x.k then v' else f k) _
    by_cases e : k = x.k
    · subst e
      rw [if_pos rfl, if_pos rfl]
      exact own_same ho (fun b hb hlt => hg2.block b hlt (fun e => by injection e with e; have := (own_ge ho hb).1; omega))
    · rw [if_neg e, if_neg (fun h => e h.symm), List.append_nil]
      refine own_same (h.own k hkk) (fun b hb hlt => ?_)
      have h1 : w1.heap[b]? = w.heap[b]? := hg.block b hlt (fun e2 => h.apart k x.k hkk hk e b hb e2.symm)
      have hb1 := (old k b hkk hb).1
      exact (hg2.block b (Nat.lt_of_lt_of_le hlt hg.size) (fun e => by injection e with e; omega)).trans h1
  · show (if j = x.k then v' else f j).ownBlock = some b → (if k = x.k then v' else f k).ownBlock ≠ some b
    by_cases e : j = x.k
    · subst e
      have e2 : k ≠ x.k := fun h => hne h.symm
      rw [if_pos rfl, if_neg e2]
      intro hb hc
      rcases hv with hv | hv
      · rw [hv] at hb
        exact h.apart x.k k hk hkk hne b hb hc
      · rw [hv] at hb
        injection hb with hb
        have := (old k b hkk hc).2
        omega
    · rw [if_neg e]
      intro hb
      by_cases e2 : k = x.k
      · subst e2
        rw [if_pos rfl]
        intro hc
        rcases hv with hv | hv
        · rw [hv] at hc
          exact h.apart j x.k hj hk hne b hb hc
        · rw [hv] at hc
          injection hc with hc
          have := (old j b hj hb).2
          omega
      · rw [if_neg e2]
        exact h.apart j k hj hkk hne b hb
end Go.Proofs.YtmahpmjkejnkfaaDoor
namespace Go.Proofs.YtmahpmjkejnkfaaDoor
open Go.RowKit
set_option linter.unusedVariables false

theorem Tryd.zeroSgs (w : World) : (zeroValue 33).run Tryd.prog w = .ok (.slice none 0 0) w := by kernel_rfl
theorem wp_lookS {o : Oper} {a : Act} {w : World} {K : Act → World → Prop} {Q : Exit → Act → World → Prop} (m x : Operand) (ho : o.op = .lookup 51 m x false) (B n : Nat) (f : Int → Value) (k : Int) (hm : a.eval m = .map (some B)) (hx : a.eval x = .int .i64 k) (h : HasM Tryd.prog 2 w B n f) (hk : I64 k)
    (hK : K (a.put o.dst (f k)) w) : o.wp Tryd.prog a w K Q := by
  have hr := h.look Tryd.underlying2 Tryd.underlying51 (Tryd.zeroSgs w) hk
  unfold Oper.wp
  simp [execOp, ho, hm, hx, hr, Result.andThen]
  exact hK
theorem wpList_lookS {ops : Array Oper} {rest : List Oper} {o : Oper} {a : Act} {w : World} {Q : Exit → Act → World → Prop} (hg : o.guard = none) (m x : Operand) (ho : o.op = .lookup 51 m x false) (B n : Nat) (f : Int → Value) (k : Int) (hm : a.eval m = .map (some B)) (hx : a.eval x = .int .i64 k) (h : HasM Tryd.prog 2 w B n f) (hk : I64 k)
    (hK : wpList Tryd.prog ops Q rest (a.put o.dst (f k)) w) : wpList Tryd.prog ops Q (o :: rest) a w :=
  wpList_plain hg fun _ hK' => wp_lookS m x ho B n f k hm hx h hk (hK' _ _ hK)
theorem wp_putS {o : Oper} {a : Act} {w : World} {K : Act → World → Prop} {Q : Exit → Act → World → Prop} (m x y : Operand) (ho : o.op = .mapUpdate 51 m x y) (B n : Nat) (f : Int → Value) (k : Int) (v : Value) (hm : a.eval m = .map (some B)) (hx : a.eval x = .int .i64 k) (hy : a.eval y = v) (h : HasM Tryd.prog 2 w B n f) (hn : n < maxLen) (hk : I64 k)
    (hK : ∀ w', HasM Tryd.prog 2 w' B (n + 1) (fun j => if j = k then v else f j) → w.grownBy w' (some B) → K (a.put o.dst undef) w') : o.wp Tryd.prog a w K Q := by
  obtain ⟨w', hr, h1, h2⟩ := h.put (v := v) Tryd.underlying2 Tryd.underlying51 hn hk
  unfold Oper.wp
  simp [execOp, ho, hm, hx, hy, hr, Result.andThen]
  exact hK w' h1 h2
/- What stands within a round: the variable of the round lies in a block of its own. -/
structure KpGr (w : World) (base B : Nat) (l : List SigV) (f : Int → Value) (G : Nat) (k e s : Int) (w' : World) : Prop where
  bel : Below w.heap.size w w'
  grp : GrpS w' base B l f
  row : RowV w' G (svs k e s)
  off : ∀ j, I64 j → (f j).ownBlock ≠ some G
  gb : base ≤ G
  wb : w.heap.size ≤ B
section
variable {w w' w2 w3 : World} {base B G : Nat} {l : List SigV} {f : Int → Value} {k e s : Int}
theorem KpGr.call (h : Hid (KpGr w base B l f G k e s w')) (hb : Below w'.heap.size w' w2) : Hid (KpGr w base B l f G k e s w2) :=
  ⟨h.out.bel.trans (hb.mono h.out.bel.size), h.out.grp.below hb, h.out.row.below hb (h.out.row.lt (by simp [svs])), h.out.off, h.out.gb, h.out.wb⟩
theorem KpGr.drew (h : Hid (KpGr w base B l f G k e s w')) : Hid (KpGr w base B l f G k e s w'.drew) := ⟨h.out.bel.drew, h.out.grp.drew, h.out.row.drew, h.out.off, h.out.gb, h.out.wb⟩
theorem KpGr.cel (h : Hid (KpGr w base B l f G k e s w')) : w'.cell? ⟨G, 0, none⟩ = some (.int .i64 k) ∧ w'.cell? ⟨G, 1, none⟩ = some (.int .i64 e) ∧ w'.cell? ⟨G, 2, none⟩ = some (.int .i64 s) := h.out.row.sig
theorem KpGr.mapH (h : Hid (KpGr w base B l f G k e s w')) : HasM Tryd.prog 2 w' B l.length f := h.out.grp.map
theorem KpGr.start {wr : World} (hB : Below w.heap.size w wr) (hg : GrpS wr base B l f) (hb : Below wr.heap.size wr w') (hr : RowV w' wr.heap.size (svs k e s)) (hw : w.heap.size ≤ B) : Hid (KpGr w base B l f wr.heap.size k e s w') :=
  ⟨hB.trans (hb.mono hB.size), hg.below hb, hr, fun j hj e => by have := (own_ge (hg.own j hj) e).2; omega, hg.size, hw⟩
/- Behind the append and the store at the key. -/
theorem KpGr.app (h : Hid (KpGr w base B l f G k e s w')) (hk : Hid (I64 k)) (hg : w'.grownBy w2 (f k).ownBlock) : (w2.cell? ⟨G, 0, none⟩ = some (.int .i64 k) ∧ w2.cell? ⟨G, 1, none⟩ = some (.int .i64 e) ∧ w2.cell? ⟨G, 2, none⟩ = some (.int .i64 s)) ∧ HasM Tryd.prog 2 w2 B l.length f := by
  refine ⟨(row_blk h.out.row (hg.block G (h.out.row.lt (by simp [svs])) (fun e => h.out.off k hk.out e.symm))).sig, h.out.grp.map.kept hg (fun e => ?_)⟩
  have := (own_ge (h.out.grp.own k hk.out) e.symm).1
  have := h.out.grp.low
  omega
theorem KpGr.done {v' : Value} (h : Hid (KpGr w base B l f G k e s w')) (hk : Hid (I64 k)) (ho : OwnSg w2 base v' (l.filter (fun y => y.k == k) ++ [⟨k, e, s⟩])) (hg : w'.grownBy w2 (f k).ownBlock) (hv : v'.ownBlock = (f k).ownBlock ∨ v'.ownBlock = some w'.heap.size)
    (hm : HasM Tryd.prog 2 w3 B (l.length + 1) (fun j => if j = k then v' else f j)) (hg2 : w2.grownBy w3 (some B)) : (w3.cell? ⟨G, 0, none⟩ = some (.int .i64 k) ∧ w3.cell? ⟨G, 1, none⟩ = some (.int .i64 e) ∧ w3.cell? ⟨G, 2, none⟩ = some (.int .i64 s)) ∧ Hid (GrpS w3 base B (l ++ [⟨k, e, s⟩]) (fun j => if j = k then v' else f j)) ∧ Hid (Below w.heap.size w w3) := by
  have a1 := h.out.gb
  have a2 := h.out.wb
  have a3 := h.out.grp.low
  have a4 := h.out.grp.size
  have hb : Below B w' w2 := ⟨hg.os, hg.tape, hg.output, hg.size, fun i hi => hg.block i (by omega) (fun e => by have := (own_ge (h.out.grp.own k hk.out) e.symm).1; omega)⟩
  have hb2 : Below B w2 w3 := ⟨hg2.os, hg2.tape, hg2.output, hg2.size, fun i hi => hg2.block i (by have := hg.size; omega) (fun e => by injection e with e; omega)⟩
  have r2 := row_blk h.out.row (hg.block G (h.out.row.lt (by simp [svs])) (fun e => h.out.off k hk.out e.symm))
  have r3 := row_blk r2 (hg2.block G (r2.lt (by simp [svs])) (fun e => by injection e with e; omega))
  exact ⟨r3.sig, GrpS.step (x := ⟨k, e, s⟩) h.out.grp hk.out ho hg hv hm hg2, (h.out.bel.trans (hb.mono a2)).trans (hb2.mono a2)⟩
end
set_option maxRecDepth 100000 in
set_option maxHeartbeats 2000000 in
theorem implByKey (a : Option Addr) (c n : Nat) (l : List SigV) (w : World) (hn : l.length = n) (h : SgsAt w a l) (hb : n ≤ 16) (hw : ∀ x ∈ l, x.w) :
    Calls Tryd.prog 28 #[.slice a n c] w fun r w' => r = .returned (.map (some w.heap.size)) ∧ Below w.heap.size w w' ∧ ∃ f, GrpS w' (w.heap.size + 1) w.heap.size l f := by
  have HN : Hid (l.length = n) := hn
  have HA : Hid (SgsAt w a l) := h
  have HW : Hid (∀ x ∈ l, x.w) := hw
  have hmm := @run_makeMap Tryd.prog
  clear hn h hw
  go_enter Tryd.func28, Tryd.ntmps28
  go_wp2_with fail
  go_loopw [9] (fun vi wr => ∃ (k : Nat) (f : Int → Value), vi = .int .i64 (k : Int) ∧ k ≤ n ∧ Hid (GrpS wr (w.heap.size + 1) w.heap.size (l.take k) f) ∧ Hid (Below w.heap.size w wr)) (fun vi _ => n - (intOf vi).toNat)
  case atStart => exact ⟨0, fun _ => .slice none 0 0, rfl, Nat.zero_le _, GrpS.made w, below_alloc _ _⟩
  case round =>
    obtain ⟨k, f, rfl, hk, HG, HB⟩ := hrel
    by_cases hlt : k < n
    case neg =>
      obtain rfl : k = n := by omega
      have HGe : Hid (GrpS wr (w.heap.size + 1) w.heap.size l f) := by have h2 := HG.out; rw [← HN.out, List.take_length] at h2; exact h2
      go_wp2
      go_ret
      exact ⟨rfl, HB.out, f, HGe.out⟩
    have hkl : k < l.length := by have := HN.out; omega
    obtain ⟨b, o, rfl, hc0, hc1, hc2⟩ := (HA.out.below HB.out) k hkl
    have hI : Hid (I64 l[k].k) := (HW.out l[k] (List.getElem_mem hkl)).1
    have lk : (k : Int) < n := by omega
    have l0 : (0 : Int) ≤ k := by omega
    have HM : Hid (l.take k ++ [⟨l[k].k, l[k].e, l[k].s⟩] = l.take (k + 1)) := by show _ = _; rw [List.take_add_one, List.getElem?_eq_getElem hkl]; rfl
    have hm1000 : ∀ q, ((l.take k).filter (fun y => y.k == q)).length ≤ 1000 := fun q => by have := List.length_filter_le (fun y : SigV => y.k == q) (l.take k); rw [List.length_take] at this; omega
    have hml : (l.take k).length < maxLen := by rw [List.length_take]; unfold maxLen; omega
    generalize l[k].k = X at *
    generalize l[k].e = E at *
    generalize l[k].s = S at *
    go_wp2_with (first
      | (with_reducible refine wpList_allocV (w := wr) (by with_unfolding_all rfl) 57 (by with_unfolding_all rfl) (svs 0 0 0) Tryd.infoS ?_; intro w1 hA1 hB1 hS1; clear hS1)
      | (with_reducible refine wpList_storeH (w := w1) (by with_unfolding_all rfl) 57 (.tmp 5) (.tmp 12) (by with_unfolding_all rfl) wr.heap.size (svs 0 0 0) (svs X E S) (by with_unfolding_all rfl) (by with_unfolding_all rfl) hA1 3 Tryd.sizeS (by with_unfolding_all rfl) (by with_unfolding_all rfl) (svs_one _ _ _) ?_; intro w2 hA2 hB2 hF2 hS2; have HS := KpGr.start HB.out HG.out (hB1.trans (hB2 _ (Nat.le_refl _))) hA2 (Nat.le_refl _); clear hS2 hF2 hA1))
    clear hA2 hB1 hB2 hc0 hc1 hc2 HG HB
    generalize wr.heap.size = G at *
    refine wp_region_held_drew (S := fun w' => w'.cell? ⟨G, 0, none⟩ = some (.int .i64 X) ∧ w'.cell? ⟨G, 1, none⟩ = some (.int .i64 E) ∧ w'.cell? ⟨G, 2, none⟩ = some (.int .i64 S)) (by kernel_rfl) (KpGr.cel (KpGr.drew HS)) (fun hHeld => ?_)
    refine wpAnyH_take (i := 0) (oi := ⟨_, _, _, _, _, _⟩) (v := .map (some w.heap.size)) rfl (by kernel_rfl) (by kernel_rfl) (by kernel_rfl) (fun _ _ _ h => h) (Or.inl ⟨wanted_free rfl, fun w' hSw => ?_⟩) hHeld ?_
    · go_simp
    try simp only [Act.put, List.setIfInBounds_toArray, List.set_cons_zero, List.set_cons_succ]
    refine wpAnyH_take (i := 1) (oi := ⟨_, _, _, _, _, _⟩) (v := .pointer (some ⟨G, 0, none⟩)) rfl (by kernel_rfl) (by kernel_rfl) (by kernel_rfl) (fun _ _ _ h => h) (Or.inl ⟨wanted_free rfl, fun w' hSw => ?_⟩) hHeld ?_
    · go_simp
    try simp only [Act.put, List.setIfInBounds_toArray, List.set_cons_zero, List.set_cons_succ]
    refine wpAnyH_take (i := 2) (oi := ⟨_, _, _, _, _, _⟩) (v := .int .i64 X) rfl (by kernel_rfl) (by kernel_rfl) (by kernel_rfl) (fun _ _ _ h => h) (Or.inl ⟨wanted_free rfl, fun w' hSw => ?_⟩) hHeld ?_
    · obtain ⟨s0, s1, s2⟩ := hSw
      go_simp
    try simp only [Act.put, List.setIfInBounds_toArray, List.set_cons_zero, List.set_cons_succ]
    refine wpAnyH_take (i := 3) (oi := ⟨_, _, _, _, _, _⟩) (v := .map (some w.heap.size)) rfl (by kernel_rfl) (by kernel_rfl) (by kernel_rfl) (fun _ _ _ h => h) (Or.inl ⟨wanted_free rfl, fun w' hSw => ?_⟩) hHeld ?_
    · go_simp
    try simp only [Act.put, List.setIfInBounds_toArray, List.set_cons_zero, List.set_cons_succ]
    refine wpAnyH_take (i := 4) (oi := ⟨_, _, _, _, _, _⟩) (v := .pointer (some ⟨G, 0, none⟩)) rfl (by kernel_rfl) (by kernel_rfl) (by kernel_rfl) (fun _ _ _ h => h) (Or.inl ⟨wanted_free rfl, fun w' hSw => ?_⟩) hHeld ?_
    · go_simp
    try simp only [Act.put, List.setIfInBounds_toArray, List.set_cons_zero, List.set_cons_succ]
    refine wpAnyH_take (i := 5) (oi := ⟨_, _, _, _, _, _⟩) (v := .int .i64 X) rfl (by kernel_rfl) (by kernel_rfl) (by kernel_rfl) (fun _ _ _ h => h) (Or.inl ⟨wanted_free rfl, fun w' hSw => ?_⟩) hHeld ?_
    · obtain ⟨s0, s1, s2⟩ := hSw
      go_simp
    try simp only [Act.put, List.setIfInBounds_toArray, List.set_cons_zero, List.set_cons_succ]
    refine wpAnyH_take (i := 7) (oi := ⟨_, _, _, _, _, _⟩) (v := .agg #[.int .i64 X, .int .i64 E, .int .i64 S]) rfl (by kernel_rfl) (by kernel_rfl) (by kernel_rfl) (fun _ _ _ h => h) (Or.inl ⟨wanted_free rfl, fun w' hSw => ?_⟩) hHeld ?_
    · obtain ⟨s0, s1, s2⟩ := hSw
      go_simp
    try simp only [Act.put, List.setIfInBounds_toArray, List.set_cons_zero, List.set_cons_succ]
    have HSW := KpGr.drew HS
    generalize w2.drew = W at *
    clear HS
    refine wpAnyH_ready (rs := [6, 8]) (by kernel_rfl) (by simp) (AllReadyH.cons (o := ⟨_, _, _, _, _, _⟩) rfl (fun K hK => ?_) (AllReadyH.cons (o := ⟨_, _, _, _, _, _⟩) rfl (fun K hK => ?_) AllReadyH.nil))
    · as_aux_lemma =>
      rewrite [if_pos (wanted_free rfl)]
      with_reducible refine wp_lookS (.tmp 16) (.tmp 18) (by with_unfolding_all rfl) w.heap.size (l.take k).length f X (by with_unfolding_all rfl) (by with_unfolding_all rfl) (KpGr.mapH HSW) hI.out ?_
      refine hK.out _ _ (KpGr.cel HSW) (fun _ => ?_)
      clear hK K
      try simp only [Act.put, List.setIfInBounds_toArray, List.set_cons_zero, List.set_cons_succ]
      refine wpAnyH_ready (rs := [8]) (by kernel_rfl) (by simp) (AllReadyH.cons (o := ⟨_, _, _, _, _, _⟩) rfl (fun K hK => ?_) AllReadyH.nil)
      rewrite [if_pos (wanted_free rfl)]
      with_reducible refine wp_buildSg (w := W) (.tmp 20) (by with_unfolding_all rfl) X E S (by with_unfolding_all rfl) ?_
      intro Wc hAWc hBWc
      have HSWc := KpGr.call HSW hBWc
      refine hK.out _ _ (KpGr.cel HSWc) (fun _ => ?_)
      clear hK K
      try simp only [Act.put, List.setIfInBounds_toArray, List.set_cons_zero, List.set_cons_succ]
      refine wpAnyH_ready (rs := [9]) (by kernel_rfl) (by simp) (AllReadyH.cons (o := ⟨_, _, _, _, _, _⟩) rfl (fun K hK => ?_) AllReadyH.nil)
      rewrite [if_pos (wanted_free rfl)]
      with_reducible refine wp_appendSg (W := Wc) (.tmp 19) (.tmp 21) (by with_unfolding_all rfl) (w.heap.size + 1) (f X) ((l.take k).filter (fun y => y.k == X)) ⟨X, E, S⟩ (by with_unfolding_all rfl) (HSWc.out.grp.own X hI.out) W.heap.size (by with_unfolding_all rfl) hAWc (hm1000 X) HSWc.out.grp.size ?_
      intro v2 wa hOa hGa hba
      have hap := KpGr.app HSWc hI hGa
      refine hK.out _ _ hap.1 (fun _ => ?_)
      clear hK K
      try simp only [Act.put, List.setIfInBounds_toArray, List.set_cons_zero, List.set_cons_succ]
      refine wpAnyH_ready (rs := [10]) (by kernel_rfl) (by simp) (AllReadyH.cons (o := ⟨_, _, _, _, _, _⟩) rfl (fun K hK => ?_) AllReadyH.nil)
      rewrite [if_pos (wanted_free rfl)]
      with_reducible refine wp_putS (.tmp 13) (.tmp 15) (.tmp 22) (by with_unfolding_all rfl) w.heap.size (l.take k).length f X v2 (by with_unfolding_all rfl) (by with_unfolding_all rfl) (by with_unfolding_all rfl) hap.2 hml hI.out ?_
      intro wz hMz hGz
      have hdn := KpGr.done HSWc hI hOa hGa hba hMz hGz
      refine hK.out _ _ hdn.1 (fun _ => ?_)
      clear hK K
      refine wpAnyH_done (by kernel_rfl) ?_ _
      have HGn := hdn.2.1
      have HBn := hdn.2.2
      rw [HM.out] at HGn
      clear hdn hap HSW HSWc
      go_wp2
      go_roundw
      case rel => exact ⟨k + 1, _, by go_num, by omega, HGn, HBn⟩
      case measure => simp [intOf]; omega
    · as_aux_lemma =>
      rewrite [if_pos (wanted_free rfl)]
      with_reducible refine wp_buildSg (w := W) (.tmp 20) (by with_unfolding_all rfl) X E S (by with_unfolding_all rfl) ?_
      intro Wc hAWc hBWc
      have HSWc := KpGr.call HSW hBWc
      refine hK.out _ _ (KpGr.cel HSWc) (fun _ => ?_)
      clear hK K
      try simp only [Act.put, List.setIfInBounds_toArray, List.set_cons_zero, List.set_cons_succ]
      refine wpAnyH_ready (rs := [6]) (by kernel_rfl) (by simp) (AllReadyH.cons (o := ⟨_, _, _, _, _, _⟩) rfl (fun K hK => ?_) AllReadyH.nil)
      rewrite [if_pos (wanted_free rfl)]
      with_reducible refine wp_lookS (.tmp 16) (.tmp 18) (by with_unfolding_all rfl) w.heap.size (l.take k).length f X (by with_unfolding_all rfl) (by with_unfolding_all rfl) (KpGr.mapH HSWc) hI.out ?_
      refine hK.out _ _ (KpGr.cel HSWc) (fun _ => ?_)
      clear hK K
      try simp only [Act.put, List.setIfInBounds_toArray, List.set_cons_zero, List.set_cons_succ]
      refine wpAnyH_ready (rs := [9]) (by kernel_rfl) (by simp) (AllReadyH.cons (o := ⟨_, _, _, _, _, _⟩) rfl (fun K hK => ?_) AllReadyH.nil)
      rewrite [if_pos (wanted_free rfl)]
      with_reducible refine wp_appendSg (W := Wc) (.tmp 19) (.tmp 21) (by with_unfolding_all rfl) (w.heap.size + 1) (f X) ((l.take k).filter (fun y => y.k == X)) ⟨X, E, S⟩ (by with_unfolding_all rfl) (HSWc.out.grp.own X hI.out) W.heap.size (by with_unfolding_all rfl) hAWc (hm1000 X) HSWc.out.grp.size ?_
      intro v2 wa hOa hGa hba
      have hap := KpGr.app HSWc hI hGa
      refine hK.out _ _ hap.1 (fun _ => ?_)
      clear hK K
      try simp only [Act.put, List.setIfInBounds_toArray, List.set_cons_zero, List.set_cons_succ]
      refine wpAnyH_ready (rs := [10]) (by kernel_rfl) (by simp) (AllReadyH.cons (o := ⟨_, _, _, _, _, _⟩) rfl (fun K hK => ?_) AllReadyH.nil)
      rewrite [if_pos (wanted_free rfl)]
      with_reducible refine wp_putS (.tmp 13) (.tmp 15) (.tmp 22) (by with_unfolding_all rfl) w.heap.size (l.take k).length f X v2 (by with_unfolding_all rfl) (by with_unfolding_all rfl) (by with_unfolding_all rfl) hap.2 hml hI.out ?_
      intro wz hMz hGz
      have hdn := KpGr.done HSWc hI hOa hGa hba hMz hGz
      refine hK.out _ _ hdn.1 (fun _ => ?_)
      clear hK K
      refine wpAnyH_done (by kernel_rfl) ?_ _
      have HGn := hdn.2.1
      have HBn := hdn.2.2
      rw [HM.out] at HGn
      clear hdn hap HSW HSWc
      go_wp2
      go_roundw
      case rel => exact ⟨k + 1, _, by go_num, by omega, HGn, HBn⟩
      case measure => simp [intOf]; omega
set_option maxRecDepth 100000 in
set_option maxHeartbeats 2000000 in
theorem implOne (a : Option Addr) (c n : Nat) (l : List SigV) (t : ByteArray) (w : World) (hn : l.length = n) (h : SgsAt w a l) (hb : n ≤ 1000) (hw : ∀ x ∈ l, x.w) (ht : t.size ≤ 19980) (ha : ArrU w 0 keys) (h0 : 0 < w.heap.size) :
    Calls Tryd.prog 29 #[.slice a n c, .string t] w fun r w' => r = .returned (.bool (l.any fun x => chkB x.k x.e x.s t)) ∧ Below w.heap.size w w' := by
  have HN : Hid (l.length = n) := hn
  have HA : Hid (SgsAt w a l) := h
  have HW : Hid (∀ x ∈ l, x.w) := hw
  have HKs : Hid (ArrU w 0 keys) := ha
  have HY : Hid (∀ k (hk : k < l.length), chkB l[k].k l[k].e l[k].s t = true → (l.any fun x => chkB x.k x.e x.s t) = true) := fun k hk h => List.any_eq_true.2 ⟨l[k], List.getElem_mem hk, h⟩
  have HF : Hid ((∀ k (hk : k < l.length), chkB l[k].k l[k].e l[k].s t = false) → (l.any fun x => chkB x.k x.e x.s t) = false) := fun h => List.any_eq_false.2 (fun x hx => by
    obtain ⟨k, hk, rfl⟩ := List.mem_iff_getElem.1 hx
    rw [h k hk]
    decide)
  generalize (l.any fun x => chkB x.k x.e x.s t) = R at *
  clear hn h hw ha
  go_enter Tryd.func29, Tryd.ntmps29
  go_wp2_with fail
  go_loopw [9] (fun vi wr => ∃ k : Nat, vi = .int .i64 (k : Int) ∧ k ≤ n ∧ Hid (∀ j (hj : j < l.length), j < k → chkB l[j].k l[j].e l[j].s t = false) ∧ Hid (Below w.heap.size w wr)) (fun vi _ => n - (intOf vi).toNat)
  case atStart => exact ⟨0, rfl, Nat.zero_le _, fun j hj h0 => absurd h0 (Nat.not_lt_zero _), Below.refl _ _⟩
  case round =>
    obtain ⟨k, rfl, hk, HT, HB⟩ := hrel
    by_cases hlt : k < n
    case neg =>
      obtain rfl : k = n := by omega
      have HE : Hid (R = false) := HF.out (fun j hj => HT.out j hj (by have := HN.out; omega))
      go_wp2
      go_ret
      exact ⟨retY HE.out.symm, HB.out⟩
    have hkl : k < l.length := by have := HN.out; omega
    obtain ⟨b, o, rfl, hc0, hc1, hc2⟩ := (HA.out.below HB.out) k hkl
    have lk : (k : Int) < n := by omega
    have l0 : (0 : Int) ≤ k := by omega
    have hG : ∀ w0, Below w.heap.size w w0 → Calls Tryd.prog 44 #[.agg #[.int .i64 l[k].k, .int .i64 l[k].e, .int .i64 l[k].s], .string t] w0 fun r w' => r = .returned (.bool (chkB l[k].k l[k].e l[k].s t)) ∧ Below w0.heap.size w0 w' := fun w0 hb0 => implChk _ _ _ t w0 (HW.out l[k] (List.getElem_mem hkl)).1 ht (HKs.out.below hb0 h0) (Nat.lt_of_lt_of_le h0 hb0.size)
    have HYk := hidP (HY.out k hkl)
    have HTk : Hid (chkB l[k].k l[k].e l[k].s t = false → ∀ j (hj : j < l.length), j < k + 1 → chkB l[j].k l[j].e l[j].s t = false) := fun h j hj hjk => by
      by_cases hjk2 : j < k
      · exact HT.out j hj hjk2
      · obtain rfl : j = k := by omega
        exact h
    obtain ⟨ob, hob⟩ : ∃ ob, chkB l[k].k l[k].e l[k].s t = ob := ⟨_, rfl⟩
    rw [hob] at hG HYk HTk
    generalize l[k].k = X at *
    generalize l[k].e = E at *
    generalize l[k].s = S at *
    clear hob HT HY HF
    cases ob with
    | true =>
      as_aux_lemma =>
      have HE : Hid (R = true) := HYk.out rfl
      clear HYk HTk
      go_wp2_with (first
        | (with_reducible refine wpList_allocV (w := wr) (by with_unfolding_all rfl) 57 (by with_unfolding_all rfl) (svs 0 0 0) Tryd.infoS ?_; intro w1 hA1 hB1 hS1; clear hS1)
        | (with_reducible refine wpList_storeH (w := w1) (by with_unfolding_all rfl) 57 (.tmp 6) (.tmp 12) (by with_unfolding_all rfl) wr.heap.size (svs 0 0 0) (svs X E S) (by with_unfolding_all rfl) (by with_unfolding_all rfl) hA1 3 Tryd.sizeS (by with_unfolding_all rfl) (by with_unfolding_all rfl) (svs_one _ _ _) ?_; intro w2 hA2 hB2 hF2 hS2; obtain ⟨p0, p1, p2⟩ := hA2.sig; have b2 := hB1.trans (hB2 _ (Nat.le_refl _)); have B2 := hidP (HB.out.trans (b2.mono HB.out.size)); clear hS2 hF2 hA1 hB1 hB2 b2)
        | (go_at_call 44; with_reducible refine (hG w2 B2.out).mono ?_; rintro r w4 ⟨rfl, hB4⟩; have HB4 := hidP (B2.out.trans (hB4.mono B2.out.size)); clear p0 p1 p2 hB4))
      go_ret
      exact ⟨retY HE.out.symm, HB4.out⟩
    | false =>
      as_aux_lemma =>
      have HT2 : Hid (∀ j (hj : j < l.length), j < k + 1 → chkB l[j].k l[j].e l[j].s t = false) := HTk.out rfl
      clear HYk HTk
      go_wp2_with (first
        | (with_reducible refine wpList_allocV (w := wr) (by with_unfolding_all rfl) 57 (by with_unfolding_all rfl) (svs 0 0 0) Tryd.infoS ?_; intro w1 hA1 hB1 hS1; clear hS1)
        | (with_reducible refine wpList_storeH (w := w1) (by with_unfolding_all rfl) 57 (.tmp 6) (.tmp 12) (by with_unfolding_all rfl) wr.heap.size (svs 0 0 0) (svs X E S) (by with_unfolding_all rfl) (by with_unfolding_all rfl) hA1 3 Tryd.sizeS (by with_unfolding_all rfl) (by with_unfolding_all rfl) (svs_one _ _ _) ?_; intro w2 hA2 hB2 hF2 hS2; obtain ⟨p0, p1, p2⟩ := hA2.sig; have b2 := hB1.trans (hB2 _ (Nat.le_refl _)); have B2 := hidP (HB.out.trans (b2.mono HB.out.size)); clear hS2 hF2 hA1 hB1 hB2 b2)
        | (go_at_call 44; with_reducible refine (hG w2 B2.out).mono ?_; rintro r w4 ⟨rfl, hB4⟩; have HB4 := hidP (B2.out.trans (hB4.mono B2.out.size)); clear p0 p1 p2 hB4))
      go_roundw
      case rel => exact ⟨k + 1, by go_num, by omega, HT2, HB4⟩
      case measure => simp [intOf]; omega
end Go.Proofs.YtmahpmjkejnkfaaDoor
namespace Go.Proofs.YtmahpmjkejnkfaaDoor
open Go.RowKit
set_option linter.unusedVariables false

def passB (t : ByteArray) (l : List SigV) (k : Int) : Bool := l.any fun x => x.k == k && chkB x.k x.e x.s t
def sgnrs (ks : List Int) (l : List SigV) (t : ByteArray) : List Int := ks.filter (passB t l)
def enB (z : Int) (ks : List Int) (t : ByteArray) (l : List SigV) : Bool := roleB z ks && (signedB t l && decide (z ≤ ((sgnrs ks l t).length : Int)))
theorem pass_filter (t : ByteArray) (l : List SigV) (k : Int) : ((l.filter fun x => x.k == k).any fun x => chkB x.k x.e x.s t) = passB t l k := by
  unfold passB
  rw [List.any_filter]
theorem sgnrs_next {ks : List Int} {l : List SigV} {t : ByteArray} {k : Nat} (hk : k < ks.length) : sgnrs (ks.take (k + 1)) l t = sgnrs (ks.take k) l t ++ (if passB t l ks[k] then [ks[k]] else []) := by
  unfold sgnrs
  rw [List.take_add_one, List.getElem?_eq_getElem hk, List.filter_append]
  congr 1
  cases h : passB t l ks[k] <;> simp [h]
theorem sgnrs_len (ks : List Int) (l : List SigV) (t : ByteArray) : (sgnrs ks l t).length ≤ ks.length := List.length_filter_le _ _
theorem roleB_8 {z : Int} {ks : List Int} (h : roleB z ks = true) : ks.length ≤ 8 := by
  unfold roleB at h
  rw [Bool.and_eq_true] at h
  exact (of_decide_eq_true h.1).2.1
theorem signedB_len {t : ByteArray} {l : List SigV} (h : signedB t l = true) : t.size ≤ 8000 ∧ l.length ≤ 16 ∧ ∀ x ∈ l, sigB x.k x.e x.s = true := by
  unfold signedB at h
  rw [Bool.and_eq_true] at h
  exact ⟨(of_decide_eq_true h.1).1, (of_decide_eq_true h.1).2, fun x hx => List.all_eq_true.1 h.2 x hx⟩
structure KpEn (w : World) (G2 G3 : Nat) (z : Int) (ka : Option Addr) (kn kc : Nat) (t : ByteArray) (a : Option Addr) (n c : Nat) (w' : World) : Prop where
  bel : Below w.heap.size w w'
  rR : RowV w' G2 (rlv z ka kn kc)
  rS : RowV w' G3 (sgv t a n c)
section
variable {w w' w2 : World} {G2 G3 : Nat} {z : Int} {ka : Option Addr} {kn kc : Nat} {t : ByteArray} {a : Option Addr} {n c : Nat}
theorem KpEn.start {w1 : World} (h1 : Below w.heap.size w w1) (r1 : RowV w1 w.heap.size (rlv z ka kn kc)) (h2 : Below w1.heap.size w1 w2) (r2 : RowV w2 w1.heap.size (sgv t a n c)) : Hid (KpEn w w.heap.size w1.heap.size z ka kn kc t a n c w2) :=
  ⟨h1.trans (h2.mono h1.size), r1.below h2 (r1.lt (rlv_ne _ _ _ _)), r2⟩
theorem KpEn.call (h : Hid (KpEn w G2 G3 z ka kn kc t a n c w')) (hb : Below w'.heap.size w' w2) : Hid (KpEn w G2 G3 z ka kn kc t a n c w2) :=
  ⟨h.out.bel.trans (hb.mono h.out.bel.size), h.out.rR.below hb (h.out.rR.lt (rlv_ne _ _ _ _)), h.out.rS.below hb (h.out.rS.lt (sgv_ne _ _ _ _))⟩
theorem KpEn.drew (h : Hid (KpEn w G2 G3 z ka kn kc t a n c w')) : Hid (KpEn w G2 G3 z ka kn kc t a n c w'.drew) := ⟨h.out.bel.drew, h.out.rR.drew, h.out.rS.drew⟩
theorem KpEn.cel (h : Hid (KpEn w G2 G3 z ka kn kc t a n c w')) : w'.cell? ⟨G2, 0, none⟩ = some (.int .i64 z) ∧ w'.cell? ⟨G2, 1, none⟩ = some (.slice ka kn kc) ∧ w'.cell? ⟨G3, 0, none⟩ = some (.string t) ∧ w'.cell? ⟨G3, 1, none⟩ = some (.slice a n c) := ⟨h.out.rR.rl.1, h.out.rR.rl.2, h.out.rS.sg.1, h.out.rS.sg.2⟩
theorem KpEn.belH (h : Hid (KpEn w G2 G3 z ka kn kc t a n c w')) : Below w.heap.size w w' := h.out.bel
end
end Go.Proofs.YtmahpmjkejnkfaaDoor
namespace Go.Proofs.YtmahpmjkejnkfaaDoor
open Go.RowKit
set_option linter.unusedVariables false

set_option maxRecDepth 100000 in
set_option maxHeartbeats 4000000 in
theorem implEnough (z : Int) (ka : Option Addr) (kc kn : Nat) (ks : List Int) (t : ByteArray) (a : Option Addr) (c n : Nat) (l : List SigV) (w : World) (hkn : ks.length = kn) (hk : AI w ka ks) (hkm : kn ≤ maxLen) (hkw : ∀ x ∈ ks, I64 x) (hz : I64 z) (hn : l.length = n) (h : SgsAt w a l) (hnm : n ≤ maxLen) (ht : t.size ≤ maxLen) (hw : ∀ x ∈ l, x.w) (ha : ArrU w 0 keys) (h0 : 0 < w.heap.size) :
    Calls Tryd.prog 10 #[.agg #[.int .i64 z, .slice ka kn kc], .agg #[.string t, .slice a n c]] w fun r w' => r = .returned (.bool (enB z ks t l)) ∧ Below w.heap.size w w' := by
  have HKN : Hid (ks.length = kn) := hkn
  have HK : Hid (AI w ka ks) := hk
  have HKW : Hid (∀ x ∈ ks, I64 x) := hkw
  have HN : Hid (l.length = n) := hn
  have HA : Hid (SgsAt w a l) := h
  have HW : Hid (∀ x ∈ l, x.w) := hw
  have HKs : Hid (ArrU w 0 keys) := ha
  have hR : ∀ w0, Below w.heap.size w w0 → Calls Tryd.prog 26 #[.agg #[.int .i64 z, .slice ka kn kc]] w0 fun r w' => r = .returned (.bool (roleB z ks)) ∧ Below w0.heap.size w0 w' := fun w0 hb0 => implRole z ka kc kn ks w0 HKN.out (HK.out.below hb0) hkm HKW.out
  have hS : ∀ w0, Below w.heap.size w w0 → Calls Tryd.prog 27 #[.agg #[.string t, .slice a n c]] w0 fun r w' => r = .returned (.bool (signedB t l)) ∧ Below w0.heap.size w0 w' := fun w0 hb0 => implSigned t a c n l w0 HN.out (HA.out.below hb0) hnm ht HW.out
  have HRe : Hid (enB z ks t l = (roleB z ks && (signedB t l && decide (z ≤ ((sgnrs ks l t).length : Int))))) := rfl
  have HR8 : Hid (roleB z ks = true → ks.length ≤ 8) := roleB_8
  have HS8 : Hid (signedB t l = true → t.size ≤ 8000 ∧ l.length ≤ 16 ∧ ∀ x ∈ l, sigB x.k x.e x.s = true) := signedB_len
  obtain ⟨R, hRR⟩ : ∃ R, enB z ks t l = R := ⟨_, rfl⟩
  rw [hRR] at HRe ⊢
  clear hkn hk hkw hn h hw ha hRR
  cases hr : roleB z ks with
  | false =>
    have HF : Hid (R = false) := by show _ = _; rw [HRe.out, hr]; rfl
    rw [hr] at hR
    clear HRe hr HR8 HS8 hS
    go_enter Tryd.func10, Tryd.ntmps10
    go_wp2_with (first
    | (with_reducible refine wpList_boxV (w := w) (by with_unfolding_all rfl) 31 (.tmp 0) (by with_unfolding_all rfl) (rlv z ka kn kc) (by with_unfolding_all rfl) ?_; intro w1 hA1 hB1 hS1; clear hS1; have z1 := hA1.lt (rlv_ne _ _ _ _))
    | (with_reducible refine wpList_boxV (w := w1) (by with_unfolding_all rfl) 35 (.tmp 1) (by with_unfolding_all rfl) (sgv t a n c) (by with_unfolding_all rfl) ?_; intro w2 hA2 hB2 hS2; clear hS2; have HS2 := KpEn.start hB1 hA1 hB2 hA2; clear hA1 hA2 hB1 hB2; obtain ⟨p0, p1, q0, q1⟩ := KpEn.cel HS2)
    | (go_at_call 26; with_reducible refine (hR w2 (KpEn.belH HS2)).mono ?_; rintro r w3 ⟨rfl, hB3⟩; have HS3 := KpEn.call HS2 hB3; clear p0 p1 q0 q1 hB3; obtain ⟨p0, p1, q0, q1⟩ := KpEn.cel HS3))
    go_ret
    exact ⟨retY HF.out.symm, HS3.out.bel⟩
  | true =>
  cases hs : signedB t l with
  | false =>
    have HF : Hid (R = false) := by show _ = _; rw [HRe.out, hr, hs]; rfl
    rw [hr] at hR
    rw [hs] at hS
    clear HRe hr hs HR8 HS8
    go_enter Tryd.func10, Tryd.ntmps10
    go_wp2_with (first
    | (with_reducible refine wpList_boxV (w := w) (by with_unfolding_all rfl) 31 (.tmp 0) (by with_unfolding_all rfl) (rlv z ka kn kc) (by with_unfolding_all rfl) ?_; intro w1 hA1 hB1 hS1; clear hS1; have z1 := hA1.lt (rlv_ne _ _ _ _))
    | (with_reducible refine wpList_boxV (w := w1) (by with_unfolding_all rfl) 35 (.tmp 1) (by with_unfolding_all rfl) (sgv t a n c) (by with_unfolding_all rfl) ?_; intro w2 hA2 hB2 hS2; clear hS2; have HS2 := KpEn.start hB1 hA1 hB2 hA2; clear hA1 hA2 hB1 hB2; obtain ⟨p0, p1, q0, q1⟩ := KpEn.cel HS2)
    | (go_at_call 26; with_reducible refine (hR w2 (KpEn.belH HS2)).mono ?_; rintro r w3 ⟨rfl, hB3⟩; have HS3 := KpEn.call HS2 hB3; clear p0 p1 q0 q1 hB3; obtain ⟨p0, p1, q0, q1⟩ := KpEn.cel HS3)
    | (go_at_call 27; with_reducible refine (hS w3 (KpEn.belH HS3)).mono ?_; rintro r w4 ⟨rfl, hB4⟩; have HS4 := KpEn.call HS3 hB4; clear p0 p1 q0 q1 hB4; obtain ⟨p0, p1, q0, q1⟩ := KpEn.cel HS4))
    go_ret
    exact ⟨retY HF.out.symm, HS4.out.bel⟩
  | true =>
  have HRd : Hid (R = decide (z ≤ ((sgnrs ks l t).length : Int))) := by show _ = _; rw [HRe.out, hr, hs]; rfl
  have hk8 : kn ≤ 8 := by have := HR8.out hr; have := HKN.out; omega
  obtain ⟨ht8, hl16, HSig⟩ := HS8.out hs
  have hn16 : n ≤ 16 := by have := HN.out; omega
  rw [hr] at hR
  rw [hs] at hS
  have hM : ∀ w0, Below w.heap.size w w0 → Calls Tryd.prog 28 #[.slice a n c] w0 fun r w' => r = .returned (.map (some w0.heap.size)) ∧ Below w0.heap.size w0 w' ∧ ∃ f, GrpS w' (w0.heap.size + 1) w0.heap.size l f := fun w0 hb0 => implByKey a c n l w0 HN.out (HA.out.below hb0) hn16 HW.out
  have hz9 : -9223372036854775808 ≤ z ∧ z ≤ 9223372036854775807 := by unfold I64 at hz; simpa [Lit.wf, IntKind.min, IntKind.max, IntKind.signed, IntKind.bits] using hz
  clear HRe hr hs HR8 HS8 HSig
  go_enter Tryd.func10, Tryd.ntmps10
  go_wp2_with (first
    | (with_reducible refine wpList_boxV (w := w) (by with_unfolding_all rfl) 31 (.tmp 0) (by with_unfolding_all rfl) (rlv z ka kn kc) (by with_unfolding_all rfl) ?_; intro w1 hA1 hB1 hS1; clear hS1; have z1 := hA1.lt (rlv_ne _ _ _ _))
    | (with_reducible refine wpList_boxV (w := w1) (by with_unfolding_all rfl) 35 (.tmp 1) (by with_unfolding_all rfl) (sgv t a n c) (by with_unfolding_all rfl) ?_; intro w2 hA2 hB2 hS2; clear hS2; have HS2 := KpEn.start hB1 hA1 hB2 hA2; clear hA1 hA2 hB1 hB2; obtain ⟨p0, p1, q0, q1⟩ := KpEn.cel HS2)
    | (go_at_call 26; with_reducible refine (hR w2 (KpEn.belH HS2)).mono ?_; rintro r w3 ⟨rfl, hB3⟩; have HS3 := KpEn.call HS2 hB3; clear p0 p1 q0 q1 hB3; obtain ⟨p0, p1, q0, q1⟩ := KpEn.cel HS3)
    | (go_at_call 27; with_reducible refine (hS w3 (KpEn.belH HS3)).mono ?_; rintro r w4 ⟨rfl, hB4⟩; have HS4 := KpEn.call HS3 hB4; clear p0 p1 q0 q1 hB4; obtain ⟨p0, p1, q0, q1⟩ := KpEn.cel HS4)
    | (go_at_call 28; with_reducible refine (hM w4 (KpEn.belH HS4)).mono ?_; rintro r w5 ⟨rfl, hB5, f, hG5⟩; have HS5 := KpEn.call HS4 hB5; have HG5 := hidP hG5; clear p0 p1 q0 q1 hB5 hG5; obtain ⟨p0, p1, q0, q1⟩ := KpEn.cel HS5))
  clear p0 p1 q0 q1 HS4 HS3 HS2 hR hS hM
  generalize w4.heap.size = B at *
  generalize w1.heap.size = G3 at *
  go_loopw [6, 23] (fun vc vi wr => ∃ (k m : Nat), vi = .int .i64 (k : Int) ∧ vc = .int .i64 (m : Int) ∧ k ≤ kn ∧ m ≤ k ∧ Hid (m = (sgnrs (ks.take k) l t).length) ∧ Hid (GrpS wr (B + 1) B l f) ∧ Hid (KpEn w w.heap.size G3 z ka kn kc t a n c wr)) (fun _ vi _ => kn - (intOf vi).toNat)
  case atStart => exact ⟨0, 0, rfl, rfl, Nat.zero_le _, Nat.le_refl _, rfl, HG5, HS5⟩
  case round =>
    clear HS5 HG5
    obtain ⟨k, m, rfl, rfl, hk, hmk, HM, HG, HS⟩ := hrel
    obtain ⟨p0, p1, q0, q1⟩ := KpEn.cel HS
    by_cases hlt : k < kn
    case neg =>
      obtain rfl : k = kn := by omega
      have HMe : Hid (m = (sgnrs ks l t).length) := by show _ = _; rw [HM.out, ← HKN.out, List.take_length]
      by_cases hle : z ≤ (m : Int)
      · have HE : Hid (R = true) := by show _ = _; rw [HRd.out, ← HMe.out]; exact decide_eq_true hle
        go_wp2
        go_ret
        exact ⟨retY HE.out.symm, HS.out.bel⟩
      · have HE : Hid (R = false) := by show _ = _; rw [HRd.out, ← HMe.out]; exact decide_eq_false hle
        go_wp2
        go_ret
        exact ⟨retY HE.out.symm, HS.out.bel⟩
    have hkl : k < ks.length := by have := HKN.out; omega
    obtain ⟨b, o, rfl, hc0⟩ := (HK.out.below HS.out.bel) k hkl
    have lk : (k : Int) < kn := by omega
    have l0 : (0 : Int) ≤ k := by omega
    have hI : Hid (I64 ks[k]) := HKW.out _ (List.getElem_mem hkl)
    have hP : ∀ w0, Hid (GrpS w0 (B + 1) B l f) → Below w.heap.size w w0 → Calls Tryd.prog 29 #[f ks[k], .string t] w0 fun r w' => r = .returned (.bool (passB t l ks[k])) ∧ Below w0.heap.size w0 w' := fun w0 hg hb0 => by
      obtain ⟨a2, c2, e2, hat⟩ := OwnSg.form (hg.out.own ks[k] hI.out)
      rw [e2, ← pass_filter]
      exact implOne a2 c2 _ _ t w0 rfl hat (by have := List.length_filter_le (fun x : SigV => x.k == ks[k]) l; have := HN.out; omega) (fun x hx => HW.out x ((List.mem_filter.1 hx).1)) (by omega) (HKs.out.below hb0 h0) (Nat.lt_of_lt_of_le h0 hb0.size)
    have HMn := hidP (sgnrs_next (l := l) (t := t) hkl)
    cases hp : passB t l ks[k] with
    | true =>
      have HM2 : Hid (m + 1 = (sgnrs (ks.take (k + 1)) l t).length) := by show _ = _; rw [HMn.out, hp, HM.out, List.length_append]; rfl
      rw [hp] at hP
      clear HMn hp HM
      generalize ks[k] = X at *
      go_wp2_with (first
        | (with_reducible refine wpList_lookS (by with_unfolding_all rfl) (.tmp 27) (.tmp 28) (by with_unfolding_all rfl) B l.length f X (by with_unfolding_all rfl) (by with_unfolding_all rfl) HG.out.map hI.out ?_)
        | (go_at_call 29; with_reducible refine (hP wr HG (KpEn.belH HS)).mono ?_; rintro r w6 ⟨rfl, hB6⟩; have HS6 := KpEn.call HS hB6; have HG6 := hidP (HG.out.below hB6)))
      go_roundw
      case rel => exact ⟨k + 1, m + 1, by go_num, by go_num, by omega, by omega, HM2, HG6, HS6⟩
      case measure => simp [intOf]; omega
    | false =>
      have HM2 : Hid (m = (sgnrs (ks.take (k + 1)) l t).length) := by show _ = _; rw [HMn.out, hp, HM.out, List.length_append]; rfl
      rw [hp] at hP
      clear HMn hp HM
      generalize ks[k] = X at *
      go_wp2_with (first
        | (with_reducible refine wpList_lookS (by with_unfolding_all rfl) (.tmp 27) (.tmp 28) (by with_unfolding_all rfl) B l.length f X (by with_unfolding_all rfl) (by with_unfolding_all rfl) HG.out.map hI.out ?_)
        | (go_at_call 29; with_reducible refine (hP wr HG (KpEn.belH HS)).mono ?_; rintro r w6 ⟨rfl, hB6⟩; have HS6 := KpEn.call HS hB6; have HG6 := hidP (HG.out.below hB6)))
      go_roundw
      case rel => exact ⟨k + 1, m, by go_num, by go_num, by omega, by omega, HM2, HG6, HS6⟩
      case measure => simp [intOf]; omega
end Go.Proofs.YtmahpmjkejnkfaaDoor
namespace Go.Proofs.YtmahpmjkejnkfaaDoor
open Go.RowKit
set_option linter.unusedVariables false

/- What stands while signers are gathered. -/
structure KpSs (w : World) (G2 G3 B : Nat) (z : Int) (ka : Option Addr) (kn kc : Nat) (t : ByteArray) (a : Option Addr) (n c : Nat) (v : Value) (m : List Int) (w' : World) : Prop where
  kp : KpEn w G2 G3 z ka kn kc t a n c w'
  own : OwnI w' B v m
  sz : B ≤ w'.heap.size
  c2 : G2 < B
  c3 : G3 < B
  cw : w.heap.size ≤ B
section
variable {w w' w2 : World} {G2 G3 B : Nat} {z : Int} {ka : Option Addr} {kn kc : Nat} {t : ByteArray} {a : Option Addr} {n c : Nat} {v v' : Value} {m m' : List Int}
theorem KpSs.start (h : Hid (KpEn w G2 G3 z ka kn kc t a n c w')) (hb : Below w'.heap.size w' w2) (ho : OwnI w2 w'.heap.size v m) : Hid (KpSs w G2 G3 w'.heap.size z ka kn kc t a n c v m w2) :=
  ⟨(KpEn.call h hb).out, ho, hb.size, h.out.rR.lt (rlv_ne _ _ _ _), h.out.rS.lt (sgv_ne _ _ _ _), h.out.bel.size⟩
theorem KpSs.call (h : Hid (KpSs w G2 G3 B z ka kn kc t a n c v m w')) (hb : Below w'.heap.size w' w2) : Hid (KpSs w G2 G3 B z ka kn kc t a n c v m w2) :=
  ⟨(KpEn.call h.out.kp hb).out, h.out.own.below hb, Nat.le_trans h.out.sz hb.size, h.out.c2, h.out.c3, h.out.cw⟩
theorem KpSs.drew (h : Hid (KpSs w G2 G3 B z ka kn kc t a n c v m w')) : Hid (KpSs w G2 G3 B z ka kn kc t a n c v m w'.drew) := ⟨(KpEn.drew h.out.kp).out, h.out.own, h.out.sz, h.out.c2, h.out.c3, h.out.cw⟩
theorem KpSs.app (h : Hid (KpSs w G2 G3 B z ka kn kc t a n c v m w')) (ho : OwnI w2 B v' m') (hg : w'.grownBy w2 v.ownBlock) : Hid (KpSs w G2 G3 B z ka kn kc t a n c v' m' w2) := by
  have hb := h.out.own.grown hg h.out.sz
  exact ⟨⟨h.out.kp.bel.trans (hb.mono h.out.cw), h.out.kp.rR.below hb h.out.c2, h.out.kp.rS.below hb h.out.c3⟩, ho, Nat.le_trans h.out.sz hg.size, h.out.c2, h.out.c3, h.out.cw⟩
theorem KpSs.cel (h : Hid (KpSs w G2 G3 B z ka kn kc t a n c v m w')) : w'.cell? ⟨G2, 0, none⟩ = some (.int .i64 z) ∧ w'.cell? ⟨G2, 1, none⟩ = some (.slice ka kn kc) ∧ w'.cell? ⟨G3, 0, none⟩ = some (.string t) ∧ w'.cell? ⟨G3, 1, none⟩ = some (.slice a n c) := KpEn.cel h.out.kp
theorem KpSs.all {b o kb ko k i : Nat} {ks : List Int} {l : List SigV} {Y X E S : Int} (h : Hid (KpSs w G2 G3 B z (some ⟨kb, ko, none⟩) kn kc t (some ⟨b, o, none⟩) n c v m w')) (hk : Hid (AI w (some ⟨kb, ko, none⟩) ks)) (ha : Hid (SgsAt w (some ⟨b, o, none⟩) l)) (hy : Hid (∃ hi : i < ks.length, ks[i] = Y)) (hx : Hid (∃ hk : k < l.length, l[k] = ⟨X, E, S⟩)) :
    w'.cell? ⟨G2, 1, none⟩ = some (.slice (some ⟨kb, ko, none⟩) kn kc) ∧ w'.cell? ⟨G3, 0, none⟩ = some (.string t) ∧ w'.cell? ⟨G3, 1, none⟩ = some (.slice (some ⟨b, o, none⟩) n c) ∧ w'.cell? ⟨kb, ko + i, none⟩ = some (.int .i64 Y) ∧ w'.cell? ⟨b, o + k * 3, none⟩ = some (.int .i64 X) ∧ w'.cell? ⟨b, o + k * 3 + 1, none⟩ = some (.int .i64 E) ∧ w'.cell? ⟨b, o + k * 3 + 2, none⟩ = some (.int .i64 S) := by
  obtain ⟨_, p1, p2, p3⟩ := KpSs.cel h
  obtain ⟨hi, rfl⟩ := hy.out
  obtain ⟨hk1, e⟩ := hx.out
  obtain ⟨b1, o1, e1, h1⟩ := (hk.out.below h.out.kp.bel) i hi
  injection e1 with e1
  injection e1 with e1 e2
  subst e1 e2
  obtain ⟨b2, o2, e3, g1, g2, g3⟩ := (ha.out.below h.out.kp.bel) k hk1
  injection e3 with e3
  injection e3 with e3 e4
  subst e3 e4
  rw [e] at g1 g2 g3
  exact ⟨p1, p2, p3, h1, g1, g2, g3⟩
end
theorem own0 (w : World) : OwnI (w.alloc (.cells #[] 2)) w.heap.size (.slice (some ⟨w.heap.size, 0, none⟩) 0 0) [] :=
  ⟨rfl, .inr ⟨w.heap.size, 0, #[], rfl, Nat.le_refl _, heap_alloc_new w _, Nat.le_refl _, Nat.zero_le _, rfl, rfl⟩⟩
theorem any_next {l : List SigV} {k : Nat} (f : SigV → Bool) (hk : k < l.length) : (l.take (k + 1)).any f = ((l.take k).any f || f l[k]) := by
  rw [List.take_add_one, List.getElem?_eq_getElem hk, List.any_append]
  simp
theorem chk_right {x : SigV} {t : ByteArray} (h : sigB x.k x.e x.s = true) : chkB x.k x.e x.s t = (chM (rM x.k x.e x.s) x.k t == x.e) := by unfold chkB; rw [h, Bool.true_and]
set_option maxRecDepth 100000 in
set_option maxHeartbeats 4000000 in
theorem specSigners (z : Int) (ka : Option Addr) (kc kn : Nat) (ks : List Int) (t : ByteArray) (a : Option Addr) (c n : Nat) (l : List SigV) (w : World) (hkn : ks.length = kn) (hk : AI w ka ks) (hkm : kn ≤ maxLen) (hkw : ∀ x ∈ ks, I64 x) (hz : I64 z) (hn : l.length = n) (h : SgsAt w a l) (hnm : n ≤ maxLen) (ht : t.size ≤ maxLen) (hw : ∀ x ∈ l, x.w) (hsg : ∀ x ∈ l, sigB x.k x.e x.s = true) (ht8 : t.size ≤ 8000) (hk8 : kn ≤ 8) (hn16 : n ≤ 16) :
    Calls Tryd.prog 24 #[.agg #[.int .i64 z, .slice ka kn kc], .agg #[.string t, .slice a n c]] w fun r w' => ∃ v, r = .returned v ∧ OwnI w' w.heap.size v (sgnrs ks l t) ∧ Below w.heap.size w w' := by
  have HKN : Hid (ks.length = kn) := hkn
  have HK : Hid (AI w ka ks) := hk
  have HKW : Hid (∀ x ∈ ks, I64 x) := hkw
  have HN : Hid (l.length = n) := hn
  have HA : Hid (SgsAt w a l) := h
  have HW : Hid (∀ x ∈ l, x.w) := hw
  have HSig : Hid (∀ x ∈ l, sigB x.k x.e x.s = true) := hsg
  clear hkn hk hkw hn h hw hsg
  go_enter Tryd.func24, Tryd.ntmps24
  go_wp2_with (first
      | (with_reducible refine wpList_boxV (w := w) (by with_unfolding_all rfl) 31 (.tmp 0) (by with_unfolding_all rfl) (rlv z ka kn kc) (by with_unfolding_all rfl) ?_; intro w1 hA1 hB1 hS1; clear hS1; have z1 := hA1.lt (rlv_ne _ _ _ _))
      | (with_reducible refine wpList_boxV (w := w1) (by with_unfolding_all rfl) 35 (.tmp 1) (by with_unfolding_all rfl) (sgv t a n c) (by with_unfolding_all rfl) ?_; intro w2 hA2 hB2 hS2; clear hS2; have HS2 := KpEn.start hB1 hA1 hB2 hA2; clear hA1 hA2 hB1 hB2; obtain ⟨p0, p1, q0, q1⟩ := KpEn.cel HS2)
      )
  have HS3 := KpSs.start HS2 (below_alloc w2 (.cells #[] 2)) (own0 w2)
  clear p0 p1 q0 q1 HS2
  generalize w2.alloc (.cells #[] 2) = w3 at *
  generalize w2.heap.size = B at *
  generalize w1.heap.size = G3 at *
  go_loopw [5, 6] (fun vo vi wr => ∃ (i : Nat) (m : List Int) (v : Value), v = vo ∧ vi = .int .i64 (i : Int) ∧ i ≤ kn ∧ Hid (m = sgnrs (ks.take i) l t) ∧ Hid (KpSs w w.heap.size G3 B z ka kn kc t a n c v m wr)) (fun _ vi _ => kn - (intOf vi).toNat)
  case atStart => exact ⟨0, [], _, rfl, rfl, Nat.zero_le _, rfl, HS3⟩
  case round =>
    clear HS3
    obtain ⟨i, m, v, rfl, rfl, hi, HM, HS⟩ := hrel
    obtain ⟨p0, p1, q0, q1⟩ := KpSs.cel HS
    by_cases hlt : i < kn
    case neg =>
      obtain rfl : i = kn := by omega
      have HMe : Hid (m = sgnrs ks l t) := by show _ = _; rw [HM.out, ← HKN.out, List.take_length]
      go_wp2
      go_ret
      exact ⟨_, rfl, HMe.out ▸ ownI_mono HS.out.own HS.out.cw, HS.out.kp.bel⟩
    have hil : i < ks.length := by have := HKN.out; omega
    obtain ⟨kb, ko, rfl, hcK⟩ := (HK.out.below HS.out.kp.bel) i hil
    have li : (i : Int) < kn := by omega
    have li0 : (0 : Int) ≤ i := by omega
    have HMn := hidP (sgnrs_next (l := l) (t := t) hil)
    have HPb : Hid (passB t l ks[i] = l.any (fun x => x.k == ks[i] && chkB x.k x.e x.s t)) := rfl
    obtain ⟨Y, hYe⟩ : ∃ Y, ks[i] = Y := ⟨_, rfl⟩
    have HY : Hid (∃ hi : i < ks.length, ks[i] = Y) := ⟨hil, hYe⟩
    rw [hYe] at hcK HMn HPb
    clear hYe
    have hm8 : m.length ≤ 8 := by rw [HM.out]; have := sgnrs_len (ks.take i) l t; rw [List.length_take] at this; omega
    rw [← HM.out] at HMn
    clear HM hcK
    go_wp2_with fail
    clear p0 p1 q0 q1
    go_loopw [7, 8] (fun vo vk wr => ∃ (k : Nat) (ok : Bool), vk = .int .i64 (k : Int) ∧ vo = .bool ok ∧ k ≤ n ∧ Hid (ok = (l.take k).any (fun x => x.k == Y && chkB x.k x.e x.s t)) ∧ Hid (KpSs w w.heap.size G3 B z (some ⟨kb, ko, none⟩) kn kc t a n c v m wr)) (fun _ vk _ => n - (intOf vk).toNat)
    case atStart => exact ⟨0, false, rfl, rfl, Nat.zero_le _, rfl, HS⟩
    case round =>
      clear HS
      obtain ⟨k, ok, rfl, rfl, hk, HO, HS⟩ := hrel
      obtain ⟨p0, p1, q0, q1⟩ := KpSs.cel HS
      by_cases hkt : k < n
      case neg =>
        obtain rfl : k = n := by omega
        have HOe : Hid (passB t l Y = ok) := by show _ = _; rw [HPb.out, HO.out, ← HN.out, List.take_length]
        cases ok with
        | false =>
          have HMm : Hid (m = sgnrs (ks.take (i + 1)) l t) := by show _ = _; rw [HMn.out, HOe.out]; simp
          go_wp2
          go_roundw
          case rel => exact ⟨i + 1, m, v, rfl, by go_num, by omega, HMm, HS⟩
          case measure => simp [intOf]; omega
        | true =>
          have HMm : Hid (m ++ [Y] = sgnrs (ks.take (i + 1)) l t) := by show _ = _; rw [HMn.out, HOe.out]; rfl
          obtain ⟨hil2, hYe⟩ := HY.out
          obtain ⟨kb2, ko2, e2, hcK⟩ := (HK.out.below HS.out.kp.bel) i hil2
          rw [hYe] at hcK
          injection e2 with e2
          injection e2 with e2 e3
          subst e2 e3
          go_wp2_with (first
            | (with_reducible refine wpList_buildI (w := wr) (by with_unfolding_all rfl) (.tmp 55) (by with_unfolding_all rfl) Y (by with_unfolding_all rfl) ?_; intro w5 hA5 hB5; have HS5 := KpSs.call HS hB5; have hai := ai_one hA5)
            | (with_reducible refine wpList_appendI (W := w5) (by with_unfolding_all rfl) (.tmp 50) (.tmp 56) (by with_unfolding_all rfl) B v m wr.heap.size 0 1 1 [Y] (by with_unfolding_all rfl) HS5.out.own (by with_unfolding_all rfl) rfl hai (by omega) HS5.out.sz ?_; intro v6 w6 hO6 hG6 hL6; have HS6 := KpSs.app HS5 hO6 hG6))
          go_roundw
          case rel => exact ⟨i + 1, m ++ [Y], v6, rfl, by go_num, by omega, HMm, HS6⟩
          case measure => simp [intOf]; omega
      have hkl : k < l.length := by have := HN.out; omega
      obtain ⟨b, o, rfl, hcS⟩ := (HA.out.below HS.out.kp.bel) k hkl
      have lk : (k : Int) < n := by omega
      have lk0 : (0 : Int) ≤ k := by omega
      have HOx := hidP (any_next (fun x : SigV => x.k == Y && chkB x.k x.e x.s t) hkl)
      rw [← HO.out] at HOx
      have hXw := (HW.out l[k] (List.getElem_mem hkl)).1
      have hXs := HSig.out l[k] (List.getElem_mem hkl)
      have HCe := hidP (chk_right (t := t) hXs)
      have hCh : ∀ w0, Calls Tryd.prog 40 #[.agg #[.int .i64 l[k].k, .int .i64 l[k].e, .int .i64 l[k].s], .string t] w0 fun r w' => r = .returned (.bool (chM (rM l[k].k l[k].e l[k].s) l[k].k t == l[k].e)) ∧ Below w0.heap.size w0 w' := fun w0 => specChk0 _ _ _ t w0 hXw hXs (by omega)
      rw [← HCe.out] at hCh
      obtain ⟨cb, hcb⟩ : ∃ cb, chkB l[k].k l[k].e l[k].s t = cb := ⟨_, rfl⟩
      rw [hcb] at hCh HOx
      clear hXw hXs HCe hcb hcS HO
      obtain ⟨X, hXe⟩ : ∃ X, l[k].k = X := ⟨_, rfl⟩
      obtain ⟨E, hEe⟩ : ∃ E, l[k].e = E := ⟨_, rfl⟩
      obtain ⟨S, hSe⟩ : ∃ S, l[k].s = S := ⟨_, rfl⟩
      have HX : Hid (∃ hk : k < l.length, l[k] = ⟨X, E, S⟩) := ⟨hkl, by rw [← hXe, ← hEe, ← hSe]⟩
      rw [hXe, hEe, hSe] at hCh
      rw [hXe] at HOx
      clear hXe hEe hSe
      cases ok with
      | true =>
        as_aux_lemma =>
        have HOn : Hid (true = (l.take (k + 1)).any (fun x => x.k == Y && chkB x.k x.e x.s t)) := by show _ = _; rw [HOx.out, Bool.true_or]
        clear HOx hCh
        go_wp2_with fail
        clear p0 p1 q0 q1
        refine wp_region_held_drew (S := fun w' => w'.cell? ⟨w.heap.size, 1, none⟩ = some (.slice (some ⟨kb, ko, none⟩) kn kc) ∧ w'.cell? ⟨G3, 0, none⟩ = some (.string t) ∧ w'.cell? ⟨G3, 1, none⟩ = some (.slice (some ⟨b, o, none⟩) n c) ∧ w'.cell? ⟨kb, ko + i, none⟩ = some (.int .i64 Y) ∧ w'.cell? ⟨b, o + k * 3, none⟩ = some (.int .i64 X) ∧ w'.cell? ⟨b, o + k * 3 + 1, none⟩ = some (.int .i64 E) ∧ w'.cell? ⟨b, o + k * 3 + 2, none⟩ = some (.int .i64 S)) (by kernel_rfl) (KpSs.all (KpSs.drew HS) HK HA HY HX) (fun hHeld => ?_)
        refine wpAnyH_take (i := 0) (oi := ⟨_, _, _, _, _, _⟩) (v := .bool true) rfl (by kernel_rfl) (by kernel_rfl) (by kernel_rfl) (fun _ _ _ h => h) (Or.inl ⟨wanted_free rfl, fun w' hSw => ?_⟩) hHeld ?_
        · go_simp
        try simp only [Act.put, List.setIfInBounds_toArray, List.set_cons_zero, List.set_cons_succ]
        refine wpAnyH_take (i := 1) (oi := ⟨_, _, _, _, _, _⟩) (v := .bool true) rfl (by kernel_rfl) (by kernel_rfl) (by kernel_rfl) (fun _ _ _ h => h) (Or.inl ⟨wanted_free rfl, fun w' hSw => ?_⟩) hHeld ?_
        · go_simp
        try simp only [Act.put, List.setIfInBounds_toArray, List.set_cons_zero, List.set_cons_succ]
        refine wpAnyH_take (i := 2) (oi := ⟨_, _, _, _, _, _⟩) (v := undef) rfl (by kernel_rfl) (by kernel_rfl) (by kernel_rfl) (fun _ _ _ h => h) (Or.inr ⟨by with_unfolding_all rfl, rfl⟩) hHeld ?_
        try simp only [Act.put, List.setIfInBounds_toArray, List.set_cons_zero, List.set_cons_succ]
        refine wpAnyH_take (i := 3) (oi := ⟨_, _, _, _, _, _⟩) (v := undef) rfl (by kernel_rfl) (by kernel_rfl) (by kernel_rfl) (fun _ _ _ h => h) (Or.inr ⟨by with_unfolding_all rfl, rfl⟩) hHeld ?_
        try simp only [Act.put, List.setIfInBounds_toArray, List.set_cons_zero, List.set_cons_succ]
        refine wpAnyH_take (i := 4) (oi := ⟨_, _, _, _, _, _⟩) (v := undef) rfl (by kernel_rfl) (by kernel_rfl) (by kernel_rfl) (fun _ _ _ h => h) (Or.inr ⟨by with_unfolding_all rfl, rfl⟩) hHeld ?_
        try simp only [Act.put, List.setIfInBounds_toArray, List.set_cons_zero, List.set_cons_succ]
        refine wpAnyH_take (i := 5) (oi := ⟨_, _, _, _, _, _⟩) (v := undef) rfl (by kernel_rfl) (by kernel_rfl) (by kernel_rfl) (fun _ _ _ h => h) (Or.inr ⟨by with_unfolding_all rfl, rfl⟩) hHeld ?_
        try simp only [Act.put, List.setIfInBounds_toArray, List.set_cons_zero, List.set_cons_succ]
        refine wpAnyH_take (i := 6) (oi := ⟨_, _, _, _, _, _⟩) (v := undef) rfl (by kernel_rfl) (by kernel_rfl) (by kernel_rfl) (fun _ _ _ h => h) (Or.inr ⟨by with_unfolding_all rfl, rfl⟩) hHeld ?_
        try simp only [Act.put, List.setIfInBounds_toArray, List.set_cons_zero, List.set_cons_succ]
        refine wpAnyH_take (i := 7) (oi := ⟨_, _, _, _, _, _⟩) (v := undef) rfl (by kernel_rfl) (by kernel_rfl) (by kernel_rfl) (fun _ _ _ h => h) (Or.inr ⟨by with_unfolding_all rfl, rfl⟩) hHeld ?_
        try simp only [Act.put, List.setIfInBounds_toArray, List.set_cons_zero, List.set_cons_succ]
        refine wpAnyH_take (i := 8) (oi := ⟨_, _, _, _, _, _⟩) (v := undef) rfl (by kernel_rfl) (by kernel_rfl) (by kernel_rfl) (fun _ _ _ h => h) (Or.inr ⟨by with_unfolding_all rfl, rfl⟩) hHeld ?_
        try simp only [Act.put, List.setIfInBounds_toArray, List.set_cons_zero, List.set_cons_succ]
        refine wpAnyH_take (i := 9) (oi := ⟨_, _, _, _, _, _⟩) (v := undef) rfl (by kernel_rfl) (by kernel_rfl) (by kernel_rfl) (fun _ _ _ h => h) (Or.inr ⟨by with_unfolding_all rfl, rfl⟩) hHeld ?_
        try simp only [Act.put, List.setIfInBounds_toArray, List.set_cons_zero, List.set_cons_succ]
        refine wpAnyH_take (i := 10) (oi := ⟨_, _, _, _, _, _⟩) (v := undef) rfl (by kernel_rfl) (by kernel_rfl) (by kernel_rfl) (fun _ _ _ h => h) (Or.inr ⟨by with_unfolding_all rfl, rfl⟩) hHeld ?_
        try simp only [Act.put, List.setIfInBounds_toArray, List.set_cons_zero, List.set_cons_succ]
        refine wpAnyH_take (i := 11) (oi := ⟨_, _, _, _, _, _⟩) (v := undef) rfl (by kernel_rfl) (by kernel_rfl) (by kernel_rfl) (fun _ _ _ h => h) (Or.inr ⟨by with_unfolding_all rfl, rfl⟩) hHeld ?_
        try simp only [Act.put, List.setIfInBounds_toArray, List.set_cons_zero, List.set_cons_succ]
        refine wpAnyH_take (i := 12) (oi := ⟨_, _, _, _, _, _⟩) (v := undef) rfl (by kernel_rfl) (by kernel_rfl) (by kernel_rfl) (fun _ _ _ h => h) (Or.inr ⟨by with_unfolding_all rfl, rfl⟩) hHeld ?_
        try simp only [Act.put, List.setIfInBounds_toArray, List.set_cons_zero, List.set_cons_succ]
        refine wpAnyH_take (i := 13) (oi := ⟨_, _, _, _, _, _⟩) (v := undef) rfl (by kernel_rfl) (by kernel_rfl) (by kernel_rfl) (fun _ _ _ h => h) (Or.inr ⟨by with_unfolding_all rfl, rfl⟩) hHeld ?_
        try simp only [Act.put, List.setIfInBounds_toArray, List.set_cons_zero, List.set_cons_succ]
        refine wpAnyH_take (i := 14) (oi := ⟨_, _, _, _, _, _⟩) (v := undef) rfl (by kernel_rfl) (by kernel_rfl) (by kernel_rfl) (fun _ _ _ h => h) (Or.inr ⟨by with_unfolding_all rfl, rfl⟩) hHeld ?_
        try simp only [Act.put, List.setIfInBounds_toArray, List.set_cons_zero, List.set_cons_succ]
        refine wpAnyH_take (i := 15) (oi := ⟨_, _, _, _, _, _⟩) (v := undef) rfl (by kernel_rfl) (by kernel_rfl) (by kernel_rfl) (fun _ _ _ h => h) (Or.inr ⟨by with_unfolding_all rfl, rfl⟩) hHeld ?_
        try simp only [Act.put, List.setIfInBounds_toArray, List.set_cons_zero, List.set_cons_succ]
        refine wpAnyH_take (i := 16) (oi := ⟨_, _, _, _, _, _⟩) (v := undef) rfl (by kernel_rfl) (by kernel_rfl) (by kernel_rfl) (fun _ _ _ h => h) (Or.inr ⟨by with_unfolding_all rfl, rfl⟩) hHeld ?_
        try simp only [Act.put, List.setIfInBounds_toArray, List.set_cons_zero, List.set_cons_succ]
        refine wpAnyH_take (i := 17) (oi := ⟨_, _, _, _, _, _⟩) (v := undef) rfl (by kernel_rfl) (by kernel_rfl) (by kernel_rfl) (fun _ _ _ h => h) (Or.inr ⟨by with_unfolding_all rfl, rfl⟩) hHeld ?_
        try simp only [Act.put, List.setIfInBounds_toArray, List.set_cons_zero, List.set_cons_succ]
        refine wpAnyH_take (i := 18) (oi := ⟨_, _, _, _, _, _⟩) (v := undef) rfl (by kernel_rfl) (by kernel_rfl) (by kernel_rfl) (fun _ _ _ h => h) (Or.inr ⟨by with_unfolding_all rfl, rfl⟩) hHeld ?_
        try simp only [Act.put, List.setIfInBounds_toArray, List.set_cons_zero, List.set_cons_succ]
        refine wpAnyH_take (i := 19) (oi := ⟨_, _, _, _, _, _⟩) (v := undef) rfl (by kernel_rfl) (by kernel_rfl) (by kernel_rfl) (fun _ _ _ h => h) (Or.inr ⟨by with_unfolding_all rfl, rfl⟩) hHeld ?_
        try simp only [Act.put, List.setIfInBounds_toArray, List.set_cons_zero, List.set_cons_succ]
        refine wpAnyH_take (i := 20) (oi := ⟨_, _, _, _, _, _⟩) (v := undef) rfl (by kernel_rfl) (by kernel_rfl) (by kernel_rfl) (fun _ _ _ h => h) (Or.inr ⟨by with_unfolding_all rfl, rfl⟩) hHeld ?_
        try simp only [Act.put, List.setIfInBounds_toArray, List.set_cons_zero, List.set_cons_succ]
        refine wpAnyH_take (i := 21) (oi := ⟨_, _, _, _, _, _⟩) (v := undef) rfl (by kernel_rfl) (by kernel_rfl) (by kernel_rfl) (fun _ _ _ h => h) (Or.inr ⟨by with_unfolding_all rfl, rfl⟩) hHeld ?_
        try simp only [Act.put, List.setIfInBounds_toArray, List.set_cons_zero, List.set_cons_succ]
        refine wpAnyH_take (i := 22) (oi := ⟨_, _, _, _, _, _⟩) (v := undef) rfl (by kernel_rfl) (by kernel_rfl) (by kernel_rfl) (fun _ _ _ h => h) (Or.inr ⟨by with_unfolding_all rfl, rfl⟩) hHeld ?_
        try simp only [Act.put, List.setIfInBounds_toArray, List.set_cons_zero, List.set_cons_succ]
        refine wpAnyH_take (i := 23) (oi := ⟨_, _, _, _, _, _⟩) (v := undef) rfl (by kernel_rfl) (by kernel_rfl) (by kernel_rfl) (fun _ _ _ h => h) (Or.inr ⟨by with_unfolding_all rfl, rfl⟩) hHeld ?_
        try simp only [Act.put, List.setIfInBounds_toArray, List.set_cons_zero, List.set_cons_succ]
        refine wpAnyH_take (i := 24) (oi := ⟨_, _, _, _, _, _⟩) (v := .bool true) rfl (by kernel_rfl) (by kernel_rfl) (by kernel_rfl) (fun _ _ _ h => h) (Or.inl ⟨wanted_free rfl, fun w' hSw => ?_⟩) hHeld ?_
        · go_simp
        try simp only [Act.put, List.setIfInBounds_toArray, List.set_cons_zero, List.set_cons_succ]
        refine wpAnyH_take (i := 25) (oi := ⟨_, _, _, _, _, _⟩) (v := .bool true) rfl (by kernel_rfl) (by kernel_rfl) (by kernel_rfl) (fun _ _ _ h => h) (Or.inl ⟨wanted_free rfl, fun w' hSw => ?_⟩) hHeld ?_
        · go_simp
        try simp only [Act.put, List.setIfInBounds_toArray, List.set_cons_zero, List.set_cons_succ]
        have HSW := KpSs.drew HS
        clear HS
        refine wpAnyH_done (by kernel_rfl) ?_ _
        clear hHeld
        go_wp2
        go_roundw
        case rel => exact ⟨k + 1, true, by go_num, rfl, by omega, HOn, HSW⟩
        case measure => simp [intOf]; omega
      | false =>
      rw [Bool.false_or] at HOx
      by_cases hXY : X = Y
      case neg =>
        as_aux_lemma =>
        have eXY : (X == Y) = false := beq_eq_false_iff_ne.2 hXY
        have HOn : Hid (false = (l.take (k + 1)).any (fun x => x.k == Y && chkB x.k x.e x.s t)) := by show _ = _; rw [HOx.out, eXY, Bool.false_and]
        clear HOx hCh hXY
        go_wp2_with fail
        clear p0 p1 q0 q1
        refine wp_region_held_drew (S := fun w' => w'.cell? ⟨w.heap.size, 1, none⟩ = some (.slice (some ⟨kb, ko, none⟩) kn kc) ∧ w'.cell? ⟨G3, 0, none⟩ = some (.string t) ∧ w'.cell? ⟨G3, 1, none⟩ = some (.slice (some ⟨b, o, none⟩) n c) ∧ w'.cell? ⟨kb, ko + i, none⟩ = some (.int .i64 Y) ∧ w'.cell? ⟨b, o + k * 3, none⟩ = some (.int .i64 X) ∧ w'.cell? ⟨b, o + k * 3 + 1, none⟩ = some (.int .i64 E) ∧ w'.cell? ⟨b, o + k * 3 + 2, none⟩ = some (.int .i64 S)) (by kernel_rfl) (KpSs.all (KpSs.drew HS) HK HA HY HX) (fun hHeld => ?_)
        refine wpAnyH_take (i := 0) (oi := ⟨_, _, _, _, _, _⟩) (v := .bool false) rfl (by kernel_rfl) (by kernel_rfl) (by kernel_rfl) (fun _ _ _ h => h) (Or.inl ⟨wanted_free rfl, fun w' hSw => ?_⟩) hHeld ?_
        · go_simp
        try simp only [Act.put, List.setIfInBounds_toArray, List.set_cons_zero, List.set_cons_succ]
        refine wpAnyH_take (i := 1) (oi := ⟨_, _, _, _, _, _⟩) (v := .bool false) rfl (by kernel_rfl) (by kernel_rfl) (by kernel_rfl) (fun _ _ _ h => h) (Or.inl ⟨wanted_free rfl, fun w' hSw => ?_⟩) hHeld ?_
        · go_simp
        try simp only [Act.put, List.setIfInBounds_toArray, List.set_cons_zero, List.set_cons_succ]
        refine wpAnyH_take (i := 2) (oi := ⟨_, _, _, _, _, _⟩) (v := .pointer (some ⟨G3, 1, none⟩)) rfl (by kernel_rfl) (by kernel_rfl) (by kernel_rfl) (fun _ _ _ h => h) (Or.inl ⟨by with_unfolding_all rfl, fun w' hSw => ?_⟩) hHeld ?_
        · go_simp
        try simp only [Act.put, List.setIfInBounds_toArray, List.set_cons_zero, List.set_cons_succ]
        refine wpAnyH_take (i := 3) (oi := ⟨_, _, _, _, _, _⟩) (v := .slice (some ⟨b, o, none⟩) n c) rfl (by kernel_rfl) (by kernel_rfl) (by kernel_rfl) (fun _ _ _ h => h) (Or.inl ⟨by with_unfolding_all rfl, fun w' hSw => ?_⟩) hHeld ?_
        · obtain ⟨s0, s1, s2, s3, s4, s5, s6⟩ := hSw
          go_simp
        try simp only [Act.put, List.setIfInBounds_toArray, List.set_cons_zero, List.set_cons_succ]
        refine wpAnyH_take (i := 4) (oi := ⟨_, _, _, _, _, _⟩) (v := .int .i64 (k : Int)) rfl (by kernel_rfl) (by kernel_rfl) (by kernel_rfl) (fun _ _ _ h => h) (Or.inl ⟨by with_unfolding_all rfl, fun w' hSw => ?_⟩) hHeld ?_
        · go_simp
        try simp only [Act.put, List.setIfInBounds_toArray, List.set_cons_zero, List.set_cons_succ]
        refine wpAnyH_take (i := 5) (oi := ⟨_, _, _, _, _, _⟩) (v := .pointer (some ⟨b, o + k * 3, none⟩)) rfl (by kernel_rfl) (by kernel_rfl) (by kernel_rfl) (fun _ _ _ h => h) (Or.inl ⟨by with_unfolding_all rfl, fun w' hSw => ?_⟩) hHeld ?_
        · go_simp
        try simp only [Act.put, List.setIfInBounds_toArray, List.set_cons_zero, List.set_cons_succ]
        refine wpAnyH_take (i := 6) (oi := ⟨_, _, _, _, _, _⟩) (v := .pointer (some ⟨b, o + k * 3, none⟩)) rfl (by kernel_rfl) (by kernel_rfl) (by kernel_rfl) (fun _ _ _ h => h) (Or.inl ⟨by with_unfolding_all rfl, fun w' hSw => ?_⟩) hHeld ?_
        · go_simp
        try simp only [Act.put, List.setIfInBounds_toArray, List.set_cons_zero, List.set_cons_succ]
        refine wpAnyH_take (i := 7) (oi := ⟨_, _, _, _, _, _⟩) (v := .int .i64 X) rfl (by kernel_rfl) (by kernel_rfl) (by kernel_rfl) (fun _ _ _ h => h) (Or.inl ⟨by with_unfolding_all rfl, fun w' hSw => ?_⟩) hHeld ?_
        · obtain ⟨s0, s1, s2, s3, s4, s5, s6⟩ := hSw
          go_simp
        try simp only [Act.put, List.setIfInBounds_toArray, List.set_cons_zero, List.set_cons_succ]
        refine wpAnyH_take (i := 8) (oi := ⟨_, _, _, _, _, _⟩) (v := .pointer (some ⟨w.heap.size, 1, none⟩)) rfl (by kernel_rfl) (by kernel_rfl) (by kernel_rfl) (fun _ _ _ h => h) (Or.inl ⟨by with_unfolding_all rfl, fun w' hSw => ?_⟩) hHeld ?_
        · go_simp
        try simp only [Act.put, List.setIfInBounds_toArray, List.set_cons_zero, List.set_cons_succ]
        refine wpAnyH_take (i := 9) (oi := ⟨_, _, _, _, _, _⟩) (v := .slice (some ⟨kb, ko, none⟩) kn kc) rfl (by kernel_rfl) (by kernel_rfl) (by kernel_rfl) (fun _ _ _ h => h) (Or.inl ⟨by with_unfolding_all rfl, fun w' hSw => ?_⟩) hHeld ?_
        · obtain ⟨s0, s1, s2, s3, s4, s5, s6⟩ := hSw
          go_simp
        try simp only [Act.put, List.setIfInBounds_toArray, List.set_cons_zero, List.set_cons_succ]
        refine wpAnyH_take (i := 10) (oi := ⟨_, _, _, _, _, _⟩) (v := .int .i64 (i : Int)) rfl (by kernel_rfl) (by kernel_rfl) (by kernel_rfl) (fun _ _ _ h => h) (Or.inl ⟨by with_unfolding_all rfl, fun w' hSw => ?_⟩) hHeld ?_
        · go_simp
        try simp only [Act.put, List.setIfInBounds_toArray, List.set_cons_zero, List.set_cons_succ]
        refine wpAnyH_take (i := 11) (oi := ⟨_, _, _, _, _, _⟩) (v := .pointer (some ⟨kb, ko + i, none⟩)) rfl (by kernel_rfl) (by kernel_rfl) (by kernel_rfl) (fun _ _ _ h => h) (Or.inl ⟨by with_unfolding_all rfl, fun w' hSw => ?_⟩) hHeld ?_
        · go_simp
        try simp only [Act.put, List.setIfInBounds_toArray, List.set_cons_zero, List.set_cons_succ]
        refine wpAnyH_take (i := 12) (oi := ⟨_, _, _, _, _, _⟩) (v := .int .i64 Y) rfl (by kernel_rfl) (by kernel_rfl) (by kernel_rfl) (fun _ _ _ h => h) (Or.inl ⟨by with_unfolding_all rfl, fun w' hSw => ?_⟩) hHeld ?_
        · obtain ⟨s0, s1, s2, s3, s4, s5, s6⟩ := hSw
          go_simp
        try simp only [Act.put, List.setIfInBounds_toArray, List.set_cons_zero, List.set_cons_succ]
        refine wpAnyH_take (i := 13) (oi := ⟨_, _, _, _, _, _⟩) (v := .bool false) rfl (by kernel_rfl) (by kernel_rfl) (by kernel_rfl) (fun _ _ _ h => h) (Or.inl ⟨by with_unfolding_all rfl, fun w' hSw => ?_⟩) hHeld ?_
        · go_simp
        try simp only [Act.put, List.setIfInBounds_toArray, List.set_cons_zero, List.set_cons_succ]
        refine wpAnyH_take (i := 14) (oi := ⟨_, _, _, _, _, _⟩) (v := .bool false) rfl (by kernel_rfl) (by kernel_rfl) (by kernel_rfl) (fun _ _ _ h => h) (Or.inl ⟨by with_unfolding_all rfl, fun w' hSw => ?_⟩) hHeld ?_
        · go_simp
        try simp only [Act.put, List.setIfInBounds_toArray, List.set_cons_zero, List.set_cons_succ]
        refine wpAnyH_take (i := 15) (oi := ⟨_, _, _, _, _, _⟩) (v := undef) rfl (by kernel_rfl) (by kernel_rfl) (by kernel_rfl) (fun _ _ _ h => h) (Or.inr ⟨by with_unfolding_all rfl, rfl⟩) hHeld ?_
        try simp only [Act.put, List.setIfInBounds_toArray, List.set_cons_zero, List.set_cons_succ]
        refine wpAnyH_take (i := 16) (oi := ⟨_, _, _, _, _, _⟩) (v := undef) rfl (by kernel_rfl) (by kernel_rfl) (by kernel_rfl) (fun _ _ _ h => h) (Or.inr ⟨by with_unfolding_all rfl, rfl⟩) hHeld ?_
        try simp only [Act.put, List.setIfInBounds_toArray, List.set_cons_zero, List.set_cons_succ]
        refine wpAnyH_take (i := 17) (oi := ⟨_, _, _, _, _, _⟩) (v := undef) rfl (by kernel_rfl) (by kernel_rfl) (by kernel_rfl) (fun _ _ _ h => h) (Or.inr ⟨by with_unfolding_all rfl, rfl⟩) hHeld ?_
        try simp only [Act.put, List.setIfInBounds_toArray, List.set_cons_zero, List.set_cons_succ]
        refine wpAnyH_take (i := 18) (oi := ⟨_, _, _, _, _, _⟩) (v := undef) rfl (by kernel_rfl) (by kernel_rfl) (by kernel_rfl) (fun _ _ _ h => h) (Or.inr ⟨by with_unfolding_all rfl, rfl⟩) hHeld ?_
        try simp only [Act.put, List.setIfInBounds_toArray, List.set_cons_zero, List.set_cons_succ]
        refine wpAnyH_take (i := 19) (oi := ⟨_, _, _, _, _, _⟩) (v := undef) rfl (by kernel_rfl) (by kernel_rfl) (by kernel_rfl) (fun _ _ _ h => h) (Or.inr ⟨by with_unfolding_all rfl, rfl⟩) hHeld ?_
        try simp only [Act.put, List.setIfInBounds_toArray, List.set_cons_zero, List.set_cons_succ]
        refine wpAnyH_take (i := 20) (oi := ⟨_, _, _, _, _, _⟩) (v := undef) rfl (by kernel_rfl) (by kernel_rfl) (by kernel_rfl) (fun _ _ _ h => h) (Or.inr ⟨by with_unfolding_all rfl, rfl⟩) hHeld ?_
        try simp only [Act.put, List.setIfInBounds_toArray, List.set_cons_zero, List.set_cons_succ]
        refine wpAnyH_take (i := 21) (oi := ⟨_, _, _, _, _, _⟩) (v := undef) rfl (by kernel_rfl) (by kernel_rfl) (by kernel_rfl) (fun _ _ _ h => h) (Or.inr ⟨by with_unfolding_all rfl, rfl⟩) hHeld ?_
        try simp only [Act.put, List.setIfInBounds_toArray, List.set_cons_zero, List.set_cons_succ]
        refine wpAnyH_take (i := 22) (oi := ⟨_, _, _, _, _, _⟩) (v := undef) rfl (by kernel_rfl) (by kernel_rfl) (by kernel_rfl) (fun _ _ _ h => h) (Or.inr ⟨by with_unfolding_all rfl, rfl⟩) hHeld ?_
        try simp only [Act.put, List.setIfInBounds_toArray, List.set_cons_zero, List.set_cons_succ]
        refine wpAnyH_take (i := 23) (oi := ⟨_, _, _, _, _, _⟩) (v := .bool false) rfl (by kernel_rfl) (by kernel_rfl) (by kernel_rfl) (fun _ _ _ h => h) (Or.inl ⟨by with_unfolding_all rfl, fun w' hSw => ?_⟩) hHeld ?_
        · go_simp
        try simp only [Act.put, List.setIfInBounds_toArray, List.set_cons_zero, List.set_cons_succ]
        refine wpAnyH_take (i := 24) (oi := ⟨_, _, _, _, _, _⟩) (v := .bool false) rfl (by kernel_rfl) (by kernel_rfl) (by kernel_rfl) (fun _ _ _ h => h) (Or.inl ⟨wanted_free rfl, fun w' hSw => ?_⟩) hHeld ?_
        · go_simp
        try simp only [Act.put, List.setIfInBounds_toArray, List.set_cons_zero, List.set_cons_succ]
        refine wpAnyH_take (i := 25) (oi := ⟨_, _, _, _, _, _⟩) (v := .bool false) rfl (by kernel_rfl) (by kernel_rfl) (by kernel_rfl) (fun _ _ _ h => h) (Or.inl ⟨wanted_free rfl, fun w' hSw => ?_⟩) hHeld ?_
        · go_simp
        try simp only [Act.put, List.setIfInBounds_toArray, List.set_cons_zero, List.set_cons_succ]
        have HSW := KpSs.drew HS
        clear HS
        refine wpAnyH_done (by kernel_rfl) ?_ _
        clear hHeld
        go_wp2
        go_roundw
        case rel => exact ⟨k + 1, false, by go_num, rfl, by omega, HOn, HSW⟩
        case measure => simp [intOf]; omega
      have eXY : (X == Y) = true := beq_iff_eq.2 hXY
      rw [eXY, Bool.true_and] at HOx
      clear hXY
      cases cb with
      | true =>
        as_aux_lemma =>
        have HOn : Hid (true = (l.take (k + 1)).any (fun x => x.k == Y && chkB x.k x.e x.s t)) := by show _ = _; rw [HOx.out]
        clear HOx
        go_wp2_with fail
        clear p0 p1 q0 q1
        refine wp_region_held_drew (S := fun w' => w'.cell? ⟨w.heap.size, 1, none⟩ = some (.slice (some ⟨kb, ko, none⟩) kn kc) ∧ w'.cell? ⟨G3, 0, none⟩ = some (.string t) ∧ w'.cell? ⟨G3, 1, none⟩ = some (.slice (some ⟨b, o, none⟩) n c) ∧ w'.cell? ⟨kb, ko + i, none⟩ = some (.int .i64 Y) ∧ w'.cell? ⟨b, o + k * 3, none⟩ = some (.int .i64 X) ∧ w'.cell? ⟨b, o + k * 3 + 1, none⟩ = some (.int .i64 E) ∧ w'.cell? ⟨b, o + k * 3 + 2, none⟩ = some (.int .i64 S)) (by kernel_rfl) (KpSs.all (KpSs.drew HS) HK HA HY HX) (fun hHeld => ?_)
        refine wpAnyH_take (i := 0) (oi := ⟨_, _, _, _, _, _⟩) (v := .bool false) rfl (by kernel_rfl) (by kernel_rfl) (by kernel_rfl) (fun _ _ _ h => h) (Or.inl ⟨wanted_free rfl, fun w' hSw => ?_⟩) hHeld ?_
        · go_simp
        try simp only [Act.put, List.setIfInBounds_toArray, List.set_cons_zero, List.set_cons_succ]
        refine wpAnyH_take (i := 1) (oi := ⟨_, _, _, _, _, _⟩) (v := .bool false) rfl (by kernel_rfl) (by kernel_rfl) (by kernel_rfl) (fun _ _ _ h => h) (Or.inl ⟨wanted_free rfl, fun w' hSw => ?_⟩) hHeld ?_
        · go_simp
        try simp only [Act.put, List.setIfInBounds_toArray, List.set_cons_zero, List.set_cons_succ]
        refine wpAnyH_take (i := 2) (oi := ⟨_, _, _, _, _, _⟩) (v := .pointer (some ⟨G3, 1, none⟩)) rfl (by kernel_rfl) (by kernel_rfl) (by kernel_rfl) (fun _ _ _ h => h) (Or.inl ⟨by with_unfolding_all rfl, fun w' hSw => ?_⟩) hHeld ?_
        · go_simp
        try simp only [Act.put, List.setIfInBounds_toArray, List.set_cons_zero, List.set_cons_succ]
        refine wpAnyH_take (i := 3) (oi := ⟨_, _, _, _, _, _⟩) (v := .slice (some ⟨b, o, none⟩) n c) rfl (by kernel_rfl) (by kernel_rfl) (by kernel_rfl) (fun _ _ _ h => h) (Or.inl ⟨by with_unfolding_all rfl, fun w' hSw => ?_⟩) hHeld ?_
        · obtain ⟨s0, s1, s2, s3, s4, s5, s6⟩ := hSw
          go_simp
        try simp only [Act.put, List.setIfInBounds_toArray, List.set_cons_zero, List.set_cons_succ]
        refine wpAnyH_take (i := 4) (oi := ⟨_, _, _, _, _, _⟩) (v := .int .i64 (k : Int)) rfl (by kernel_rfl) (by kernel_rfl) (by kernel_rfl) (fun _ _ _ h => h) (Or.inl ⟨by with_unfolding_all rfl, fun w' hSw => ?_⟩) hHeld ?_
        · go_simp
        try simp only [Act.put, List.setIfInBounds_toArray, List.set_cons_zero, List.set_cons_succ]
        refine wpAnyH_take (i := 5) (oi := ⟨_, _, _, _, _, _⟩) (v := .pointer (some ⟨b, o + k * 3, none⟩)) rfl (by kernel_rfl) (by kernel_rfl) (by kernel_rfl) (fun _ _ _ h => h) (Or.inl ⟨by with_unfolding_all rfl, fun w' hSw => ?_⟩) hHeld ?_
        · go_simp
        try simp only [Act.put, List.setIfInBounds_toArray, List.set_cons_zero, List.set_cons_succ]
        refine wpAnyH_take (i := 6) (oi := ⟨_, _, _, _, _, _⟩) (v := .pointer (some ⟨b, o + k * 3, none⟩)) rfl (by kernel_rfl) (by kernel_rfl) (by kernel_rfl) (fun _ _ _ h => h) (Or.inl ⟨by with_unfolding_all rfl, fun w' hSw => ?_⟩) hHeld ?_
        · go_simp
        try simp only [Act.put, List.setIfInBounds_toArray, List.set_cons_zero, List.set_cons_succ]
        refine wpAnyH_take (i := 7) (oi := ⟨_, _, _, _, _, _⟩) (v := .int .i64 X) rfl (by kernel_rfl) (by kernel_rfl) (by kernel_rfl) (fun _ _ _ h => h) (Or.inl ⟨by with_unfolding_all rfl, fun w' hSw => ?_⟩) hHeld ?_
        · obtain ⟨s0, s1, s2, s3, s4, s5, s6⟩ := hSw
          go_simp
        try simp only [Act.put, List.setIfInBounds_toArray, List.set_cons_zero, List.set_cons_succ]
        refine wpAnyH_take (i := 8) (oi := ⟨_, _, _, _, _, _⟩) (v := .pointer (some ⟨w.heap.size, 1, none⟩)) rfl (by kernel_rfl) (by kernel_rfl) (by kernel_rfl) (fun _ _ _ h => h) (Or.inl ⟨by with_unfolding_all rfl, fun w' hSw => ?_⟩) hHeld ?_
        · go_simp
        try simp only [Act.put, List.setIfInBounds_toArray, List.set_cons_zero, List.set_cons_succ]
        refine wpAnyH_take (i := 9) (oi := ⟨_, _, _, _, _, _⟩) (v := .slice (some ⟨kb, ko, none⟩) kn kc) rfl (by kernel_rfl) (by kernel_rfl) (by kernel_rfl) (fun _ _ _ h => h) (Or.inl ⟨by with_unfolding_all rfl, fun w' hSw => ?_⟩) hHeld ?_
        · obtain ⟨s0, s1, s2, s3, s4, s5, s6⟩ := hSw
          go_simp
        try simp only [Act.put, List.setIfInBounds_toArray, List.set_cons_zero, List.set_cons_succ]
        refine wpAnyH_take (i := 10) (oi := ⟨_, _, _, _, _, _⟩) (v := .int .i64 (i : Int)) rfl (by kernel_rfl) (by kernel_rfl) (by kernel_rfl) (fun _ _ _ h => h) (Or.inl ⟨by with_unfolding_all rfl, fun w' hSw => ?_⟩) hHeld ?_
        · go_simp
        try simp only [Act.put, List.setIfInBounds_toArray, List.set_cons_zero, List.set_cons_succ]
        refine wpAnyH_take (i := 11) (oi := ⟨_, _, _, _, _, _⟩) (v := .pointer (some ⟨kb, ko + i, none⟩)) rfl (by kernel_rfl) (by kernel_rfl) (by kernel_rfl) (fun _ _ _ h => h) (Or.inl ⟨by with_unfolding_all rfl, fun w' hSw => ?_⟩) hHeld ?_
        · go_simp
        try simp only [Act.put, List.setIfInBounds_toArray, List.set_cons_zero, List.set_cons_succ]
        refine wpAnyH_take (i := 12) (oi := ⟨_, _, _, _, _, _⟩) (v := .int .i64 Y) rfl (by kernel_rfl) (by kernel_rfl) (by kernel_rfl) (fun _ _ _ h => h) (Or.inl ⟨by with_unfolding_all rfl, fun w' hSw => ?_⟩) hHeld ?_
        · obtain ⟨s0, s1, s2, s3, s4, s5, s6⟩ := hSw
          go_simp
        try simp only [Act.put, List.setIfInBounds_toArray, List.set_cons_zero, List.set_cons_succ]
        refine wpAnyH_take (i := 13) (oi := ⟨_, _, _, _, _, _⟩) (v := .bool true) rfl (by kernel_rfl) (by kernel_rfl) (by kernel_rfl) (fun _ _ _ h => h) (Or.inl ⟨by with_unfolding_all rfl, fun w' hSw => ?_⟩) hHeld ?_
        · go_simp
        try simp only [Act.put, List.setIfInBounds_toArray, List.set_cons_zero, List.set_cons_succ]
        refine wpAnyH_take (i := 14) (oi := ⟨_, _, _, _, _, _⟩) (v := .bool true) rfl (by kernel_rfl) (by kernel_rfl) (by kernel_rfl) (fun _ _ _ h => h) (Or.inl ⟨by with_unfolding_all rfl, fun w' hSw => ?_⟩) hHeld ?_
        · go_simp
        try simp only [Act.put, List.setIfInBounds_toArray, List.set_cons_zero, List.set_cons_succ]
        refine wpAnyH_take (i := 15) (oi := ⟨_, _, _, _, _, _⟩) (v := .pointer (some ⟨G3, 1, none⟩)) rfl (by kernel_rfl) (by kernel_rfl) (by kernel_rfl) (fun _ _ _ h => h) (Or.inl ⟨by with_unfolding_all rfl, fun w' hSw => ?_⟩) hHeld ?_
        · go_simp
        try simp only [Act.put, List.setIfInBounds_toArray, List.set_cons_zero, List.set_cons_succ]
        refine wpAnyH_take (i := 16) (oi := ⟨_, _, _, _, _, _⟩) (v := .slice (some ⟨b, o, none⟩) n c) rfl (by kernel_rfl) (by kernel_rfl) (by kernel_rfl) (fun _ _ _ h => h) (Or.inl ⟨by with_unfolding_all rfl, fun w' hSw => ?_⟩) hHeld ?_
        · obtain ⟨s0, s1, s2, s3, s4, s5, s6⟩ := hSw
          go_simp
        try simp only [Act.put, List.setIfInBounds_toArray, List.set_cons_zero, List.set_cons_succ]
        refine wpAnyH_take (i := 17) (oi := ⟨_, _, _, _, _, _⟩) (v := .int .i64 (k : Int)) rfl (by kernel_rfl) (by kernel_rfl) (by kernel_rfl) (fun _ _ _ h => h) (Or.inl ⟨by with_unfolding_all rfl, fun w' hSw => ?_⟩) hHeld ?_
        · go_simp
        try simp only [Act.put, List.setIfInBounds_toArray, List.set_cons_zero, List.set_cons_succ]
        refine wpAnyH_take (i := 18) (oi := ⟨_, _, _, _, _, _⟩) (v := .pointer (some ⟨b, o + k * 3, none⟩)) rfl (by kernel_rfl) (by kernel_rfl) (by kernel_rfl) (fun _ _ _ h => h) (Or.inl ⟨by with_unfolding_all rfl, fun w' hSw => ?_⟩) hHeld ?_
        · go_simp
        try simp only [Act.put, List.setIfInBounds_toArray, List.set_cons_zero, List.set_cons_succ]
        refine wpAnyH_take (i := 19) (oi := ⟨_, _, _, _, _, _⟩) (v := .agg #[.int .i64 X, .int .i64 E, .int .i64 S]) rfl (by kernel_rfl) (by kernel_rfl) (by kernel_rfl) (fun _ _ _ h => h) (Or.inl ⟨by with_unfolding_all rfl, fun w' hSw => ?_⟩) hHeld ?_
        · obtain ⟨s0, s1, s2, s3, s4, s5, s6⟩ := hSw
          go_simp
        try simp only [Act.put, List.setIfInBounds_toArray, List.set_cons_zero, List.set_cons_succ]
        refine wpAnyH_take (i := 20) (oi := ⟨_, _, _, _, _, _⟩) (v := .pointer (some ⟨G3, 0, none⟩)) rfl (by kernel_rfl) (by kernel_rfl) (by kernel_rfl) (fun _ _ _ h => h) (Or.inl ⟨by with_unfolding_all rfl, fun w' hSw => ?_⟩) hHeld ?_
        · go_simp
        try simp only [Act.put, List.setIfInBounds_toArray, List.set_cons_zero, List.set_cons_succ]
        refine wpAnyH_take (i := 21) (oi := ⟨_, _, _, _, _, _⟩) (v := .string t) rfl (by kernel_rfl) (by kernel_rfl) (by kernel_rfl) (fun _ _ _ h => h) (Or.inl ⟨by with_unfolding_all rfl, fun w' hSw => ?_⟩) hHeld ?_
        · obtain ⟨s0, s1, s2, s3, s4, s5, s6⟩ := hSw
          go_simp
        try simp only [Act.put, List.setIfInBounds_toArray, List.set_cons_zero, List.set_cons_succ]
        have HSD := KpSs.drew HS
        clear HS
        generalize wr.drew = W at *
        refine wpAnyH_ready (rs := [22]) (by kernel_rfl) (by simp) (AllReadyH.cons (o := ⟨_, _, _, _, _, _⟩) rfl (fun K hK => ?_) AllReadyH.nil)
        rewrite [if_pos (by with_unfolding_all rfl)]
        go_simp
        refine (hCh W).mono ?_
        rintro r wh ⟨rfl, hBh⟩
        have HSW := KpSs.call HSD hBh
        go_wp2_with fail
        refine hK.out _ _ (KpSs.all HSW HK HA HY HX) (fun hHeld => ?_)
        clear hK K
        try simp only [Act.put, List.setIfInBounds_toArray, List.set_cons_zero, List.set_cons_succ]
        refine wpAnyH_take (i := 23) (oi := ⟨_, _, _, _, _, _⟩) (v := .bool true) rfl (by kernel_rfl) (by kernel_rfl) (by kernel_rfl) (fun _ _ _ h => h) (Or.inl ⟨by with_unfolding_all rfl, fun w' hSw => ?_⟩) hHeld ?_
        · go_simp
        try simp only [Act.put, List.setIfInBounds_toArray, List.set_cons_zero, List.set_cons_succ]
        refine wpAnyH_take (i := 24) (oi := ⟨_, _, _, _, _, _⟩) (v := .bool true) rfl (by kernel_rfl) (by kernel_rfl) (by kernel_rfl) (fun _ _ _ h => h) (Or.inl ⟨wanted_free rfl, fun w' hSw => ?_⟩) hHeld ?_
        · go_simp
        try simp only [Act.put, List.setIfInBounds_toArray, List.set_cons_zero, List.set_cons_succ]
        refine wpAnyH_take (i := 25) (oi := ⟨_, _, _, _, _, _⟩) (v := .bool true) rfl (by kernel_rfl) (by kernel_rfl) (by kernel_rfl) (fun _ _ _ h => h) (Or.inl ⟨wanted_free rfl, fun w' hSw => ?_⟩) hHeld ?_
        · go_simp
        try simp only [Act.put, List.setIfInBounds_toArray, List.set_cons_zero, List.set_cons_succ]
        refine wpAnyH_done (by kernel_rfl) ?_ _
        clear hHeld
        go_wp2
        go_roundw
        case rel => exact ⟨k + 1, true, by go_num, rfl, by omega, HOn, HSW⟩
        case measure => simp [intOf]; omega
      | false =>
        as_aux_lemma =>
        have HOn : Hid (false = (l.take (k + 1)).any (fun x => x.k == Y && chkB x.k x.e x.s t)) := by show _ = _; rw [HOx.out]
        clear HOx
        go_wp2_with fail
        clear p0 p1 q0 q1
        refine wp_region_held_drew (S := fun w' => w'.cell? ⟨w.heap.size, 1, none⟩ = some (.slice (some ⟨kb, ko, none⟩) kn kc) ∧ w'.cell? ⟨G3, 0, none⟩ = some (.string t) ∧ w'.cell? ⟨G3, 1, none⟩ = some (.slice (some ⟨b, o, none⟩) n c) ∧ w'.cell? ⟨kb, ko + i, none⟩ = some (.int .i64 Y) ∧ w'.cell? ⟨b, o + k * 3, none⟩ = some (.int .i64 X) ∧ w'.cell? ⟨b, o + k * 3 + 1, none⟩ = some (.int .i64 E) ∧ w'.cell? ⟨b, o + k * 3 + 2, none⟩ = some (.int .i64 S)) (by kernel_rfl) (KpSs.all (KpSs.drew HS) HK HA HY HX) (fun hHeld => ?_)
        refine wpAnyH_take (i := 0) (oi := ⟨_, _, _, _, _, _⟩) (v := .bool false) rfl (by kernel_rfl) (by kernel_rfl) (by kernel_rfl) (fun _ _ _ h => h) (Or.inl ⟨wanted_free rfl, fun w' hSw => ?_⟩) hHeld ?_
        · go_simp
        try simp only [Act.put, List.setIfInBounds_toArray, List.set_cons_zero, List.set_cons_succ]
        refine wpAnyH_take (i := 1) (oi := ⟨_, _, _, _, _, _⟩) (v := .bool false) rfl (by kernel_rfl) (by kernel_rfl) (by kernel_rfl) (fun _ _ _ h => h) (Or.inl ⟨wanted_free rfl, fun w' hSw => ?_⟩) hHeld ?_
        · go_simp
        try simp only [Act.put, List.setIfInBounds_toArray, List.set_cons_zero, List.set_cons_succ]
        refine wpAnyH_take (i := 2) (oi := ⟨_, _, _, _, _, _⟩) (v := .pointer (some ⟨G3, 1, none⟩)) rfl (by kernel_rfl) (by kernel_rfl) (by kernel_rfl) (fun _ _ _ h => h) (Or.inl ⟨by with_unfolding_all rfl, fun w' hSw => ?_⟩) hHeld ?_
        · go_simp
        try simp only [Act.put, List.setIfInBounds_toArray, List.set_cons_zero, List.set_cons_succ]
        refine wpAnyH_take (i := 3) (oi := ⟨_, _, _, _, _, _⟩) (v := .slice (some ⟨b, o, none⟩) n c) rfl (by kernel_rfl) (by kernel_rfl) (by kernel_rfl) (fun _ _ _ h => h) (Or.inl ⟨by with_unfolding_all rfl, fun w' hSw => ?_⟩) hHeld ?_
        · obtain ⟨s0, s1, s2, s3, s4, s5, s6⟩ := hSw
          go_simp
        try simp only [Act.put, List.setIfInBounds_toArray, List.set_cons_zero, List.set_cons_succ]
        refine wpAnyH_take (i := 4) (oi := ⟨_, _, _, _, _, _⟩) (v := .int .i64 (k : Int)) rfl (by kernel_rfl) (by kernel_rfl) (by kernel_rfl) (fun _ _ _ h => h) (Or.inl ⟨by with_unfolding_all rfl, fun w' hSw => ?_⟩) hHeld ?_
        · go_simp
        try simp only [Act.put, List.setIfInBounds_toArray, List.set_cons_zero, List.set_cons_succ]
        refine wpAnyH_take (i := 5) (oi := ⟨_, _, _, _, _, _⟩) (v := .pointer (some ⟨b, o + k * 3, none⟩)) rfl (by kernel_rfl) (by kernel_rfl) (by kernel_rfl) (fun _ _ _ h => h) (Or.inl ⟨by with_unfolding_all rfl, fun w' hSw => ?_⟩) hHeld ?_
        · go_simp
        try simp only [Act.put, List.setIfInBounds_toArray, List.set_cons_zero, List.set_cons_succ]
        refine wpAnyH_take (i := 6) (oi := ⟨_, _, _, _, _, _⟩) (v := .pointer (some ⟨b, o + k * 3, none⟩)) rfl (by kernel_rfl) (by kernel_rfl) (by kernel_rfl) (fun _ _ _ h => h) (Or.inl ⟨by with_unfolding_all rfl, fun w' hSw => ?_⟩) hHeld ?_
        · go_simp
        try simp only [Act.put, List.setIfInBounds_toArray, List.set_cons_zero, List.set_cons_succ]
        refine wpAnyH_take (i := 7) (oi := ⟨_, _, _, _, _, _⟩) (v := .int .i64 X) rfl (by kernel_rfl) (by kernel_rfl) (by kernel_rfl) (fun _ _ _ h => h) (Or.inl ⟨by with_unfolding_all rfl, fun w' hSw => ?_⟩) hHeld ?_
        · obtain ⟨s0, s1, s2, s3, s4, s5, s6⟩ := hSw
          go_simp
        try simp only [Act.put, List.setIfInBounds_toArray, List.set_cons_zero, List.set_cons_succ]
        refine wpAnyH_take (i := 8) (oi := ⟨_, _, _, _, _, _⟩) (v := .pointer (some ⟨w.heap.size, 1, none⟩)) rfl (by kernel_rfl) (by kernel_rfl) (by kernel_rfl) (fun _ _ _ h => h) (Or.inl ⟨by with_unfolding_all rfl, fun w' hSw => ?_⟩) hHeld ?_
        · go_simp
        try simp only [Act.put, List.setIfInBounds_toArray, List.set_cons_zero, List.set_cons_succ]
        refine wpAnyH_take (i := 9) (oi := ⟨_, _, _, _, _, _⟩) (v := .slice (some ⟨kb, ko, none⟩) kn kc) rfl (by kernel_rfl) (by kernel_rfl) (by kernel_rfl) (fun _ _ _ h => h) (Or.inl ⟨by with_unfolding_all rfl, fun w' hSw => ?_⟩) hHeld ?_
        · obtain ⟨s0, s1, s2, s3, s4, s5, s6⟩ := hSw
          go_simp
        try simp only [Act.put, List.setIfInBounds_toArray, List.set_cons_zero, List.set_cons_succ]
        refine wpAnyH_take (i := 10) (oi := ⟨_, _, _, _, _, _⟩) (v := .int .i64 (i : Int)) rfl (by kernel_rfl) (by kernel_rfl) (by kernel_rfl) (fun _ _ _ h => h) (Or.inl ⟨by with_unfolding_all rfl, fun w' hSw => ?_⟩) hHeld ?_
        · go_simp
        try simp only [Act.put, List.setIfInBounds_toArray, List.set_cons_zero, List.set_cons_succ]
        refine wpAnyH_take (i := 11) (oi := ⟨_, _, _, _, _, _⟩) (v := .pointer (some ⟨kb, ko + i, none⟩)) rfl (by kernel_rfl) (by kernel_rfl) (by kernel_rfl) (fun _ _ _ h => h) (Or.inl ⟨by with_unfolding_all rfl, fun w' hSw => ?_⟩) hHeld ?_
        · go_simp
        try simp only [Act.put, List.setIfInBounds_toArray, List.set_cons_zero, List.set_cons_succ]
        refine wpAnyH_take (i := 12) (oi := ⟨_, _, _, _, _, _⟩) (v := .int .i64 Y) rfl (by kernel_rfl) (by kernel_rfl) (by kernel_rfl) (fun _ _ _ h => h) (Or.inl ⟨by with_unfolding_all rfl, fun w' hSw => ?_⟩) hHeld ?_
        · obtain ⟨s0, s1, s2, s3, s4, s5, s6⟩ := hSw
          go_simp
        try simp only [Act.put, List.setIfInBounds_toArray, List.set_cons_zero, List.set_cons_succ]
        refine wpAnyH_take (i := 13) (oi := ⟨_, _, _, _, _, _⟩) (v := .bool true) rfl (by kernel_rfl) (by kernel_rfl) (by kernel_rfl) (fun _ _ _ h => h) (Or.inl ⟨by with_unfolding_all rfl, fun w' hSw => ?_⟩) hHeld ?_
        · go_simp
        try simp only [Act.put, List.setIfInBounds_toArray, List.set_cons_zero, List.set_cons_succ]
        refine wpAnyH_take (i := 14) (oi := ⟨_, _, _, _, _, _⟩) (v := .bool true) rfl (by kernel_rfl) (by kernel_rfl) (by kernel_rfl) (fun _ _ _ h => h) (Or.inl ⟨by with_unfolding_all rfl, fun w' hSw => ?_⟩) hHeld ?_
        · go_simp
        try simp only [Act.put, List.setIfInBounds_toArray, List.set_cons_zero, List.set_cons_succ]
        refine wpAnyH_take (i := 15) (oi := ⟨_, _, _, _, _, _⟩) (v := .pointer (some ⟨G3, 1, none⟩)) rfl (by kernel_rfl) (by kernel_rfl) (by kernel_rfl) (fun _ _ _ h => h) (Or.inl ⟨by with_unfolding_all rfl, fun w' hSw => ?_⟩) hHeld ?_
        · go_simp
        try simp only [Act.put, List.setIfInBounds_toArray, List.set_cons_zero, List.set_cons_succ]
        refine wpAnyH_take (i := 16) (oi := ⟨_, _, _, _, _, _⟩) (v := .slice (some ⟨b, o, none⟩) n c) rfl (by kernel_rfl) (by kernel_rfl) (by kernel_rfl) (fun _ _ _ h => h) (Or.inl ⟨by with_unfolding_all rfl, fun w' hSw => ?_⟩) hHeld ?_
        · obtain ⟨s0, s1, s2, s3, s4, s5, s6⟩ := hSw
          go_simp
        try simp only [Act.put, List.setIfInBounds_toArray, List.set_cons_zero, List.set_cons_succ]
        refine wpAnyH_take (i := 17) (oi := ⟨_, _, _, _, _, _⟩) (v := .int .i64 (k : Int)) rfl (by kernel_rfl) (by kernel_rfl) (by kernel_rfl) (fun _ _ _ h => h) (Or.inl ⟨by with_unfolding_all rfl, fun w' hSw => ?_⟩) hHeld ?_
        · go_simp
        try simp only [Act.put, List.setIfInBounds_toArray, List.set_cons_zero, List.set_cons_succ]
        refine wpAnyH_take (i := 18) (oi := ⟨_, _, _, _, _, _⟩) (v := .pointer (some ⟨b, o + k * 3, none⟩)) rfl (by kernel_rfl) (by kernel_rfl) (by kernel_rfl) (fun _ _ _ h => h) (Or.inl ⟨by with_unfolding_all rfl, fun w' hSw => ?_⟩) hHeld ?_
        · go_simp
        try simp only [Act.put, List.setIfInBounds_toArray, List.set_cons_zero, List.set_cons_succ]
        refine wpAnyH_take (i := 19) (oi := ⟨_, _, _, _, _, _⟩) (v := .agg #[.int .i64 X, .int .i64 E, .int .i64 S]) rfl (by kernel_rfl) (by kernel_rfl) (by kernel_rfl) (fun _ _ _ h => h) (Or.inl ⟨by with_unfolding_all rfl, fun w' hSw => ?_⟩) hHeld ?_
        · obtain ⟨s0, s1, s2, s3, s4, s5, s6⟩ := hSw
          go_simp
        try simp only [Act.put, List.setIfInBounds_toArray, List.set_cons_zero, List.set_cons_succ]
        refine wpAnyH_take (i := 20) (oi := ⟨_, _, _, _, _, _⟩) (v := .pointer (some ⟨G3, 0, none⟩)) rfl (by kernel_rfl) (by kernel_rfl) (by kernel_rfl) (fun _ _ _ h => h) (Or.inl ⟨by with_unfolding_all rfl, fun w' hSw => ?_⟩) hHeld ?_
        · go_simp
        try simp only [Act.put, List.setIfInBounds_toArray, List.set_cons_zero, List.set_cons_succ]
        refine wpAnyH_take (i := 21) (oi := ⟨_, _, _, _, _, _⟩) (v := .string t) rfl (by kernel_rfl) (by kernel_rfl) (by kernel_rfl) (fun _ _ _ h => h) (Or.inl ⟨by with_unfolding_all rfl, fun w' hSw => ?_⟩) hHeld ?_
        · obtain ⟨s0, s1, s2, s3, s4, s5, s6⟩ := hSw
          go_simp
        try simp only [Act.put, List.setIfInBounds_toArray, List.set_cons_zero, List.set_cons_succ]
        have HSD := KpSs.drew HS
        clear HS
        generalize wr.drew = W at *
        refine wpAnyH_ready (rs := [22]) (by kernel_rfl) (by simp) (AllReadyH.cons (o := ⟨_, _, _, _, _, _⟩) rfl (fun K hK => ?_) AllReadyH.nil)
        rewrite [if_pos (by with_unfolding_all rfl)]
        go_simp
        refine (hCh W).mono ?_
        rintro r wh ⟨rfl, hBh⟩
        have HSW := KpSs.call HSD hBh
        go_wp2_with fail
        refine hK.out _ _ (KpSs.all HSW HK HA HY HX) (fun hHeld => ?_)
        clear hK K
        try simp only [Act.put, List.setIfInBounds_toArray, List.set_cons_zero, List.set_cons_succ]
        refine wpAnyH_take (i := 23) (oi := ⟨_, _, _, _, _, _⟩) (v := .bool false) rfl (by kernel_rfl) (by kernel_rfl) (by kernel_rfl) (fun _ _ _ h => h) (Or.inl ⟨by with_unfolding_all rfl, fun w' hSw => ?_⟩) hHeld ?_
        · go_simp
        try simp only [Act.put, List.setIfInBounds_toArray, List.set_cons_zero, List.set_cons_succ]
        refine wpAnyH_take (i := 24) (oi := ⟨_, _, _, _, _, _⟩) (v := .bool false) rfl (by kernel_rfl) (by kernel_rfl) (by kernel_rfl) (fun _ _ _ h => h) (Or.inl ⟨wanted_free rfl, fun w' hSw => ?_⟩) hHeld ?_
        · go_simp
        try simp only [Act.put, List.setIfInBounds_toArray, List.set_cons_zero, List.set_cons_succ]
        refine wpAnyH_take (i := 25) (oi := ⟨_, _, _, _, _, _⟩) (v := .bool false) rfl (by kernel_rfl) (by kernel_rfl) (by kernel_rfl) (fun _ _ _ h => h) (Or.inl ⟨wanted_free rfl, fun w' hSw => ?_⟩) hHeld ?_
        · go_simp
        try simp only [Act.put, List.setIfInBounds_toArray, List.set_cons_zero, List.set_cons_succ]
        refine wpAnyH_done (by kernel_rfl) ?_ _
        clear hHeld
        go_wp2
        go_roundw
        case rel => exact ⟨k + 1, false, by go_num, rfl, by omega, HOn, HSW⟩
        case measure => simp [intOf]; omega
end Go.Proofs.YtmahpmjkejnkfaaDoor
namespace Go.Proofs.YtmahpmjkejnkfaaDoor
open Go.RowKit
set_option linter.unusedVariables false

set_option maxRecDepth 100000 in
set_option maxHeartbeats 4000000 in
theorem specEnough (z : Int) (ka : Option Addr) (kc kn : Nat) (ks : List Int) (t : ByteArray) (a : Option Addr) (c n : Nat) (l : List SigV) (w : World) (hkn : ks.length = kn) (hk : AI w ka ks) (hkm : kn ≤ maxLen) (hkw : ∀ x ∈ ks, I64 x) (hz : I64 z) (hn : l.length = n) (h : SgsAt w a l) (hnm : n ≤ maxLen) (ht : t.size ≤ maxLen) (hw : ∀ x ∈ l, x.w) (ha : ArrU w 0 keys) (h0 : 0 < w.heap.size) :
    Calls Tryd.prog 7 #[.agg #[.int .i64 z, .slice ka kn kc], .agg #[.string t, .slice a n c]] w fun r w' => r = .returned (.bool (enB z ks t l)) ∧ Below w.heap.size w w' := by
  have HKN : Hid (ks.length = kn) := hkn
  have HK : Hid (AI w ka ks) := hk
  have HKW : Hid (∀ x ∈ ks, I64 x) := hkw
  have HN : Hid (l.length = n) := hn
  have HA : Hid (SgsAt w a l) := h
  have HW : Hid (∀ x ∈ l, x.w) := hw
  have HKs : Hid (ArrU w 0 keys) := ha
  have hR : ∀ w0, Below w.heap.size w w0 → Calls Tryd.prog 22 #[.agg #[.int .i64 z, .slice ka kn kc]] w0 fun r w' => r = .returned (.bool (roleB z ks)) ∧ Below w0.heap.size w0 w' := fun w0 hb0 => specRole z ka kc kn ks w0 HKN.out (HK.out.below hb0) hkm HKW.out
  have hS : ∀ w0, Below w.heap.size w w0 → Calls Tryd.prog 23 #[.agg #[.string t, .slice a n c]] w0 fun r w' => r = .returned (.bool (signedB t l)) ∧ Below w0.heap.size w0 w' := fun w0 hb0 => specSigned t a c n l w0 HN.out (HA.out.below hb0) hnm ht HW.out
  have HRe : Hid (enB z ks t l = (roleB z ks && (signedB t l && decide (z ≤ ((sgnrs ks l t).length : Int))))) := rfl
  have HR8 : Hid (roleB z ks = true → ks.length ≤ 8) := roleB_8
  have HS8 : Hid (signedB t l = true → t.size ≤ 8000 ∧ l.length ≤ 16 ∧ ∀ x ∈ l, sigB x.k x.e x.s = true) := signedB_len
  obtain ⟨R, hRR⟩ : ∃ R, enB z ks t l = R := ⟨_, rfl⟩
  rw [hRR] at HRe ⊢
  clear hkn hk hkw hn h hw ha hRR
  cases hr : roleB z ks with
  | false =>
    have HF : Hid (R = false) := by show _ = _; rw [HRe.out, hr]; rfl
    rw [hr] at hR
    clear HRe hr HR8 HS8 hS
    go_enter Tryd.func7, Tryd.ntmps7
    go_wp2_with (first
        | (with_reducible refine wpList_boxV (w := w) (by with_unfolding_all rfl) 31 (.tmp 0) (by with_unfolding_all rfl) (rlv z ka kn kc) (by with_unfolding_all rfl) ?_; intro w1 hA1 hB1 hS1; clear hS1; have z1 := hA1.lt (rlv_ne _ _ _ _))
        | (with_reducible refine wpList_boxV (w := w1) (by with_unfolding_all rfl) 35 (.tmp 1) (by with_unfolding_all rfl) (sgv t a n c) (by with_unfolding_all rfl) ?_; intro w2 hA2 hB2 hS2; clear hS2; have HS2 := KpEn.start hB1 hA1 hB2 hA2; clear hA1 hA2 hB1 hB2; obtain ⟨p0, p1, q0, q1⟩ := KpEn.cel HS2))
    clear p0 p1 q0 q1
    generalize w1.heap.size = G3 at *
    refine wp_region_held_drew (S := fun w' => w'.cell? ⟨w.heap.size, 0, none⟩ = some (.int .i64 z) ∧ w'.cell? ⟨w.heap.size, 1, none⟩ = some (.slice ka kn kc) ∧ w'.cell? ⟨G3, 0, none⟩ = some (.string t) ∧ w'.cell? ⟨G3, 1, none⟩ = some (.slice a n c)) (by kernel_rfl) (KpEn.cel (KpEn.drew HS2)) (fun hHeld => ?_)
    refine wpAnyH_take (i := 0) (oi := ⟨_, _, _, _, _, _⟩) (v := .agg #[.int .i64 z, .slice ka kn kc]) rfl (by kernel_rfl) (by kernel_rfl) (by kernel_rfl) (fun _ _ _ h => h) (Or.inl ⟨wanted_free rfl, fun w' hSw => ?_⟩) hHeld ?_
    · obtain ⟨s0, s1, s2, s3⟩ := hSw
      go_simp
    try simp only [Act.put, List.setIfInBounds_toArray, List.set_cons_zero, List.set_cons_succ]
    have HSD := KpEn.drew HS2
    clear HS2
    generalize w2.drew = W at *
    refine wpAnyH_ready (rs := [1]) (by kernel_rfl) (by simp) (AllReadyH.cons (o := ⟨_, _, _, _, _, _⟩) rfl (fun K hK => ?_) AllReadyH.nil)
    rewrite [if_pos (wanted_free rfl)]
    go_simp
    refine (hR W (KpEn.belH HSD)).mono ?_
    rintro r w3 ⟨rfl, hB3⟩
    have HS3 := KpEn.call HSD hB3
    go_wp2_with fail
    refine hK.out _ _ (KpEn.cel HS3) (fun hHeld => ?_)
    clear hK K
    try simp only [Act.put, List.setIfInBounds_toArray, List.set_cons_zero, List.set_cons_succ]
    refine wpAnyH_take (i := 2) (oi := ⟨_, _, _, _, _, _⟩) (v := .bool false) rfl (by kernel_rfl) (by kernel_rfl) (by kernel_rfl) (fun _ _ _ h => h) (Or.inl ⟨wanted_free rfl, fun w' hSw => ?_⟩) hHeld ?_
    · go_simp
    try simp only [Act.put, List.setIfInBounds_toArray, List.set_cons_zero, List.set_cons_succ]
    refine wpAnyH_take (i := 3) (oi := ⟨_, _, _, _, _, _⟩) (v := undef) rfl (by kernel_rfl) (by kernel_rfl) (by kernel_rfl) (fun _ _ _ h => h) (Or.inr ⟨by with_unfolding_all rfl, rfl⟩) hHeld ?_
    try simp only [Act.put, List.setIfInBounds_toArray, List.set_cons_zero, List.set_cons_succ]
    refine wpAnyH_take (i := 4) (oi := ⟨_, _, _, _, _, _⟩) (v := undef) rfl (by kernel_rfl) (by kernel_rfl) (by kernel_rfl) (fun _ _ _ h => h) (Or.inr ⟨by with_unfolding_all rfl, rfl⟩) hHeld ?_
    try simp only [Act.put, List.setIfInBounds_toArray, List.set_cons_zero, List.set_cons_succ]
    refine wpAnyH_take (i := 5) (oi := ⟨_, _, _, _, _, _⟩) (v := .bool false) rfl (by kernel_rfl) (by kernel_rfl) (by kernel_rfl) (fun _ _ _ h => h) (Or.inl ⟨wanted_free rfl, fun w' hSw => ?_⟩) hHeld ?_
    · go_simp
    try simp only [Act.put, List.setIfInBounds_toArray, List.set_cons_zero, List.set_cons_succ]
    refine wpAnyH_take (i := 6) (oi := ⟨_, _, _, _, _, _⟩) (v := .bool false) rfl (by kernel_rfl) (by kernel_rfl) (by kernel_rfl) (fun _ _ _ h => h) (Or.inl ⟨wanted_free rfl, fun w' hSw => ?_⟩) hHeld ?_
    · go_simp
    try simp only [Act.put, List.setIfInBounds_toArray, List.set_cons_zero, List.set_cons_succ]
    refine wpAnyH_take (i := 7) (oi := ⟨_, _, _, _, _, _⟩) (v := undef) rfl (by kernel_rfl) (by kernel_rfl) (by kernel_rfl) (fun _ _ _ h => h) (Or.inr ⟨by with_unfolding_all rfl, rfl⟩) hHeld ?_
    try simp only [Act.put, List.setIfInBounds_toArray, List.set_cons_zero, List.set_cons_succ]
    refine wpAnyH_take (i := 8) (oi := ⟨_, _, _, _, _, _⟩) (v := undef) rfl (by kernel_rfl) (by kernel_rfl) (by kernel_rfl) (fun _ _ _ h => h) (Or.inr ⟨by with_unfolding_all rfl, rfl⟩) hHeld ?_
    try simp only [Act.put, List.setIfInBounds_toArray, List.set_cons_zero, List.set_cons_succ]
    refine wpAnyH_take (i := 9) (oi := ⟨_, _, _, _, _, _⟩) (v := undef) rfl (by kernel_rfl) (by kernel_rfl) (by kernel_rfl) (fun _ _ _ h => h) (Or.inr ⟨by with_unfolding_all rfl, rfl⟩) hHeld ?_
    try simp only [Act.put, List.setIfInBounds_toArray, List.set_cons_zero, List.set_cons_succ]
    refine wpAnyH_take (i := 10) (oi := ⟨_, _, _, _, _, _⟩) (v := undef) rfl (by kernel_rfl) (by kernel_rfl) (by kernel_rfl) (fun _ _ _ h => h) (Or.inr ⟨by with_unfolding_all rfl, rfl⟩) hHeld ?_
    try simp only [Act.put, List.setIfInBounds_toArray, List.set_cons_zero, List.set_cons_succ]
    refine wpAnyH_take (i := 11) (oi := ⟨_, _, _, _, _, _⟩) (v := undef) rfl (by kernel_rfl) (by kernel_rfl) (by kernel_rfl) (fun _ _ _ h => h) (Or.inr ⟨by with_unfolding_all rfl, rfl⟩) hHeld ?_
    try simp only [Act.put, List.setIfInBounds_toArray, List.set_cons_zero, List.set_cons_succ]
    refine wpAnyH_take (i := 12) (oi := ⟨_, _, _, _, _, _⟩) (v := undef) rfl (by kernel_rfl) (by kernel_rfl) (by kernel_rfl) (fun _ _ _ h => h) (Or.inr ⟨by with_unfolding_all rfl, rfl⟩) hHeld ?_
    try simp only [Act.put, List.setIfInBounds_toArray, List.set_cons_zero, List.set_cons_succ]
    refine wpAnyH_take (i := 13) (oi := ⟨_, _, _, _, _, _⟩) (v := undef) rfl (by kernel_rfl) (by kernel_rfl) (by kernel_rfl) (fun _ _ _ h => h) (Or.inr ⟨by with_unfolding_all rfl, rfl⟩) hHeld ?_
    try simp only [Act.put, List.setIfInBounds_toArray, List.set_cons_zero, List.set_cons_succ]
    refine wpAnyH_take (i := 14) (oi := ⟨_, _, _, _, _, _⟩) (v := .bool false) rfl (by kernel_rfl) (by kernel_rfl) (by kernel_rfl) (fun _ _ _ h => h) (Or.inl ⟨wanted_free rfl, fun w' hSw => ?_⟩) hHeld ?_
    · go_simp
    try simp only [Act.put, List.setIfInBounds_toArray, List.set_cons_zero, List.set_cons_succ]
    refine wpAnyH_take (i := 15) (oi := ⟨_, _, _, _, _, _⟩) (v := .bool false) rfl (by kernel_rfl) (by kernel_rfl) (by kernel_rfl) (fun _ _ _ h => h) (Or.inl ⟨wanted_free rfl, fun w' hSw => ?_⟩) hHeld ?_
    · go_simp
    try simp only [Act.put, List.setIfInBounds_toArray, List.set_cons_zero, List.set_cons_succ]
    refine wpAnyH_done (by kernel_rfl) ?_ _
    clear hHeld
    go_wp2
    go_ret
    exact ⟨retY HF.out.symm, HS3.out.bel⟩
  | true =>
  cases hs : signedB t l with
  | false =>
    have HF : Hid (R = false) := by show _ = _; rw [HRe.out, hr, hs]; rfl
    rw [hr] at hR
    rw [hs] at hS
    clear HRe hr hs HR8 HS8
    go_enter Tryd.func7, Tryd.ntmps7
    go_wp2_with (first
        | (with_reducible refine wpList_boxV (w := w) (by with_unfolding_all rfl) 31 (.tmp 0) (by with_unfolding_all rfl) (rlv z ka kn kc) (by with_unfolding_all rfl) ?_; intro w1 hA1 hB1 hS1; clear hS1; have z1 := hA1.lt (rlv_ne _ _ _ _))
        | (with_reducible refine wpList_boxV (w := w1) (by with_unfolding_all rfl) 35 (.tmp 1) (by with_unfolding_all rfl) (sgv t a n c) (by with_unfolding_all rfl) ?_; intro w2 hA2 hB2 hS2; clear hS2; have HS2 := KpEn.start hB1 hA1 hB2 hA2; clear hA1 hA2 hB1 hB2; obtain ⟨p0, p1, q0, q1⟩ := KpEn.cel HS2))
    clear p0 p1 q0 q1
    generalize w1.heap.size = G3 at *
    refine wp_region_held_drew (S := fun w' => w'.cell? ⟨w.heap.size, 0, none⟩ = some (.int .i64 z) ∧ w'.cell? ⟨w.heap.size, 1, none⟩ = some (.slice ka kn kc) ∧ w'.cell? ⟨G3, 0, none⟩ = some (.string t) ∧ w'.cell? ⟨G3, 1, none⟩ = some (.slice a n c)) (by kernel_rfl) (KpEn.cel (KpEn.drew HS2)) (fun hHeld => ?_)
    refine wpAnyH_take (i := 0) (oi := ⟨_, _, _, _, _, _⟩) (v := .agg #[.int .i64 z, .slice ka kn kc]) rfl (by kernel_rfl) (by kernel_rfl) (by kernel_rfl) (fun _ _ _ h => h) (Or.inl ⟨wanted_free rfl, fun w' hSw => ?_⟩) hHeld ?_
    · obtain ⟨s0, s1, s2, s3⟩ := hSw
      go_simp
    try simp only [Act.put, List.setIfInBounds_toArray, List.set_cons_zero, List.set_cons_succ]
    have HSD := KpEn.drew HS2
    clear HS2
    generalize w2.drew = W at *
    refine wpAnyH_ready (rs := [1]) (by kernel_rfl) (by simp) (AllReadyH.cons (o := ⟨_, _, _, _, _, _⟩) rfl (fun K hK => ?_) AllReadyH.nil)
    rewrite [if_pos (wanted_free rfl)]
    go_simp
    refine (hR W (KpEn.belH HSD)).mono ?_
    rintro r w3 ⟨rfl, hB3⟩
    have HS3 := KpEn.call HSD hB3
    go_wp2_with fail
    refine hK.out _ _ (KpEn.cel HS3) (fun hHeld => ?_)
    clear hK K
    try simp only [Act.put, List.setIfInBounds_toArray, List.set_cons_zero, List.set_cons_succ]
    refine wpAnyH_take (i := 2) (oi := ⟨_, _, _, _, _, _⟩) (v := .bool true) rfl (by kernel_rfl) (by kernel_rfl) (by kernel_rfl) (fun _ _ _ h => h) (Or.inl ⟨wanted_free rfl, fun w' hSw => ?_⟩) hHeld ?_
    · go_simp
    try simp only [Act.put, List.setIfInBounds_toArray, List.set_cons_zero, List.set_cons_succ]
    refine wpAnyH_take (i := 3) (oi := ⟨_, _, _, _, _, _⟩) (v := .agg #[.string t, .slice a n c]) rfl (by kernel_rfl) (by kernel_rfl) (by kernel_rfl) (fun _ _ _ h => h) (Or.inl ⟨by with_unfolding_all rfl, fun w' hSw => ?_⟩) hHeld ?_
    · obtain ⟨s0, s1, s2, s3⟩ := hSw
      go_simp
    try simp only [Act.put, List.setIfInBounds_toArray, List.set_cons_zero, List.set_cons_succ]
    refine wpAnyH_ready (rs := [4]) (by kernel_rfl) (by simp) (AllReadyH.cons (o := ⟨_, _, _, _, _, _⟩) rfl (fun K hK => ?_) AllReadyH.nil)
    rewrite [if_pos (by with_unfolding_all rfl)]
    go_simp
    refine (hS w3 (KpEn.belH HS3)).mono ?_
    rintro r w4 ⟨rfl, hB4⟩
    have HS4 := KpEn.call HS3 hB4
    go_wp2_with fail
    refine hK.out _ _ (KpEn.cel HS4) (fun hHeld => ?_)
    clear hK K
    try simp only [Act.put, List.setIfInBounds_toArray, List.set_cons_zero, List.set_cons_succ]
    refine wpAnyH_take (i := 5) (oi := ⟨_, _, _, _, _, _⟩) (v := .bool false) rfl (by kernel_rfl) (by kernel_rfl) (by kernel_rfl) (fun _ _ _ h => h) (Or.inl ⟨wanted_free rfl, fun w' hSw => ?_⟩) hHeld ?_
    · go_simp
    try simp only [Act.put, List.setIfInBounds_toArray, List.set_cons_zero, List.set_cons_succ]
    refine wpAnyH_take (i := 6) (oi := ⟨_, _, _, _, _, _⟩) (v := .bool false) rfl (by kernel_rfl) (by kernel_rfl) (by kernel_rfl) (fun _ _ _ h => h) (Or.inl ⟨wanted_free rfl, fun w' hSw => ?_⟩) hHeld ?_
    · go_simp
    try simp only [Act.put, List.setIfInBounds_toArray, List.set_cons_zero, List.set_cons_succ]
    refine wpAnyH_take (i := 7) (oi := ⟨_, _, _, _, _, _⟩) (v := undef) rfl (by kernel_rfl) (by kernel_rfl) (by kernel_rfl) (fun _ _ _ h => h) (Or.inr ⟨by with_unfolding_all rfl, rfl⟩) hHeld ?_
    try simp only [Act.put, List.setIfInBounds_toArray, List.set_cons_zero, List.set_cons_succ]
    refine wpAnyH_take (i := 8) (oi := ⟨_, _, _, _, _, _⟩) (v := undef) rfl (by kernel_rfl) (by kernel_rfl) (by kernel_rfl) (fun _ _ _ h => h) (Or.inr ⟨by with_unfolding_all rfl, rfl⟩) hHeld ?_
    try simp only [Act.put, List.setIfInBounds_toArray, List.set_cons_zero, List.set_cons_succ]
    refine wpAnyH_take (i := 9) (oi := ⟨_, _, _, _, _, _⟩) (v := undef) rfl (by kernel_rfl) (by kernel_rfl) (by kernel_rfl) (fun _ _ _ h => h) (Or.inr ⟨by with_unfolding_all rfl, rfl⟩) hHeld ?_
    try simp only [Act.put, List.setIfInBounds_toArray, List.set_cons_zero, List.set_cons_succ]
    refine wpAnyH_take (i := 10) (oi := ⟨_, _, _, _, _, _⟩) (v := undef) rfl (by kernel_rfl) (by kernel_rfl) (by kernel_rfl) (fun _ _ _ h => h) (Or.inr ⟨by with_unfolding_all rfl, rfl⟩) hHeld ?_
    try simp only [Act.put, List.setIfInBounds_toArray, List.set_cons_zero, List.set_cons_succ]
    refine wpAnyH_take (i := 11) (oi := ⟨_, _, _, _, _, _⟩) (v := undef) rfl (by kernel_rfl) (by kernel_rfl) (by kernel_rfl) (fun _ _ _ h => h) (Or.inr ⟨by with_unfolding_all rfl, rfl⟩) hHeld ?_
    try simp only [Act.put, List.setIfInBounds_toArray, List.set_cons_zero, List.set_cons_succ]
    refine wpAnyH_take (i := 12) (oi := ⟨_, _, _, _, _, _⟩) (v := undef) rfl (by kernel_rfl) (by kernel_rfl) (by kernel_rfl) (fun _ _ _ h => h) (Or.inr ⟨by with_unfolding_all rfl, rfl⟩) hHeld ?_
    try simp only [Act.put, List.setIfInBounds_toArray, List.set_cons_zero, List.set_cons_succ]
    refine wpAnyH_take (i := 13) (oi := ⟨_, _, _, _, _, _⟩) (v := undef) rfl (by kernel_rfl) (by kernel_rfl) (by kernel_rfl) (fun _ _ _ h => h) (Or.inr ⟨by with_unfolding_all rfl, rfl⟩) hHeld ?_
    try simp only [Act.put, List.setIfInBounds_toArray, List.set_cons_zero, List.set_cons_succ]
    refine wpAnyH_take (i := 14) (oi := ⟨_, _, _, _, _, _⟩) (v := .bool false) rfl (by kernel_rfl) (by kernel_rfl) (by kernel_rfl) (fun _ _ _ h => h) (Or.inl ⟨wanted_free rfl, fun w' hSw => ?_⟩) hHeld ?_
    · go_simp
    try simp only [Act.put, List.setIfInBounds_toArray, List.set_cons_zero, List.set_cons_succ]
    refine wpAnyH_take (i := 15) (oi := ⟨_, _, _, _, _, _⟩) (v := .bool false) rfl (by kernel_rfl) (by kernel_rfl) (by kernel_rfl) (fun _ _ _ h => h) (Or.inl ⟨wanted_free rfl, fun w' hSw => ?_⟩) hHeld ?_
    · go_simp
    try simp only [Act.put, List.setIfInBounds_toArray, List.set_cons_zero, List.set_cons_succ]
    refine wpAnyH_done (by kernel_rfl) ?_ _
    clear hHeld
    go_wp2
    go_ret
    exact ⟨retY HF.out.symm, HS4.out.bel⟩
  | true =>
  have HRd : Hid (R = decide (z ≤ ((sgnrs ks l t).length : Int))) := by show _ = _; rw [HRe.out, hr, hs]; rfl
  have hk8 : kn ≤ 8 := by have := HR8.out hr; have := HKN.out; omega
  obtain ⟨ht8, hl16, HSig⟩ := HS8.out hs
  have hn16 : n ≤ 16 := by have := HN.out; omega
  rw [hr] at hR
  rw [hs] at hS
  have hN8 : (sgnrs ks l t).length ≤ 8 := by have := sgnrs_len ks l t; have := HKN.out; omega
  obtain ⟨N, hNe⟩ : ∃ N, (sgnrs ks l t).length = N := ⟨_, rfl⟩
  have hG : ∀ w0, Below w.heap.size w w0 → Calls Tryd.prog 24 #[.agg #[.int .i64 z, .slice ka kn kc], .agg #[.string t, .slice a n c]] w0 fun r w' => ∃ a5 c5, r = .returned (.slice a5 N c5) ∧ Below w0.heap.size w0 w' := fun w0 hb0 => (specSigners z ka kc kn ks t a c n l w0 HKN.out (HK.out.below hb0) hkm HKW.out hz HN.out (HA.out.below hb0) hnm ht HW.out HSig ht8 hk8 hn16).mono (by
    rintro r w' ⟨v, rfl, h1, h2⟩
    obtain ⟨a5, c5, rfl, -, -⟩ := OwnI.form h1
    exact ⟨a5, c5, by rw [hNe], h2⟩)
  rw [hNe] at HRd hN8
  have hz9 : -9223372036854775808 ≤ z ∧ z ≤ 9223372036854775807 := by unfold I64 at hz; simpa [Lit.wf, IntKind.min, IntKind.max, IntKind.signed, IntKind.bits] using hz
  clear HRe hr hs HR8 HS8 HSig hNe
  by_cases hle : z ≤ (N : Int)
  · have HF : Hid (R = true) := by show _ = _; rw [HRd.out]; exact decide_eq_true hle
    go_enter Tryd.func7, Tryd.ntmps7
    go_wp2_with (first
        | (with_reducible refine wpList_boxV (w := w) (by with_unfolding_all rfl) 31 (.tmp 0) (by with_unfolding_all rfl) (rlv z ka kn kc) (by with_unfolding_all rfl) ?_; intro w1 hA1 hB1 hS1; clear hS1; have z1 := hA1.lt (rlv_ne _ _ _ _))
        | (with_reducible refine wpList_boxV (w := w1) (by with_unfolding_all rfl) 35 (.tmp 1) (by with_unfolding_all rfl) (sgv t a n c) (by with_unfolding_all rfl) ?_; intro w2 hA2 hB2 hS2; clear hS2; have HS2 := KpEn.start hB1 hA1 hB2 hA2; clear hA1 hA2 hB1 hB2; obtain ⟨p0, p1, q0, q1⟩ := KpEn.cel HS2))
    clear p0 p1 q0 q1
    generalize w1.heap.size = G3 at *
    refine wp_region_held_drew (S := fun w' => w'.cell? ⟨w.heap.size, 0, none⟩ = some (.int .i64 z) ∧ w'.cell? ⟨w.heap.size, 1, none⟩ = some (.slice ka kn kc) ∧ w'.cell? ⟨G3, 0, none⟩ = some (.string t) ∧ w'.cell? ⟨G3, 1, none⟩ = some (.slice a n c)) (by kernel_rfl) (KpEn.cel (KpEn.drew HS2)) (fun hHeld => ?_)
    refine wpAnyH_take (i := 0) (oi := ⟨_, _, _, _, _, _⟩) (v := .agg #[.int .i64 z, .slice ka kn kc]) rfl (by kernel_rfl) (by kernel_rfl) (by kernel_rfl) (fun _ _ _ h => h) (Or.inl ⟨wanted_free rfl, fun w' hSw => ?_⟩) hHeld ?_
    · obtain ⟨s0, s1, s2, s3⟩ := hSw
      go_simp
    try simp only [Act.put, List.setIfInBounds_toArray, List.set_cons_zero, List.set_cons_succ]
    have HSD := KpEn.drew HS2
    clear HS2
    generalize w2.drew = W at *
    refine wpAnyH_ready (rs := [1]) (by kernel_rfl) (by simp) (AllReadyH.cons (o := ⟨_, _, _, _, _, _⟩) rfl (fun K hK => ?_) AllReadyH.nil)
    rewrite [if_pos (wanted_free rfl)]
    go_simp
    refine (hR W (KpEn.belH HSD)).mono ?_
    rintro r w3 ⟨rfl, hB3⟩
    have HS3 := KpEn.call HSD hB3
    go_wp2_with fail
    refine hK.out _ _ (KpEn.cel HS3) (fun hHeld => ?_)
    clear hK K
    try simp only [Act.put, List.setIfInBounds_toArray, List.set_cons_zero, List.set_cons_succ]
    refine wpAnyH_take (i := 2) (oi := ⟨_, _, _, _, _, _⟩) (v := .bool true) rfl (by kernel_rfl) (by kernel_rfl) (by kernel_rfl) (fun _ _ _ h => h) (Or.inl ⟨wanted_free rfl, fun w' hSw => ?_⟩) hHeld ?_
    · go_simp
    try simp only [Act.put, List.setIfInBounds_toArray, List.set_cons_zero, List.set_cons_succ]
    refine wpAnyH_take (i := 3) (oi := ⟨_, _, _, _, _, _⟩) (v := .agg #[.string t, .slice a n c]) rfl (by kernel_rfl) (by kernel_rfl) (by kernel_rfl) (fun _ _ _ h => h) (Or.inl ⟨by with_unfolding_all rfl, fun w' hSw => ?_⟩) hHeld ?_
    · obtain ⟨s0, s1, s2, s3⟩ := hSw
      go_simp
    try simp only [Act.put, List.setIfInBounds_toArray, List.set_cons_zero, List.set_cons_succ]
    refine wpAnyH_ready (rs := [4]) (by kernel_rfl) (by simp) (AllReadyH.cons (o := ⟨_, _, _, _, _, _⟩) rfl (fun K hK => ?_) AllReadyH.nil)
    rewrite [if_pos (by with_unfolding_all rfl)]
    go_simp
    refine (hS w3 (KpEn.belH HS3)).mono ?_
    rintro r w4 ⟨rfl, hB4⟩
    have HS4 := KpEn.call HS3 hB4
    go_wp2_with fail
    refine hK.out _ _ (KpEn.cel HS4) (fun hHeld => ?_)
    clear hK K
    try simp only [Act.put, List.setIfInBounds_toArray, List.set_cons_zero, List.set_cons_succ]
    refine wpAnyH_take (i := 5) (oi := ⟨_, _, _, _, _, _⟩) (v := .bool true) rfl (by kernel_rfl) (by kernel_rfl) (by kernel_rfl) (fun _ _ _ h => h) (Or.inl ⟨wanted_free rfl, fun w' hSw => ?_⟩) hHeld ?_
    · go_simp
    try simp only [Act.put, List.setIfInBounds_toArray, List.set_cons_zero, List.set_cons_succ]
    refine wpAnyH_take (i := 6) (oi := ⟨_, _, _, _, _, _⟩) (v := .bool true) rfl (by kernel_rfl) (by kernel_rfl) (by kernel_rfl) (fun _ _ _ h => h) (Or.inl ⟨wanted_free rfl, fun w' hSw => ?_⟩) hHeld ?_
    · go_simp
    try simp only [Act.put, List.setIfInBounds_toArray, List.set_cons_zero, List.set_cons_succ]
    refine wpAnyH_take (i := 7) (oi := ⟨_, _, _, _, _, _⟩) (v := .agg #[.int .i64 z, .slice ka kn kc]) rfl (by kernel_rfl) (by kernel_rfl) (by kernel_rfl) (fun _ _ _ h => h) (Or.inl ⟨by with_unfolding_all rfl, fun w' hSw => ?_⟩) hHeld ?_
    · obtain ⟨s0, s1, s2, s3⟩ := hSw
      go_simp
    try simp only [Act.put, List.setIfInBounds_toArray, List.set_cons_zero, List.set_cons_succ]
    refine wpAnyH_take (i := 8) (oi := ⟨_, _, _, _, _, _⟩) (v := .agg #[.string t, .slice a n c]) rfl (by kernel_rfl) (by kernel_rfl) (by kernel_rfl) (fun _ _ _ h => h) (Or.inl ⟨by with_unfolding_all rfl, fun w' hSw => ?_⟩) hHeld ?_
    · obtain ⟨s0, s1, s2, s3⟩ := hSw
      go_simp
    try simp only [Act.put, List.setIfInBounds_toArray, List.set_cons_zero, List.set_cons_succ]
    refine wpAnyH_take (i := 11) (oi := ⟨_, _, _, _, _, _⟩) (v := .pointer (some ⟨w.heap.size, 0, none⟩)) rfl (by kernel_rfl) (by kernel_rfl) (by kernel_rfl) (fun _ _ _ h => h) (Or.inl ⟨by with_unfolding_all rfl, fun w' hSw => ?_⟩) hHeld ?_
    · go_simp
    try simp only [Act.put, List.setIfInBounds_toArray, List.set_cons_zero, List.set_cons_succ]
    refine wpAnyH_take (i := 12) (oi := ⟨_, _, _, _, _, _⟩) (v := .int .i64 z) rfl (by kernel_rfl) (by kernel_rfl) (by kernel_rfl) (fun _ _ _ h => h) (Or.inl ⟨by with_unfolding_all rfl, fun w' hSw => ?_⟩) hHeld ?_
    · obtain ⟨s0, s1, s2, s3⟩ := hSw
      go_simp
    try simp only [Act.put, List.setIfInBounds_toArray, List.set_cons_zero, List.set_cons_succ]
    refine wpAnyH_ready (rs := [9]) (by kernel_rfl) (by simp) (AllReadyH.cons (o := ⟨_, _, _, _, _, _⟩) rfl (fun K hK => ?_) AllReadyH.nil)
    rewrite [if_pos (by with_unfolding_all rfl)]
    go_simp
    refine (hG w4 (KpEn.belH HS4)).mono ?_
    rintro r w5 ⟨a5, c5, rfl, hB5⟩
    have HS5 := KpEn.call HS4 hB5
    go_wp2_with fail
    refine hK.out _ _ (KpEn.cel HS5) (fun hHeld => ?_)
    clear hK K
    try simp only [Act.put, List.setIfInBounds_toArray, List.set_cons_zero, List.set_cons_succ]
    refine wpAnyH_take (i := 10) (oi := ⟨_, _, _, _, _, _⟩) (v := .int .i64 (N : Int)) rfl (by kernel_rfl) (by kernel_rfl) (by kernel_rfl) (fun _ _ _ h => h) (Or.inl ⟨by with_unfolding_all rfl, fun w' hSw => ?_⟩) hHeld ?_
    · go_simp
    try simp only [Act.put, List.setIfInBounds_toArray, List.set_cons_zero, List.set_cons_succ]
    refine wpAnyH_take (i := 13) (oi := ⟨_, _, _, _, _, _⟩) (v := .bool true) rfl (by kernel_rfl) (by kernel_rfl) (by kernel_rfl) (fun _ _ _ h => h) (Or.inl ⟨by with_unfolding_all rfl, fun w' hSw => ?_⟩) hHeld ?_
    · go_simp
    try simp only [Act.put, List.setIfInBounds_toArray, List.set_cons_zero, List.set_cons_succ]
    refine wpAnyH_take (i := 14) (oi := ⟨_, _, _, _, _, _⟩) (v := .bool true) rfl (by kernel_rfl) (by kernel_rfl) (by kernel_rfl) (fun _ _ _ h => h) (Or.inl ⟨wanted_free rfl, fun w' hSw => ?_⟩) hHeld ?_
    · go_simp
    try simp only [Act.put, List.setIfInBounds_toArray, List.set_cons_zero, List.set_cons_succ]
    refine wpAnyH_take (i := 15) (oi := ⟨_, _, _, _, _, _⟩) (v := .bool true) rfl (by kernel_rfl) (by kernel_rfl) (by kernel_rfl) (fun _ _ _ h => h) (Or.inl ⟨wanted_free rfl, fun w' hSw => ?_⟩) hHeld ?_
    · go_simp
    try simp only [Act.put, List.setIfInBounds_toArray, List.set_cons_zero, List.set_cons_succ]
    refine wpAnyH_done (by kernel_rfl) ?_ _
    clear hHeld
    go_wp2
    go_ret
    exact ⟨retY HF.out.symm, HS5.out.bel⟩
  · have HF : Hid (R = false) := by show _ = _; rw [HRd.out]; exact decide_eq_false hle
    go_enter Tryd.func7, Tryd.ntmps7
    go_wp2_with (first
        | (with_reducible refine wpList_boxV (w := w) (by with_unfolding_all rfl) 31 (.tmp 0) (by with_unfolding_all rfl) (rlv z ka kn kc) (by with_unfolding_all rfl) ?_; intro w1 hA1 hB1 hS1; clear hS1; have z1 := hA1.lt (rlv_ne _ _ _ _))
        | (with_reducible refine wpList_boxV (w := w1) (by with_unfolding_all rfl) 35 (.tmp 1) (by with_unfolding_all rfl) (sgv t a n c) (by with_unfolding_all rfl) ?_; intro w2 hA2 hB2 hS2; clear hS2; have HS2 := KpEn.start hB1 hA1 hB2 hA2; clear hA1 hA2 hB1 hB2; obtain ⟨p0, p1, q0, q1⟩ := KpEn.cel HS2))
    clear p0 p1 q0 q1
    generalize w1.heap.size = G3 at *
    refine wp_region_held_drew (S := fun w' => w'.cell? ⟨w.heap.size, 0, none⟩ = some (.int .i64 z) ∧ w'.cell? ⟨w.heap.size, 1, none⟩ = some (.slice ka kn kc) ∧ w'.cell? ⟨G3, 0, none⟩ = some (.string t) ∧ w'.cell? ⟨G3, 1, none⟩ = some (.slice a n c)) (by kernel_rfl) (KpEn.cel (KpEn.drew HS2)) (fun hHeld => ?_)
    refine wpAnyH_take (i := 0) (oi := ⟨_, _, _, _, _, _⟩) (v := .agg #[.int .i64 z, .slice ka kn kc]) rfl (by kernel_rfl) (by kernel_rfl) (by kernel_rfl) (fun _ _ _ h => h) (Or.inl ⟨wanted_free rfl, fun w' hSw => ?_⟩) hHeld ?_
    · obtain ⟨s0, s1, s2, s3⟩ := hSw
      go_simp
    try simp only [Act.put, List.setIfInBounds_toArray, List.set_cons_zero, List.set_cons_succ]
    have HSD := KpEn.drew HS2
    clear HS2
    generalize w2.drew = W at *
    refine wpAnyH_ready (rs := [1]) (by kernel_rfl) (by simp) (AllReadyH.cons (o := ⟨_, _, _, _, _, _⟩) rfl (fun K hK => ?_) AllReadyH.nil)
    rewrite [if_pos (wanted_free rfl)]
    go_simp
    refine (hR W (KpEn.belH HSD)).mono ?_
    rintro r w3 ⟨rfl, hB3⟩
    have HS3 := KpEn.call HSD hB3
    go_wp2_with fail
    refine hK.out _ _ (KpEn.cel HS3) (fun hHeld => ?_)
    clear hK K
    try simp only [Act.put, List.setIfInBounds_toArray, List.set_cons_zero, List.set_cons_succ]
    refine wpAnyH_take (i := 2) (oi := ⟨_, _, _, _, _, _⟩) (v := .bool true) rfl (by kernel_rfl) (by kernel_rfl) (by kernel_rfl) (fun _ _ _ h => h) (Or.inl ⟨wanted_free rfl, fun w' hSw => ?_⟩) hHeld ?_
    · go_simp
    try simp only [Act.put, List.setIfInBounds_toArray, List.set_cons_zero, List.set_cons_succ]
    refine wpAnyH_take (i := 3) (oi := ⟨_, _, _, _, _, _⟩) (v := .agg #[.string t, .slice a n c]) rfl (by kernel_rfl) (by kernel_rfl) (by kernel_rfl) (fun _ _ _ h => h) (Or.inl ⟨by with_unfolding_all rfl, fun w' hSw => ?_⟩) hHeld ?_
    · obtain ⟨s0, s1, s2, s3⟩ := hSw
      go_simp
    try simp only [Act.put, List.setIfInBounds_toArray, List.set_cons_zero, List.set_cons_succ]
    refine wpAnyH_ready (rs := [4]) (by kernel_rfl) (by simp) (AllReadyH.cons (o := ⟨_, _, _, _, _, _⟩) rfl (fun K hK => ?_) AllReadyH.nil)
    rewrite [if_pos (by with_unfolding_all rfl)]
    go_simp
    refine (hS w3 (KpEn.belH HS3)).mono ?_
    rintro r w4 ⟨rfl, hB4⟩
    have HS4 := KpEn.call HS3 hB4
    go_wp2_with fail
    refine hK.out _ _ (KpEn.cel HS4) (fun hHeld => ?_)
    clear hK K
    try simp only [Act.put, List.setIfInBounds_toArray, List.set_cons_zero, List.set_cons_succ]
    refine wpAnyH_take (i := 5) (oi := ⟨_, _, _, _, _, _⟩) (v := .bool true) rfl (by kernel_rfl) (by kernel_rfl) (by kernel_rfl) (fun _ _ _ h => h) (Or.inl ⟨wanted_free rfl, fun w' hSw => ?_⟩) hHeld ?_
    · go_simp
    try simp only [Act.put, List.setIfInBounds_toArray, List.set_cons_zero, List.set_cons_succ]
    refine wpAnyH_take (i := 6) (oi := ⟨_, _, _, _, _, _⟩) (v := .bool true) rfl (by kernel_rfl) (by kernel_rfl) (by kernel_rfl) (fun _ _ _ h => h) (Or.inl ⟨wanted_free rfl, fun w' hSw => ?_⟩) hHeld ?_
    · go_simp
    try simp only [Act.put, List.setIfInBounds_toArray, List.set_cons_zero, List.set_cons_succ]
    refine wpAnyH_take (i := 7) (oi := ⟨_, _, _, _, _, _⟩) (v := .agg #[.int .i64 z, .slice ka kn kc]) rfl (by kernel_rfl) (by kernel_rfl) (by kernel_rfl) (fun _ _ _ h => h) (Or.inl ⟨by with_unfolding_all rfl, fun w' hSw => ?_⟩) hHeld ?_
    · obtain ⟨s0, s1, s2, s3⟩ := hSw
      go_simp
    try simp only [Act.put, List.setIfInBounds_toArray, List.set_cons_zero, List.set_cons_succ]
    refine wpAnyH_take (i := 8) (oi := ⟨_, _, _, _, _, _⟩) (v := .agg #[.string t, .slice a n c]) rfl (by kernel_rfl) (by kernel_rfl) (by kernel_rfl) (fun _ _ _ h => h) (Or.inl ⟨by with_unfolding_all rfl, fun w' hSw => ?_⟩) hHeld ?_
    · obtain ⟨s0, s1, s2, s3⟩ := hSw
      go_simp
    try simp only [Act.put, List.setIfInBounds_toArray, List.set_cons_zero, List.set_cons_succ]
    refine wpAnyH_take (i := 11) (oi := ⟨_, _, _, _, _, _⟩) (v := .pointer (some ⟨w.heap.size, 0, none⟩)) rfl (by kernel_rfl) (by kernel_rfl) (by kernel_rfl) (fun _ _ _ h => h) (Or.inl ⟨by with_unfolding_all rfl, fun w' hSw => ?_⟩) hHeld ?_
    · go_simp
    try simp only [Act.put, List.setIfInBounds_toArray, List.set_cons_zero, List.set_cons_succ]
    refine wpAnyH_take (i := 12) (oi := ⟨_, _, _, _, _, _⟩) (v := .int .i64 z) rfl (by kernel_rfl) (by kernel_rfl) (by kernel_rfl) (fun _ _ _ h => h) (Or.inl ⟨by with_unfolding_all rfl, fun w' hSw => ?_⟩) hHeld ?_
    · obtain ⟨s0, s1, s2, s3⟩ := hSw
      go_simp
    try simp only [Act.put, List.setIfInBounds_toArray, List.set_cons_zero, List.set_cons_succ]
    refine wpAnyH_ready (rs := [9]) (by kernel_rfl) (by simp) (AllReadyH.cons (o := ⟨_, _, _, _, _, _⟩) rfl (fun K hK => ?_) AllReadyH.nil)
    rewrite [if_pos (by with_unfolding_all rfl)]
    go_simp
    refine (hG w4 (KpEn.belH HS4)).mono ?_
    rintro r w5 ⟨a5, c5, rfl, hB5⟩
    have HS5 := KpEn.call HS4 hB5
    go_wp2_with fail
    refine hK.out _ _ (KpEn.cel HS5) (fun hHeld => ?_)
    clear hK K
    try simp only [Act.put, List.setIfInBounds_toArray, List.set_cons_zero, List.set_cons_succ]
    refine wpAnyH_take (i := 10) (oi := ⟨_, _, _, _, _, _⟩) (v := .int .i64 (N : Int)) rfl (by kernel_rfl) (by kernel_rfl) (by kernel_rfl) (fun _ _ _ h => h) (Or.inl ⟨by with_unfolding_all rfl, fun w' hSw => ?_⟩) hHeld ?_
    · go_simp
    try simp only [Act.put, List.setIfInBounds_toArray, List.set_cons_zero, List.set_cons_succ]
    refine wpAnyH_take (i := 13) (oi := ⟨_, _, _, _, _, _⟩) (v := .bool false) rfl (by kernel_rfl) (by kernel_rfl) (by kernel_rfl) (fun _ _ _ h => h) (Or.inl ⟨by with_unfolding_all rfl, fun w' hSw => ?_⟩) hHeld ?_
    · go_simp
    try simp only [Act.put, List.setIfInBounds_toArray, List.set_cons_zero, List.set_cons_succ]
    refine wpAnyH_take (i := 14) (oi := ⟨_, _, _, _, _, _⟩) (v := .bool false) rfl (by kernel_rfl) (by kernel_rfl) (by kernel_rfl) (fun _ _ _ h => h) (Or.inl ⟨wanted_free rfl, fun w' hSw => ?_⟩) hHeld ?_
    · go_simp
    try simp only [Act.put, List.setIfInBounds_toArray, List.set_cons_zero, List.set_cons_succ]
    refine wpAnyH_take (i := 15) (oi := ⟨_, _, _, _, _, _⟩) (v := .bool false) rfl (by kernel_rfl) (by kernel_rfl) (by kernel_rfl) (fun _ _ _ h => h) (Or.inl ⟨wanted_free rfl, fun w' hSw => ?_⟩) hHeld ?_
    · go_simp
    try simp only [Act.put, List.setIfInBounds_toArray, List.set_cons_zero, List.set_cons_succ]
    refine wpAnyH_done (by kernel_rfl) ?_ _
    clear hHeld
    go_wp2
    go_ret
    exact ⟨retY HF.out.symm, HS5.out.bel⟩
end Go.Proofs.YtmahpmjkejnkfaaDoor
namespace Go.Proofs.YtmahpmjkejnkfaaDoor
open Go.RowKit
set_option linter.unusedVariables false

set_option maxRecDepth 100000 in
set_option maxHeartbeats 1000000 in
theorem szSd2 (t : ByteArray) (a : Option Addr) (n c : Nat) (p : Int) (w : World) (hn : n ≤ maxLen) (ht : t.size ≤ maxLen) (hp0 : 0 ≤ p) (hp : p ≤ 1048576) :
    Calls Tryd.prog 6 #[.agg #[.string t, .slice a n c], .int .i64 p] w fun r w' => (∃ z : Int, r = .returned (.int .i64 z) ∧ (0 ≤ z → n ≤ 1048576)) ∧ Below w.heap.size w w' := by
  unfold maxLen at hn ht
  by_cases h1 : p - (t.size : Int) < 0
  · go_enter Tryd.func6, Tryd.ntmps6
    go_wp2_with (first
      | (with_reducible refine wpList_boxV (w := w) (by with_unfolding_all rfl) 27 (.tmp 0) (by with_unfolding_all rfl) (sgv t a n c) (by with_unfolding_all rfl) ?_; intro w1 hA1 hB1 hS1; obtain ⟨p0, p1⟩ := hA1.sg; clear hS1)
      | (go_at_call 21; go_in))
    go_ret
    exact ⟨⟨_, rfl, fun h => absurd h (by omega)⟩, hB1⟩
  obtain ⟨q, hq⟩ : ∃ q, p - (t.size : Int) = q := ⟨_, rfl⟩
  have hq1 : q ≤ 1048576 := by omega
  have hq0 : 0 ≤ q := by omega
  by_cases h2 : q - (n : Int) < 0
  · go_enter Tryd.func6, Tryd.ntmps6
    go_wp2_with (first
      | (with_reducible refine wpList_boxV (w := w) (by with_unfolding_all rfl) 27 (.tmp 0) (by with_unfolding_all rfl) (sgv t a n c) (by with_unfolding_all rfl) ?_; intro w1 hA1 hB1 hS1; obtain ⟨p0, p1⟩ := hA1.sg; clear hS1)
      | (go_at_call 21; go_in))
    go_ret
    exact ⟨⟨_, rfl, fun h => absurd h (by omega)⟩, hB1⟩
  · have h2' : 0 ≤ q - (n : Int) := by omega
    go_enter Tryd.func6, Tryd.ntmps6
    go_wp2_with (first
      | (with_reducible refine wpList_boxV (w := w) (by with_unfolding_all rfl) 27 (.tmp 0) (by with_unfolding_all rfl) (sgv t a n c) (by with_unfolding_all rfl) ?_; intro w1 hA1 hB1 hS1; obtain ⟨p0, p1⟩ := hA1.sg; clear hS1)
      | (go_at_call 21; go_in))
    go_ret
    exact ⟨⟨_, rfl, fun h => by omega⟩, hB1⟩
theorem KpEn.five {w w' : World} {G2 G3 : Nat} {z : Int} {ka : Option Addr} {kn kc : Nat} {t : ByteArray} {a : Option Addr} {n c : Nat} (h : Hid (KpEn w G2 G3 z ka kn kc t a n c w')) : w'.cell? ⟨G2, 0, none⟩ = some (.int .i64 z) ∧ w'.cell? ⟨G2, 1, none⟩ = some (.slice ka kn kc) ∧ w'.cell? ⟨G3, 0, none⟩ = some (.string t) ∧ w'.cell? ⟨G3, 1, none⟩ = some (.slice a n c) ∧ Hid (KpEn w G2 G3 z ka kn kc t a n c w') :=
  ⟨(KpEn.cel h).1, (KpEn.cel h).2.1, (KpEn.cel h).2.2.1, (KpEn.cel h).2.2.2, h⟩
structure KpLe (w : World) (G3 : Nat) (z : Int) (ka : Option Addr) (kn kc : Nat) (ks : List Int) (t : ByteArray) (a : Option Addr) (n c : Nat) (l : List SigV) (g7 g8 gy g9 : Nat) (w' : World) : Prop where
  kp : KpEn w w.heap.size G3 z ka kn kc t a n c w'
  rx : RowV w' g7 (rlv z (some ⟨g8, 0, none⟩) kn kn)
  ax : AI w' (some ⟨g8, 0, none⟩) ks
  ry : RowV w' gy (sgv t (some ⟨g9, 0, none⟩) n n)
  sy : SgsAt w' (some ⟨g9, 0, none⟩) l
section
variable {w w' w2 : World} {G3 : Nat} {z : Int} {ka : Option Addr} {kn kc : Nat} {ks : List Int} {t : ByteArray} {a : Option Addr} {n c : Nat} {l : List SigV} {g7 g8 gy g9 : Nat}
theorem KpLe.call (h : Hid (KpLe w G3 z ka kn kc ks t a n c l g7 g8 gy g9 w')) (hb : Below w'.heap.size w' w2) : Hid (KpLe w G3 z ka kn kc ks t a n c l g7 g8 gy g9 w2) :=
  ⟨(KpEn.call h.out.kp hb).out, h.out.rx.below hb (h.out.rx.lt (rlv_ne _ _ _ _)), h.out.ax.below hb, h.out.ry.below hb (h.out.ry.lt (sgv_ne _ _ _ _)), h.out.sy.below hb⟩
theorem KpLe.drew (h : Hid (KpLe w G3 z ka kn kc ks t a n c l g7 g8 gy g9 w')) : Hid (KpLe w G3 z ka kn kc ks t a n c l g7 g8 gy g9 w'.drew) := ⟨(KpEn.drew h.out.kp).out, h.out.rx.drew, h.out.ax, h.out.ry.drew, h.out.sy⟩
theorem KpLe.all (h : Hid (KpLe w G3 z ka kn kc ks t a n c l g7 g8 gy g9 w')) : w'.cell? ⟨w.heap.size, 0, none⟩ = some (.int .i64 z) ∧ w'.cell? ⟨w.heap.size, 1, none⟩ = some (.slice ka kn kc) ∧ w'.cell? ⟨G3, 0, none⟩ = some (.string t) ∧ w'.cell? ⟨G3, 1, none⟩ = some (.slice a n c) ∧
    w'.cell? ⟨g7, 0, none⟩ = some (.int .i64 z) ∧ w'.cell? ⟨g7, 1, none⟩ = some (.slice (some ⟨g8, 0, none⟩) kn kn) ∧ w'.cell? ⟨gy, 0, none⟩ = some (.string t) ∧ w'.cell? ⟨gy, 1, none⟩ = some (.slice (some ⟨g9, 0, none⟩) n n) ∧ Hid (KpLe w G3 z ka kn kc ks t a n c l g7 g8 gy g9 w') :=
  ⟨(KpEn.cel h.out.kp).1, (KpEn.cel h.out.kp).2.1, (KpEn.cel h.out.kp).2.2.1, (KpEn.cel h.out.kp).2.2.2, h.out.rx.rl.1, h.out.rx.rl.2, h.out.ry.sg.1, h.out.ry.sg.2, h⟩
theorem KpLe.belH (h : Hid (KpLe w G3 z ka kn kc ks t a n c l g7 g8 gy g9 w')) : Below w.heap.size w w' := h.out.kp.bel
theorem KpLe.start {w8 w9 w10 w11 w12 w13 : World} (h8 : Hid (KpEn w w.heap.size G3 z ka kn kc t a n c w8)) (hi : AI w8 (some ⟨g8, 0, none⟩) ks) (b10 : Below w8.heap.size w8 w10) (r10 : RowV w10 w8.heap.size (rlv z (some ⟨g8, 0, none⟩) kn kn)) (b11 : Below w10.heap.size w10 w11) (si : SgsAt w11 (some ⟨g9, 0, none⟩) l) (b13 : Below w11.heap.size w11 w13) (r13 : RowV w13 w11.heap.size (sgv t (some ⟨g9, 0, none⟩) n n)) :
    Hid (KpLe w G3 z ka kn kc ks t a n c l w8.heap.size g8 w11.heap.size g9 w13) :=
  ⟨(KpEn.call (KpEn.call (KpEn.call h8 b10) b11) b13).out, (r10.below b11 (r10.lt (rlv_ne _ _ _ _))).below b13 (Nat.lt_of_lt_of_le (r10.lt (rlv_ne _ _ _ _)) b11.size), ((hi.below b10).below b11).below b13, r13, si.below b13⟩
end
set_option maxRecDepth 100000 in
set_option maxHeartbeats 4000000 in
theorem lawEnough (z : Int) (ka : Option Addr) (kc kn : Nat) (ks : List Int) (t : ByteArray) (a : Option Addr) (c n : Nat) (l : List SigV) (w : World) (hkn : ks.length = kn) (hk : AI w ka ks) (hkm : kn ≤ maxLen) (hz : I64 z) (hkw : ∀ x ∈ ks, I64 x) (hn : l.length = n) (h : SgsAt w a l) (hnm : n ≤ maxLen) (ht : t.size ≤ maxLen) (hw : ∀ x ∈ l, x.w) (ha : ArrU w 0 keys) (h0 : 0 < w.heap.size) :
    Calls Tryd.prog 3 #[.agg #[.int .i64 z, .slice ka kn kc], .agg #[.string t, .slice a n c]] w fun r w' => r = .returned (.bool true) ∧ Below w.heap.size w w' := by
  have hZ : ∀ w0, Calls Tryd.prog 5 #[.agg #[.int .i64 z, .slice ka kn kc], .int .i64 1048576] w0 fun e w' => e = .returned (.int .i64 (if (1048576 : Int) - (kn : Int) < 0 then -1 else 1048576 - kn)) ∧ Below w0.heap.size w0 w' := fun w0 => szRl_any z ka kc kn 1048576 w0 hkm (by omega) (by omega)
  have hTR : ∀ w0, kn ≤ 1048576 → Below w.heap.size w w0 → Calls Tryd.prog 8 #[.agg #[.int .i64 z, .slice ka kn kc]] w0 fun e w' => ∃ g, e = .returned (.agg #[.int .i64 z, .slice (some ⟨g, 0, none⟩) kn kn]) ∧ AI w' (some ⟨g, 0, none⟩) ks ∧ Below w0.heap.size w0 w' := fun w0 hb hb0 => (toRl_any z ka kc kn ks w0 hkn (hk.below hb0) hb).mono (by
    rintro r w' ⟨g, h1, h2, _, h4⟩
    exact ⟨g, h1, h2, h4⟩)
  have hTS : ∀ w0, n ≤ 1048576 → Below w.heap.size w w0 → Calls Tryd.prog 9 #[.agg #[.string t, .slice a n c]] w0 fun e w' => ∃ g, e = .returned (.agg #[.string t, .slice (some ⟨g, 0, none⟩) n n]) ∧ SgsAt w' (some ⟨g, 0, none⟩) l ∧ Below w0.heap.size w0 w' := fun w0 hb hb0 => toSd_any t a c n l w0 hn (h.below hb0) hb
  have hS : ∀ w0 g1 g2, AI w0 (some ⟨g1, 0, none⟩) ks → SgsAt w0 (some ⟨g2, 0, none⟩) l → Below w.heap.size w w0 → Calls Tryd.prog 7 #[.agg #[.int .i64 z, .slice (some ⟨g1, 0, none⟩) kn kn], .agg #[.string t, .slice (some ⟨g2, 0, none⟩) n n]] w0 fun r w' => r = .returned (.bool (enB z ks t l)) ∧ Below w0.heap.size w0 w' := fun w0 g1 g2 h1 h2 hb0 => specEnough z _ kn kn ks t _ n n l w0 hkn h1 hkm hkw hz hn h2 hnm ht hw (ha.below hb0 h0) (Nat.lt_of_lt_of_le h0 hb0.size)
  have hI : ∀ w0 g1 g2, AI w0 (some ⟨g1, 0, none⟩) ks → SgsAt w0 (some ⟨g2, 0, none⟩) l → Below w.heap.size w w0 → Calls Tryd.prog 10 #[.agg #[.int .i64 z, .slice (some ⟨g1, 0, none⟩) kn kn], .agg #[.string t, .slice (some ⟨g2, 0, none⟩) n n]] w0 fun r w' => r = .returned (.bool (enB z ks t l)) ∧ Below w0.heap.size w0 w' := fun w0 g1 g2 h1 h2 hb0 => implEnough z _ kn kn ks t _ n n l w0 hkn h1 hkm hkw hz hn h2 hnm ht hw (ha.below hb0 h0) (Nat.lt_of_lt_of_le h0 hb0.size)
  have hER : ∀ w0 g1 g2, AI w0 (some ⟨g1, 0, none⟩) ks → AI w0 (some ⟨g2, 0, none⟩) ks → Calls Tryd.prog 11 #[.agg #[.int .i64 z, .slice (some ⟨g1, 0, none⟩) kn kn], .agg #[.int .i64 z, .slice (some ⟨g2, 0, none⟩) kn kn]] w0 fun e w' => e = .returned (.bool true) ∧ Below w0.heap.size w0 w' := fun w0 g1 g2 h1 h2 => eqRl1 z _ _ kn kn kn ks w0 hkn h1 h2 hkm
  have hES : ∀ w0 g1 g2, SgsAt w0 (some ⟨g1, 0, none⟩) l → SgsAt w0 (some ⟨g2, 0, none⟩) l → Calls Tryd.prog 12 #[.agg #[.string t, .slice (some ⟨g1, 0, none⟩) n n], .agg #[.string t, .slice (some ⟨g2, 0, none⟩) n n]] w0 fun e w' => e = .returned (.bool true) ∧ Below w0.heap.size w0 w' := fun w0 g1 g2 h1 h2 => eqSd_any t _ _ n n n l w0 hn h1 h2 hnm
  have hZ2 : ∀ w0 p, 0 ≤ p → p ≤ 1048576 → Calls Tryd.prog 6 #[.agg #[.string t, .slice a n c], .int .i64 p] w0 fun r w' => (∃ q : Int, r = .returned (.int .i64 q) ∧ (0 ≤ q → n ≤ 1048576)) ∧ Below w0.heap.size w0 w' := fun w0 p h1 h2 => szSd2 t a n c p w0 hnm ht h1 h2
  clear hk hkw h hw ha hkn hn hz
  generalize enB z ks t l = R at *
  have hRR : (R == R) = true := by simp
  by_cases hbig : (1048576 : Int) - (kn : Int) < 0
  · rw [if_pos hbig] at hZ
    clear hbig
    go_enter Tryd.func3, Tryd.ntmps3
    go_wp2_with (first
      | (with_reducible refine wpList_boxV (w := w) (by with_unfolding_all rfl) 24 (.tmp 0) (by with_unfolding_all rfl) (rlv z ka kn kc) (by with_unfolding_all rfl) ?_; intro w1 hA1 hB1 hS1; clear hS1; have z1 := hA1.lt (rlv_ne _ _ _ _))
      | (with_reducible refine wpList_boxV (w := w1) (by with_unfolding_all rfl) 27 (.tmp 1) (by with_unfolding_all rfl) (sgv t a n c) (by with_unfolding_all rfl) ?_; intro w2 hA2 hB2 hS2; clear hS2; have HS2 := KpEn.start hB1 hA1 hB2 hA2; clear hA1 hA2 hB1 hB2; obtain ⟨p0, p1, q0, q1⟩ := KpEn.cel HS2)
      | (go_at_call 5; with_reducible refine (hZ w2).mono ?_; rintro r w3 ⟨rfl, hB3⟩; have HS3 := KpEn.call HS2 hB3; clear hB3 p0 p1 q0 q1))
    go_ret
    exact ⟨rfl, HS3.out.bel⟩
  rw [if_neg hbig] at hZ
  have hkb : kn ≤ 1048576 := by omega
  obtain ⟨p, hp⟩ : ∃ p, (1048576 : Int) - (kn : Int) = p := ⟨_, rfl⟩
  rw [hp] at hZ
  have hp0 : 0 ≤ p := by omega
  have hp1 : p ≤ 1048576 := by omega
  clear hbig hp
  go_enter Tryd.func3, Tryd.ntmps3
  go_wp2_with (first
    | (with_reducible refine wpList_boxV (w := w) (by with_unfolding_all rfl) 24 (.tmp 0) (by with_unfolding_all rfl) (rlv z ka kn kc) (by with_unfolding_all rfl) ?_; intro w1 hA1 hB1 hS1; clear hS1; have z1 := hA1.lt (rlv_ne _ _ _ _))
      | (with_reducible refine wpList_boxV (w := w1) (by with_unfolding_all rfl) 27 (.tmp 1) (by with_unfolding_all rfl) (sgv t a n c) (by with_unfolding_all rfl) ?_; intro w2 hA2 hB2 hS2; clear hS2; have HS2 := KpEn.start hB1 hA1 hB2 hA2; clear hA1 hA2 hB1 hB2; obtain ⟨p0, p1, q0, q1⟩ := KpEn.cel HS2)
    | (go_at_call 5; with_reducible refine (hZ w2).mono ?_; rintro r w3 ⟨rfl, hB3⟩; have HS3 := KpEn.call HS2 hB3; clear hB3 p0 p1 q0 q1; obtain ⟨p0, p1, q0, q1⟩ := KpEn.cel HS3))
  refine (hZ2 w3 p hp0 hp1).mono ?_
  rintro r w4 ⟨⟨q, rfl, hq⟩, hB4⟩
  have HS4 := KpEn.call HS3 hB4
  clear p0 p1 q0 q1 HS3 HS2 hB4 hZ hZ2
  obtain ⟨p0, p1, q0, q1⟩ := KpEn.cel HS4
  by_cases hneg : q < 0
  · go_wp2
    go_ret
    exact ⟨rfl, HS4.out.bel⟩
  have hnb := hq (by omega)
  have hTR' := fun w0 => hTR w0 hkb
  have hTS' := fun w0 => hTS w0 hnb
  clear hTR hTS hq
  go_wp2_with fail
  clear p0 p1 q0 q1
  have HSd := KpEn.drew HS4
  clear HS4
  generalize w1.heap.size = G3 at *
  go_region_held3 (fun w' => w'.cell? ⟨w.heap.size, 0, none⟩ = some (.int .i64 z) ∧ w'.cell? ⟨w.heap.size, 1, none⟩ = some (.slice ka kn kc) ∧ w'.cell? ⟨G3, 0, none⟩ = some (.string t) ∧ w'.cell? ⟨G3, 1, none⟩ = some (.slice a n c) ∧ Hid (KpEn w w.heap.size G3 z ka kn kc t a n c w'))
    (first | exact KpEn.five HSd | exact KpEn.five (KpEn.call HSd h5) | exact KpEn.five (KpEn.call (KpEn.call HSd h5) h6) | exact KpEn.five (KpEn.call (KpEn.call (KpEn.call HSd h5) h6) h7))
    (first
      | (go_at_call 8; with_reducible refine (hTR' _ (KpEn.belH HSd)).mono ?_; rintro r w5 ⟨g5, rfl, hI5, h5⟩)
      | (go_at_call 9; with_reducible refine (hTS' _ (KpEn.belH (KpEn.call HSd h5))).mono ?_; rintro r w6 ⟨g6, rfl, hI6, h6⟩)
      | (go_at_call 7; with_reducible refine (hS _ _ _ (hI5.below h6) hI6 (KpEn.belH (KpEn.call (KpEn.call HSd h5) h6))).mono ?_; rintro r w7 ⟨rfl, h7⟩))
  all_goals
    as_aux_lemma =>
    have HS7 := KpEn.call (KpEn.call (KpEn.call HSd h5) h6) h7
    clear HSd h5 h6 h7 hI5 hI6 hS
    obtain ⟨p0, p1, q0, q1⟩ := KpEn.cel HS7
    go_wp2_with (first
      | (go_at_call 8; with_reducible refine (hTR' w7 (KpEn.belH HS7)).mono ?_; rintro r w8 ⟨g8, rfl, hI8, hB8⟩; have HS8 := KpEn.call HS7 hB8; have I8 := hidP hI8; clear hI8 p0 p1 q0 q1 hB8)
      | (with_reducible refine wpList_allocV (w := w8) (by with_unfolding_all rfl) 31 (by with_unfolding_all rfl) (rlv 0 none 0 0) Tryd.infoRlz ?_; intro w9 hA9 hB9 hS9; clear hS9)
      | (with_reducible refine wpList_storeH (w := w9) (by with_unfolding_all rfl) 31 (.tmp 7) (.tmp 26) (by with_unfolding_all rfl) w8.heap.size (rlv 0 none 0 0) (rlv z (some ⟨g8, 0, none⟩) kn kn) (by with_unfolding_all rfl) (by with_unfolding_all rfl) hA9 2 Tryd.sizeRl (by with_unfolding_all rfl) (by with_unfolding_all rfl) (rlv_one _ _ _ _) ?_; intro w10 hA10 hB10 hF10 hS10; have b10 := hB9.trans (hB10 _ (Nat.le_refl _)); have HS10 := KpEn.call HS8 b10; obtain ⟨p0, p1, q0, q1⟩ := KpEn.cel HS10; clear hA9 hB9 hB10 hF10 hS10)
      | (go_at_call 9; with_reducible refine (hTS' w10 (KpEn.belH HS10)).mono ?_; rintro r w11 ⟨g11, rfl, hI11, hB11⟩; have I11 := hidP hI11; clear hI11 p0 p1 q0 q1)
      | (with_reducible refine wpList_allocV (w := w11) (by with_unfolding_all rfl) 35 (by with_unfolding_all rfl) (sgv ⟨#[]⟩ none 0 0) Tryd.infoSd ?_; intro w12 hA12 hB12 hS12; clear hS12)
      | (with_reducible refine wpList_storeH (w := w12) (by with_unfolding_all rfl) 35 (.tmp 8) (.tmp 28) (by with_unfolding_all rfl) w11.heap.size (sgv ⟨#[]⟩ none 0 0) (sgv t (some ⟨g11, 0, none⟩) n n) (by with_unfolding_all rfl) (by with_unfolding_all rfl) hA12 2 Tryd.sizeSd (by with_unfolding_all rfl) (by with_unfolding_all rfl) (sgv_one _ _ _ _) ?_; intro w13 hA13 hB13 hF13 hS13; have HX := KpLe.start (w9 := w9) (w12 := w12) HS8 I8.out b10 hA10 hB11 I11.out (hB12.trans (hB13 _ (Nat.le_refl _))) hA13; obtain ⟨p0, p1, q0, q1, x0, x1, y0, y1, _⟩ := KpLe.all HX; clear hA12 hB12 hB13 hF13 hS13 hA13 hA10 b10 hB11 I8 I11 HS8 HS10)
      | (go_at_call 10; with_reducible refine (hI w13 _ _ HX.out.ax HX.out.sy (KpLe.belH HX)).mono ?_; rintro r w14 ⟨rfl, hB14⟩; have HX14 := KpLe.call HX hB14; clear hB14 p0 p1 q0 q1 x0 x1 y0 y1 HX))
    have HXd := KpLe.drew HX14
    clear HX14 hI HS7
    generalize w8.heap.size = G7 at *
    generalize w11.heap.size = GY at *
    go_region_held3 (fun w' => w'.cell? ⟨w.heap.size, 0, none⟩ = some (.int .i64 z) ∧ w'.cell? ⟨w.heap.size, 1, none⟩ = some (.slice ka kn kc) ∧ w'.cell? ⟨G3, 0, none⟩ = some (.string t) ∧ w'.cell? ⟨G3, 1, none⟩ = some (.slice a n c) ∧ w'.cell? ⟨G7, 0, none⟩ = some (.int .i64 z) ∧ w'.cell? ⟨G7, 1, none⟩ = some (.slice (some ⟨g8, 0, none⟩) kn kn) ∧ w'.cell? ⟨GY, 0, none⟩ = some (.string t) ∧ w'.cell? ⟨GY, 1, none⟩ = some (.slice (some ⟨g11, 0, none⟩) n n) ∧ Hid (KpLe w G3 z ka kn kc ks t a n c l G7 g8 GY g11 w'))
      (first | exact KpLe.all HXd | exact KpLe.all (KpLe.call HXd h15) | exact KpLe.all (KpLe.call (KpLe.call HXd h15) h16))
      (first
        | (go_at_call 8; with_reducible refine (hTR' _ (KpLe.belH HXd)).mono ?_; rintro r w15 ⟨g15, rfl, hI15, h15⟩)
        | (go_at_call 11; with_reducible refine (hER _ _ _ (KpLe.call HXd h15).out.ax hI15).mono ?_; rintro r w16 ⟨rfl, h16⟩))
    all_goals
      as_aux_lemma =>
      have HX16 := KpLe.call (KpLe.call HXd h15) h16
      clear HXd h15 h16 hI15
      go_wp2_with fail
      have HXe := KpLe.drew HX16
      clear HX16
      go_region_held3 (fun w' => w'.cell? ⟨w.heap.size, 0, none⟩ = some (.int .i64 z) ∧ w'.cell? ⟨w.heap.size, 1, none⟩ = some (.slice ka kn kc) ∧ w'.cell? ⟨G3, 0, none⟩ = some (.string t) ∧ w'.cell? ⟨G3, 1, none⟩ = some (.slice a n c) ∧ w'.cell? ⟨G7, 0, none⟩ = some (.int .i64 z) ∧ w'.cell? ⟨G7, 1, none⟩ = some (.slice (some ⟨g8, 0, none⟩) kn kn) ∧ w'.cell? ⟨GY, 0, none⟩ = some (.string t) ∧ w'.cell? ⟨GY, 1, none⟩ = some (.slice (some ⟨g11, 0, none⟩) n n) ∧ Hid (KpLe w G3 z ka kn kc ks t a n c l G7 g8 GY g11 w'))
        (first | exact KpLe.all HXe | exact KpLe.all (KpLe.call HXe h17) | exact KpLe.all (KpLe.call (KpLe.call HXe h17) h18))
        (first
          | (go_at_call 9; with_reducible refine (hTS' _ (KpLe.belH HXe)).mono ?_; rintro r w17 ⟨g17, rfl, hI17, h17⟩)
          | (go_at_call 12; with_reducible refine (hES _ _ _ (KpLe.call HXe h17).out.sy hI17).mono ?_; rintro r w18 ⟨rfl, h18⟩))
      all_goals
        have HX18 := KpLe.call (KpLe.call HXe h17) h18
        go_wp2_with fail
        go_ret
        exact ⟨rfl, HX18.out.kp.bel⟩
end Go.Proofs.YtmahpmjkejnkfaaDoor
