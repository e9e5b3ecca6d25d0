/- Rows of truths that a call owns, and appends to. -/
import Derived.Test.YtaalegjhhpfhbaaSRow
import Derived.Test.YtaalegjhhpfhbaaNdM
import Derived.Test.YtaalegjhhpfhbaaStaL
import Derived.Test.YtaalegjhhpfhbaaOnl
import Derived.Maps.AppendAt
import Derived.Great.BuildSlice
import Derived.Great.FillDense
namespace Go.Proofs.Ytaalegjhhpfhbaa
open Go.RowKit
set_option linter.unusedVariables false

noncomputable def bol (l : List Bool) : List Value := l.map Value.bool
theorem bol_length (l : List Bool) : (bol l).length = l.length := List.length_map _
theorem Try.infBo : (Try.prog.info? 4).map (fun i => (i.zero, i.size, i.bytes)) = some (some (.bool false), 1, 1) := by kernel_rfl
def BoO (w : World) (base : Nat) (v : Value) (l : List Bool) : Prop := w.ownsRow base 4 1 v l.length (bol l)
theorem BoO.row {w : World} {base n c : Nat} {a : Option Addr} {l : List Bool} (h : BoO w base (.slice a n c) l) : (∀ ad, a = some ad → base ≤ ad.block ∧ ad.block < w.heap.size) ∧ n = l.length := by
  rcases h.2 with ⟨h0, hn⟩ | ⟨g, cap, cur, hv, hbg, hg, h1, h2, h3, h4⟩
  · injection h0 with e1 e2 e3
    subst e1
    exact ⟨fun ad e => (by cases e), by omega⟩
  · injection hv with e1 e2 e3
    subst e1
    exact ⟨fun ad e => (by injection e with e; rw [← e]; exact ⟨hbg, (Array.getElem?_eq_some_iff.1 hg).1⟩), e2⟩
theorem BoO.form {w : World} {base : Nat} {v : Value} {l : List Bool} (h : BoO w base v l) : ∃ a n c, l.length = n ∧ v = .slice a n c := by
  rcases h.2 with ⟨h0, hn⟩ | ⟨g, cap, cur, hv, hbg, hg, h1, h2, h3, h4⟩
  · exact ⟨none, 0, 0, hn, h0⟩
  · exact ⟨some ⟨g, 0, none⟩, _, cap, rfl, hv⟩
theorem wp_buildBo {o : Oper} {a : Act} {w : World} {K : Act → World → Prop} {Q : Exit → Act → World → Prop} (x : Operand) (ho : o.op = .buildSlice 86 1 #[(0, x)]) (x0 : Bool) (e0 : a.eval x = .bool x0)
    (h : ∀ w', RowV w' w.heap.size [.bool x0] → Below w.heap.size w w' → K (a.put o.dst (.slice (some ⟨w.heap.size, 0, none⟩) 1 1)) w') : o.wp Try.prog a w K Q := by
  obtain ⟨i0, hi, hz0, hz1, hz2⟩ := info_parts Try.infBo
  refine wp_buildSlice 86 4 1 _ ho #[.bool x0] i0 _ Try.underlying86 hi hz0 (by rw [hz1]; omega) (by rw [hz1]; omega) ?_ (h _ (RowV.new w [.bool x0] 4) (below_alloc _ _))
  rw [hz1]
  simp only [List.map_toArray, List.map, e0]
  cases x0 <;> kernel_rfl
theorem wp_appendBo {W : World} {o : Oper} {a : Act} {K : Act → World → Prop} {Q : Exit → Act → World → Prop} (s x : Operand) (ho : o.op = .call { callee := .builtin .append, args := #[s, x], argTypes := #[86, 86] })
    (base : Nat) (v : Value) (l : List Bool) (y : Bool) (hs : a.eval s = v) (hown : BoO W base v l) (B : Nat) (hx : a.eval x = .slice (some ⟨B, 0, none⟩) 1 1) (hB : RowV W B [.bool y]) (hn : l.length ≤ 1000) (hbase : base ≤ W.heap.size)
    (h : ∀ v' w', BoO w' base v' (l ++ [y]) → W.grownBy w' v.ownBlock → (v'.ownBlock = v.ownBlock ∨ v'.ownBlock = some W.heap.size) → K (a.put o.dst v') w') : Oper.wp Try.prog o a W K Q := by
  obtain ⟨i0, hi, hz0, hz1, hz2⟩ := info_parts Try.infBo
  obtain ⟨v', w', hr, h2, h3, h4, h5⟩ := run_append_own_at (P := Try.prog) W base 86 o.type 4 i0 _ 1 1 Try.underlying86 hi hz0 hz1 hz2 rfl (by decide) v l.length (bol l) hown ⟨B, 0, none⟩ 1 1 [.bool y] rfl
    (fun j u hj => by rw [Addr.add_lit]; have := hB.rng j u hj; exact this) (fun u hu => by cases List.mem_singleton.1 hu; exact rfl) (by unfold maxLen; omega) (by omega) hbase
  unfold Oper.wp execOp
  simp only [ho, resolve, invoke, builtin, Sem.run_bind, Sem.run_pure, Result.andThen_ok, List.map_toArray, List.map_cons, List.map_nil, hs, hx, hr]
  refine h v' w' ?_ h3 h5
  unfold BoO
  have ea : bol (l ++ [y]) = bol l ++ [.bool y] := by unfold bol; rw [List.map_append]; rfl
  rw [ea, List.length_append]
  exact h2
theorem wpList_buildBo {ops : Array Oper} {rest : List Oper} {o : Oper} {a : Act} {w : World} {Q : Exit → Act → World → Prop} (hg : o.guard = none) (x : Operand) (ho : o.op = .buildSlice 86 1 #[(0, x)]) (x0 : Bool) (e0 : a.eval x = .bool x0)
    (h : ∀ w', RowV w' w.heap.size [.bool x0] → Below w.heap.size w w' → wpList Try.prog ops Q rest (a.put o.dst (.slice (some ⟨w.heap.size, 0, none⟩) 1 1)) w') : wpList Try.prog ops Q (o :: rest) a w :=
  wpList_plain hg fun _ hK => wp_buildBo x ho x0 e0 (fun w' h1 h2 => hK _ _ (h w' h1 h2))
theorem wpList_appendBo {ops : Array Oper} {rest : List Oper} {W : World} {o : Oper} {a : Act} {Q : Exit → Act → World → Prop} (hg : o.guard = none) (s x : Operand) (ho : o.op = .call { callee := .builtin .append, args := #[s, x], argTypes := #[86, 86] })
    (base : Nat) (v : Value) (l : List Bool) (y : Bool) (hs : a.eval s = v) (hown : BoO W base v l) (B : Nat) (hx : a.eval x = .slice (some ⟨B, 0, none⟩) 1 1) (hB : RowV W B [.bool y]) (hn : l.length ≤ 1000) (hbase : base ≤ W.heap.size)
    (h : ∀ v' w', BoO w' base v' (l ++ [y]) → W.grownBy w' v.ownBlock → (v'.ownBlock = v.ownBlock ∨ v'.ownBlock = some W.heap.size) → wpList Try.prog ops Q rest (a.put o.dst v') w') : wpList Try.prog ops Q (o :: rest) a W :=
  wpList_plain hg fun _ hK => wp_appendBo s x ho base v l y hs hown B hx hB hn hbase (fun v' w' h1 h2 h3 => hK _ _ (h v' w' h1 h2 h3))
theorem BoO.cell {w : World} {base g n c : Nat} {l : List Bool} (h : BoO w base (.slice (some ⟨g, 0, none⟩) n c) l) (j : Nat) (hj : j < l.length) : w.cell? ⟨g, j, none⟩ = some (.bool l[j]) := by
  have hf := (BoO.row h).2
  subst hf
  rw [World.ownsRow.cellAt h j (by omega)]
  unfold bol
  rw [List.getElem?_map, List.getElem?_eq_getElem hj]
  rfl
/- What is left of a row whose end is let go. -/
theorem BoO.cut {w : World} {base g n c : Nat} {l r : List Bool} (m : Nat) (h : BoO w base (.slice (some ⟨g, 0, none⟩) n c) (l ++ r)) (hm : l.length = m) : BoO w base (.slice (some ⟨g, 0, none⟩) m c) l := by
  subst hm
  obtain ⟨_, h2⟩ := h
  rcases h2 with ⟨h0, _⟩ | ⟨g', cap', cur, hv, hg, hh, hn, hcap, hsz, htake⟩
  · cases h0
  · cases hv
    have hlen : (bol l).length = l.length * 1 := by rw [bol_length, Nat.mul_one]
    refine ⟨hlen, .inr ⟨g, c, cur, rfl, hg, hh, by rw [List.length_append] at hn; omega, hcap, hsz, ?_⟩⟩
    have e : bol (l ++ r) = bol l ++ bol r := by unfold bol; rw [List.map_append]
    have h3 : (cur.toList.take ((l ++ r).length * 1)).take (l.length * 1) = (bol l ++ bol r).take (l.length * 1) := by rw [htake, e]
    rw [List.take_take, Nat.min_eq_left (by rw [List.length_append]; omega)] at h3
    rw [h3, ← hlen]
    exact List.take_left
/- The forms that it may have: none, or a block. -/
theorem BoO.forms {w : World} {base : Nat} {v : Value} {l : List Bool} (h : BoO w base v l) : (v = .slice none 0 0 ∧ l = []) ∨ ∃ g c n, l.length = n ∧ v = .slice (some ⟨g, 0, none⟩) n c ∧ n ≤ c := by
  rcases h.2 with ⟨h0, hn⟩ | ⟨g, cap, cur, hv, hbg, hg, h1, h2, h3, h4⟩
  · exact Or.inl ⟨h0, List.eq_nil_of_length_eq_zero hn⟩
  · exact Or.inr ⟨g, cap, _, rfl, hv, h1⟩
theorem wp_buildBo0 {o : Oper} {a : Act} {w : World} {K : Act → World → Prop} {Q : Exit → Act → World → Prop} (ho : o.op = .buildSlice 86 0 #[]) (base : Nat) (hb : base ≤ w.heap.size)
    (h : ∀ w', BoO w' base (.slice (some ⟨w.heap.size, 0, none⟩) 0 0) [] → w.grownBy w' (Value.slice none 0 0).ownBlock → K (a.put o.dst (.slice (some ⟨w.heap.size, 0, none⟩) 0 0)) w') : o.wp Try.prog a w K Q := by
  obtain ⟨i0, hi, hz0, hz1, hz2⟩ := info_parts Try.infBo
  have hh := h _ (World.ownsRow_made w #[] 0 hb (by decide) (by simp)) (World.grownBy_alloc w _ _)
  simp only [Oper.wp, execOp, ho]
  simp [go_sem, Instr.buildSlice, run_underlying Try.underlying86, sizeOf, typeInfo, hi, Instr.fill]
  exact hh
theorem wpList_buildBo0 {ops : Array Oper} {rest : List Oper} {o : Oper} {a : Act} {w : World} {Q : Exit → Act → World → Prop} (hg : o.guard = none) (ho : o.op = .buildSlice 86 0 #[]) (base : Nat) (hb : base ≤ w.heap.size)
    (h : ∀ w', BoO w' base (.slice (some ⟨w.heap.size, 0, none⟩) 0 0) [] → w.grownBy w' (Value.slice none 0 0).ownBlock → wpList Try.prog ops Q rest (a.put o.dst (.slice (some ⟨w.heap.size, 0, none⟩) 0 0)) w') : wpList Try.prog ops Q (o :: rest) a w :=
  wpList_plain hg fun _ hK => wp_buildBo0 ho base hb (fun w' h1 h2 => hK _ _ (h w' h1 h2))
theorem wpList_setBo {ops : Array Oper} {rest : List Oper} {o : Oper} {a : Act} {w : World} {Q : Exit → Act → World → Prop} (hg : o.guard = none) (x y : Operand) (ho : o.op = .store 4 x y) (base g n c j : Nat) (l l' : List Bool) (b : Bool) (ex : a.eval x = .pointer (some ⟨g, j, none⟩)) (ey : a.eval y = .bool b)
    (hown : BoO w base (.slice (some ⟨g, 0, none⟩) n c) l) (hj : j < l.length) (hl' : l' = l.set j b) (h : ∀ w', BoO w' base (.slice (some ⟨g, 0, none⟩) n c) l' → w.grownBy w' (Value.slice (some ⟨g, 0, none⟩) n c).ownBlock → wpList Try.prog ops Q rest (a.put o.dst undef) w') : wpList Try.prog ops Q (o :: rest) a w := by
  subst hl'
  have hn := (BoO.row hown).2
  subst hn
  have hc : w.cell? ⟨g, j, none⟩ = some (.bool l[j]) := BoO.cell hown j hj
  have hf : w.frozen? ⟨g, j, none⟩ = false := World.ownsRow.frozenAt hown j
  have hst := World.ownsRow.stored hown j (.bool b)
  have e : (bol l).set j (.bool b) = bol (l.set j b) := by unfold bol; rw [List.map_set]
  rw [e] at hst
  have hh := h _ (by unfold BoO; rw [List.length_set]; exact hst.1) hst.2
  obtain ⟨ti, hti, _, hts, _⟩ := info_parts Try.infBo
  refine wpList_plain hg fun K hK => ?_
  have hk := hK _ _ hh
  generalize l[j] = u at hc
  simp only [Oper.wp, execOp, ho, ex, ey, Instr.storeAt, Instr.sureAddr, Sem.run_bind, Sem.run_pure, Result.andThen_ok]
  simp [go_sem, hc, hf, hti, hts, storeCells, sizeOf, typeInfo]
  exact hk
set_option maxRecDepth 100000 in
theorem Try.sliceLoB (b o n c k : Nat) (h : k ≤ c) : ∀ w, (Instr.slice 86 (.slice (some ⟨b, o, none⟩) n c) none (some (.int .i64 (k : Int))) none).run Try.prog w = .ok (.slice (some ⟨b, o, none⟩) k c) w := by
  intro w
  have h1 : (k : Int) ≤ c := by omega
  simp [Instr.slice, run_underlying Try.underlying86, Instr.sliceBounds, run_sliceBound, h1]
  intro _
  exact Addr.add_zero' _
end Go.Proofs.Ytaalegjhhpfhbaa
