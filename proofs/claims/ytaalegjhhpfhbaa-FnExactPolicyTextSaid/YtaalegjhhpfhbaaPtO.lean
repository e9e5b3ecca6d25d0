/- Rows of parts of a policy's text that a call owns: appended to, cut, written into. -/
import Derived.Test.YtaalegjhhpfhbaaNdT
import Derived.Test.YtaalegjhhpfhbaaStaL
import Derived.Maps.AppendAt
import Derived.Great.BuildSlice
import Derived.Great.FillDense
import Derived.Deep.MidRow
namespace Go.Proofs.Ytaalegjhhpfhbaa
open Go.RowKit
set_option linter.unusedVariables false

structure PtV where
  tx : ByteArray
  op : Int
def ptv (t : ByteArray) (op : Int) : List Value := [.string t, .int .i64 op]
def ptl : List PtV → List Value
  | [] => []
  | x :: l => .string x.tx :: .int .i64 x.op :: ptl l
theorem ptl_length : ∀ l : List PtV, (ptl l).length = l.length * 2
  | [] => rfl
  | x :: l => by
    show (ptl l).length + 1 + 1 = (l.length + 1) * 2
    rw [ptl_length l]
    omega
theorem ptl_append : ∀ l r : List PtV, ptl (l ++ r) = ptl l ++ ptl r
  | [], r => rfl
  | x :: l, r => by
    show _ :: _ :: ptl (l ++ r) = _ :: _ :: (ptl l ++ ptl r)
    rw [ptl_append l r]
theorem ptl_get : ∀ (l : List PtV) (j : Nat) (h : j < l.length), (ptl l)[j * 2]? = some (.string l[j].tx) ∧ (ptl l)[j * 2 + 1]? = some (.int .i64 l[j].op)
  | [], j, h => absurd h (Nat.not_lt_zero _)
  | x :: l, 0, h => ⟨rfl, rfl⟩
  | x :: l, j + 1, h => by
    have e : (j + 1) * 2 = j * 2 + 1 + 1 := by omega
    have ih := ptl_get l j (by simpa using h)
    rw [e]
    exact ih
theorem ptl_set : ∀ (l : List PtV) (j : Nat) (y : PtV), ((ptl l).set (j * 2) (.string y.tx)).set (j * 2 + 1) (.int .i64 y.op) = ptl (l.set j y)
  | [], j, y => rfl
  | x :: l, 0, y => rfl
  | x :: l, j + 1, y => by
    have e : (j + 1) * 2 = j * 2 + 1 + 1 := by omega
    rw [e]
    have ih := ptl_set l j y
    simp only [ptl, List.set_cons_succ]
    rw [ih]
theorem Try.infPt : (Try.prog.info? 94).map (fun i => (i.zero, i.size, i.bytes)) = some (some (.agg #[.string ⟨#[]⟩, .int .i64 0]), 2, 24) := by kernel_rfl
def PtO (w : World) (base : Nat) (v : Value) (l : List PtV) : Prop := w.ownsRow base 94 2 v l.length (ptl l)
theorem PtO.row {w : World} {base n c : Nat} {a : Option Addr} {l : List PtV} (h : PtO w base (.slice a n c) l) : (∀ ad, a = some ad → base ≤ ad.block ∧ ad.block < w.heap.size) ∧ n = l.length := by
  rcases h.2 with ⟨h0, hn⟩ | ⟨g, cap, cur, hv, hbg, hg, h1, h2, h3, h4⟩
  · injection h0 with e1 e2 e3
    subst e1
    exact ⟨fun ad e => (by cases e), by omega⟩
  · injection hv with e1 e2 e3
    subst e1
    exact ⟨fun ad e => (by injection e with e; rw [← e]; exact ⟨hbg, (Array.getElem?_eq_some_iff.1 hg).1⟩), e2⟩
theorem PtO.form {w : World} {base : Nat} {v : Value} {l : List PtV} (h : PtO w base v l) : ∃ a n c, l.length = n ∧ v = .slice a n c := by
  rcases h.2 with ⟨h0, hn⟩ | ⟨g, cap, cur, hv, hbg, hg, h1, h2, h3, h4⟩
  · exact ⟨none, 0, 0, hn, h0⟩
  · exact ⟨some ⟨g, 0, none⟩, _, cap, rfl, hv⟩
theorem PtO.forms {w : World} {base : Nat} {v : Value} {l : List PtV} (h : PtO w base v l) : (v = .slice none 0 0 ∧ l = []) ∨ ∃ g c n, l.length = n ∧ v = .slice (some ⟨g, 0, none⟩) n c ∧ n ≤ c := by
  rcases h.2 with ⟨h0, hn⟩ | ⟨g, cap, cur, hv, hbg, hg, h1, h2, h3, h4⟩
  · exact Or.inl ⟨h0, List.eq_nil_of_length_eq_zero hn⟩
  · exact Or.inr ⟨g, cap, _, rfl, hv, h1⟩
theorem PtO.cell {w : World} {base g n c : Nat} {l : List PtV} (h : PtO w base (.slice (some ⟨g, 0, none⟩) n c) l) (j : Nat) (hj : j < l.length) : w.cell? ⟨g, j * 2, none⟩ = some (.string l[j].tx) ∧ w.cell? ⟨g, j * 2 + 1, none⟩ = some (.int .i64 l[j].op) := by
  have hf := (PtO.row h).2
  subst hf
  rw [World.ownsRow.cellAt h (j * 2) (by omega), World.ownsRow.cellAt h (j * 2 + 1) (by omega)]
  exact ptl_get l j hj
theorem PtO.cut {w : World} {base g n c : Nat} {l r : List PtV} (m : Nat) (h : PtO w base (.slice (some ⟨g, 0, none⟩) n c) (l ++ r)) (hm : l.length = m) : PtO w base (.slice (some ⟨g, 0, none⟩) m c) l := by
  subst hm
  obtain ⟨_, h2⟩ := h
  rcases h2 with ⟨h0, _⟩ | ⟨g', cap', cur, hv, hg, hh, hn, hcap, hsz, htake⟩
  · cases h0
  · cases hv
    have hlen : (ptl l).length = l.length * 2 := ptl_length l
    refine ⟨hlen, .inr ⟨g, c, cur, rfl, hg, hh, by rw [List.length_append] at hn; omega, hcap, hsz, ?_⟩⟩
    have h3 : (cur.toList.take ((l ++ r).length * 2)).take (l.length * 2) = (ptl l ++ ptl r).take (l.length * 2) := by rw [htake, ptl_append]
    rw [List.take_take, Nat.min_eq_left (by rw [List.length_append]; omega)] at h3
    rw [h3, ← hlen]
    exact List.take_left
theorem wp_buildPt {o : Oper} {a : Act} {w : World} {K : Act → World → Prop} {Q : Exit → Act → World → Prop} (x : Operand) (ho : o.op = .buildSlice 92 1 #[(0, x)]) (x0 : ByteArray) (x1 : Int) (e0 : a.eval x = .agg #[.string x0, .int .i64 x1])
    (h : ∀ w', RowV w' w.heap.size (ptv x0 x1) → Below w.heap.size w w' → K (a.put o.dst (.slice (some ⟨w.heap.size, 0, none⟩) 1 1)) w') : o.wp Try.prog a w K Q := by
  obtain ⟨i0, hi, hz0, hz1, hz2⟩ := info_parts Try.infPt
  refine wp_buildSlice 92 94 1 _ ho (ptv x0 x1).toArray i0 _ Try.underlying92 hi hz0 (by rw [hz1]; omega) (by rw [hz1]; omega) ?_ (h _ (RowV.new w (ptv x0 x1) 94) (below_alloc _ _))
  rw [hz1]
  simp only [List.map_toArray, List.map, e0]
  kernel_rfl
theorem wp_appendPt {W : World} {o : Oper} {a : Act} {K : Act → World → Prop} {Q : Exit → Act → World → Prop} (s x : Operand) (ho : o.op = .call { callee := .builtin .append, args := #[s, x], argTypes := #[92, 92] })
    (base : Nat) (v : Value) (l : List PtV) (y : PtV) (hs : a.eval s = v) (hown : PtO W base v l) (B : Nat) (hx : a.eval x = .slice (some ⟨B, 0, none⟩) 1 1) (hB : RowV W B (ptv y.tx y.op)) (hn : l.length ≤ 1000) (hbase : base ≤ W.heap.size)
    (h : ∀ v' w', PtO w' base v' (l ++ [y]) → W.grownBy w' v.ownBlock → (v'.ownBlock = v.ownBlock ∨ v'.ownBlock = some W.heap.size) → K (a.put o.dst v') w') : Oper.wp Try.prog o a W K Q := by
  obtain ⟨i0, hi, hz0, hz1, hz2⟩ := info_parts Try.infPt
  obtain ⟨v', w', hr, h2, h3, h4, h5⟩ := run_append_own_at (P := Try.prog) W base 92 o.type 94 i0 _ 2 24 Try.underlying92 hi hz0 hz1 hz2 rfl (by decide) v l.length (ptl l) hown ⟨B, 0, none⟩ 1 1 (ptv y.tx y.op) rfl
    (fun j u hj => by rw [Addr.add_lit]; have := hB.rng j u hj; exact this) (fun u hu => by simp only [ptv, List.mem_cons, List.not_mem_nil, or_false] at hu; rcases hu with rfl | rfl <;> rfl) (by unfold maxLen; omega) (by omega) hbase
  unfold Oper.wp execOp
  simp only [ho, resolve, invoke, builtin, Sem.run_bind, Sem.run_pure, Result.andThen_ok, List.map_toArray, List.map_cons, List.map_nil, hs, hx, hr]
  refine h v' w' ?_ h3 h5
  unfold PtO
  rw [ptl_append, List.length_append]
  exact h2
theorem wpList_buildPt {ops : Array Oper} {rest : List Oper} {o : Oper} {a : Act} {w : World} {Q : Exit → Act → World → Prop} (hg : o.guard = none) (x : Operand) (ho : o.op = .buildSlice 92 1 #[(0, x)]) (x0 : ByteArray) (x1 : Int) (e0 : a.eval x = .agg #[.string x0, .int .i64 x1])
    (h : ∀ w', RowV w' w.heap.size (ptv x0 x1) → Below w.heap.size w w' → wpList Try.prog ops Q rest (a.put o.dst (.slice (some ⟨w.heap.size, 0, none⟩) 1 1)) w') : wpList Try.prog ops Q (o :: rest) a w :=
  wpList_plain hg fun _ hK => wp_buildPt x ho x0 x1 e0 (fun w' h1 h2 => hK _ _ (h w' h1 h2))
theorem wpList_appendPt {ops : Array Oper} {rest : List Oper} {W : World} {o : Oper} {a : Act} {Q : Exit → Act → World → Prop} (hg : o.guard = none) (s x : Operand) (ho : o.op = .call { callee := .builtin .append, args := #[s, x], argTypes := #[92, 92] })
    (base : Nat) (v : Value) (l : List PtV) (y : PtV) (hs : a.eval s = v) (hown : PtO W base v l) (B : Nat) (hx : a.eval x = .slice (some ⟨B, 0, none⟩) 1 1) (hB : RowV W B (ptv y.tx y.op)) (hn : l.length ≤ 1000) (hbase : base ≤ W.heap.size)
    (h : ∀ v' w', PtO w' base v' (l ++ [y]) → W.grownBy w' v.ownBlock → (v'.ownBlock = v.ownBlock ∨ v'.ownBlock = some W.heap.size) → wpList Try.prog ops Q rest (a.put o.dst v') w') : wpList Try.prog ops Q (o :: rest) a W :=
  wpList_plain hg fun _ hK => wp_appendPt s x ho base v l y hs hown B hx hB hn hbase (fun v' w' h1 h2 h3 => hK _ _ (h v' w' h1 h2 h3))
theorem wp_setPt {o : Oper} {a : Act} {w : World} {K : Act → World → Prop} {Q : Exit → Act → World → Prop} (x y : Operand) (ho : o.op = .store 94 x y) (base g n c j : Nat) (l l' : List PtV) (t : ByteArray) (op : Int) (ex : a.eval x = .pointer (some ⟨g, j * 2, none⟩)) (ey : a.eval y = .agg #[.string t, .int .i64 op])
    (hown : PtO w base (.slice (some ⟨g, 0, none⟩) n c) l) (hj : j < l.length) (hl' : l' = l.set j ⟨t, op⟩) (h : ∀ w', PtO w' base (.slice (some ⟨g, 0, none⟩) n c) l' → w.grownBy w' (Value.slice (some ⟨g, 0, none⟩) n c).ownBlock → K (a.put o.dst undef) w') : o.wp Try.prog a w K Q := by
  subst hl'
  have hn := (PtO.row hown).2
  subst hn
  have h1 := World.ownsRow.stored hown (j * 2) (.string t)
  have h2 := World.ownsRow.stored h1.1 (j * 2 + 1) (.int .i64 op)
  rw [ptl_set l j ⟨t, op⟩] at h2
  refine wp_store_mid 94 x y ho g (j * 2) #[.string t, .int .i64 op] ex ey ?_ (by kernel_rfl) (by simp; exact ⟨rfl, rfl⟩) ?_
  · intro i hi
    have hi2 : i < 2 := hi
    rw [World.ownsRow.cellAt hown (j * 2 + i) (by omega)]
    refine ⟨?_, World.ownsRow.frozenAt hown _⟩
    rw [List.getElem?_eq_getElem (by rw [ptl_length]; omega)]
    rfl
  · refine h _ ?_ ?_
    · unfold PtO
      rw [List.length_set]
      exact h2.1
    · exact ⟨h2.2.os.trans h1.2.os, h2.2.tape.trans h1.2.tape, h2.2.output.trans h1.2.output, Nat.le_trans h1.2.size h2.2.size, fun k hk hn => (h2.2.block k (Nat.lt_of_lt_of_le hk h1.2.size) hn).trans (h1.2.block k hk hn)⟩
theorem range2 {w : World} {b o : Nat} {x y : Value} (h0 : w.cell? ⟨b, o, none⟩ = some x) (h1 : w.cell? ⟨b, o + 1, none⟩ = some y) : w.rangeAt b o [x, y] := by
  intro j v hv
  match j, hv with
  | 0, hv => injection hv with hv; subst hv; exact h0
  | 1, hv => injection hv with hv; subst hv; exact h1
set_option maxRecDepth 100000 in
theorem wp_ldPt {o : Oper} {a : Act} {w : World} {K : Act → World → Prop} {Q : Exit → Act → World → Prop} (x : Operand) (ho : o.op = .load 94 x) (g p : Nat) (t : ByteArray) (op : Int) (ex : a.eval x = .pointer (some ⟨g, p, none⟩)) (h0 : w.cell? ⟨g, p, none⟩ = some (.string t)) (h1 : w.cell? ⟨g, p + 1, none⟩ = some (.int .i64 op))
    (h : K (a.put o.dst (.agg #[.string t, .int .i64 op])) w) : o.wp Try.prog a w K Q :=
  wp_load_mid 94 x ho g p ex [.string t, .int .i64 op] _ (range2 h0 h1) Try.underlying94 rfl (by kernel_rfl) h
set_option maxRecDepth 100000 in
theorem Try.sliceLoPt (b o n c k : Nat) (h : k ≤ c) : ∀ w, (Instr.slice 92 (.slice (some ⟨b, o, none⟩) n c) none (some (.int .i64 (k : Int))) none).run Try.prog w = .ok (.slice (some ⟨b, o, none⟩) k c) w := by
  intro w
  have h1 : (k : Int) ≤ c := by omega
  simp [Instr.slice, run_underlying Try.underlying92, Instr.sliceBounds, run_sliceBound, h1]
  intro _
  exact Addr.add_zero' _
end Go.Proofs.Ytaalegjhhpfhbaa
