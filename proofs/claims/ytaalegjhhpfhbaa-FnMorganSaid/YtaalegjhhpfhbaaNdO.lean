/- Rows of nodes that a call owns, and appends to. -/
import Derived.Test.YtaalegjhhpfhbaaSRow
import Derived.Test.YtaalegjhhpfhbaaNdM
import Derived.Test.YtaalegjhhpfhbaaStaL
import Derived.Test.YtaalegjhhpfhbaaOnl
import Derived.Maps.AppendAt
import Derived.Great.BuildSlice
import Derived.Great.FillDense
namespace Go.Proofs.Ytaalegjhhpfhbaa
open Go.RowKit
set_option linter.unusedVariables false

theorem Try.infNd : (Try.prog.info? 79).map (fun i => (i.zero, i.size, i.bytes)) = some (some (.nilIface), 1, 16) := by kernel_rfl
def NdO (w : World) (base : Nat) (v : Value) (l : List Nd) : Prop := w.ownsRow base 79 1 v l.length (ndl l)
theorem NdO.row {w : World} {base n c : Nat} {a : Option Addr} {l : List Nd} (h : NdO w base (.slice a n c) l) : (∀ ad, a = some ad → base ≤ ad.block ∧ ad.block < w.heap.size) ∧ n = l.length := by
  rcases h.2 with ⟨h0, hn⟩ | ⟨g, cap, cur, hv, hbg, hg, h1, h2, h3, h4⟩
  · injection h0 with e1 e2 e3
    subst e1
    exact ⟨fun ad e => (by cases e), by omega⟩
  · injection hv with e1 e2 e3
    subst e1
    exact ⟨fun ad e => (by injection e with e; rw [← e]; exact ⟨hbg, (Array.getElem?_eq_some_iff.1 hg).1⟩), e2⟩
theorem NdO.form {w : World} {base : Nat} {v : Value} {l : List Nd} (h : NdO w base v l) : ∃ a n c, l.length = n ∧ v = .slice a n c := by
  rcases h.2 with ⟨h0, hn⟩ | ⟨g, cap, cur, hv, hbg, hg, h1, h2, h3, h4⟩
  · exact ⟨none, 0, 0, hn, h0⟩
  · exact ⟨some ⟨g, 0, none⟩, _, cap, rfl, hv⟩
theorem wp_buildNd {o : Oper} {a : Act} {w : World} {K : Act → World → Prop} {Q : Exit → Act → World → Prop} (x : Operand) (ho : o.op = .buildSlice 139 1 #[(0, x)]) (x0 : Nd) (e0 : a.eval x = ndV x0)
    (h : ∀ w', RowV w' w.heap.size [ndV x0] → Below w.heap.size w w' → K (a.put o.dst (.slice (some ⟨w.heap.size, 0, none⟩) 1 1)) w') : o.wp Try.prog a w K Q := by
  obtain ⟨i0, hi, hz0, hz1, hz2⟩ := info_parts Try.infNd
  refine wp_buildSlice 139 79 1 _ ho #[ndV x0] i0 _ Try.underlying139 hi hz0 (by rw [hz1]; omega) (by rw [hz1]; omega) ?_ (h _ (RowV.new w [ndV x0] 79) (below_alloc _ _))
  rw [hz1]
  simp only [List.map_toArray, List.map, e0]
  cases x0 <;> kernel_rfl
theorem wp_appendNd {W : World} {o : Oper} {a : Act} {K : Act → World → Prop} {Q : Exit → Act → World → Prop} (s x : Operand) (ho : o.op = .call { callee := .builtin .append, args := #[s, x], argTypes := #[139, 139] })
    (base : Nat) (v : Value) (l : List Nd) (y : Nd) (hs : a.eval s = v) (hown : NdO W base v l) (B : Nat) (hx : a.eval x = .slice (some ⟨B, 0, none⟩) 1 1) (hB : RowV W B [ndV y]) (hn : l.length ≤ 1000) (hbase : base ≤ W.heap.size)
    (h : ∀ v' w', NdO w' base v' (l ++ [y]) → W.grownBy w' v.ownBlock → (v'.ownBlock = v.ownBlock ∨ v'.ownBlock = some W.heap.size) → K (a.put o.dst v') w') : Oper.wp Try.prog o a W K Q := by
  obtain ⟨i0, hi, hz0, hz1, hz2⟩ := info_parts Try.infNd
  obtain ⟨v', w', hr, h2, h3, h4, h5⟩ := run_append_own_at (P := Try.prog) W base 139 o.type 79 i0 _ 1 16 Try.underlying139 hi hz0 hz1 hz2 rfl (by decide) v l.length (ndl l) hown ⟨B, 0, none⟩ 1 1 [ndV y] rfl
    (fun j u hj => by rw [Addr.add_lit]; have := hB.rng j u hj; exact this) (fun u hu => by cases List.mem_singleton.1 hu; exact ndV_one _) (by unfold maxLen; omega) (by omega) hbase
  unfold Oper.wp execOp
  simp only [ho, resolve, invoke, builtin, Sem.run_bind, Sem.run_pure, Result.andThen_ok, List.map_toArray, List.map_cons, List.map_nil, hs, hx, hr]
  refine h v' w' ?_ h3 h5
  unfold NdO
  have ea : ndl (l ++ [y]) = ndl l ++ [ndV y] := by unfold ndl; rw [List.map_append]; rfl
  rw [ea, List.length_append]
  exact h2
theorem wpList_buildNd {ops : Array Oper} {rest : List Oper} {o : Oper} {a : Act} {w : World} {Q : Exit → Act → World → Prop} (hg : o.guard = none) (x : Operand) (ho : o.op = .buildSlice 139 1 #[(0, x)]) (x0 : Nd) (e0 : a.eval x = ndV x0)
    (h : ∀ w', RowV w' w.heap.size [ndV x0] → Below w.heap.size w w' → wpList Try.prog ops Q rest (a.put o.dst (.slice (some ⟨w.heap.size, 0, none⟩) 1 1)) w') : wpList Try.prog ops Q (o :: rest) a w :=
  wpList_plain hg fun _ hK => wp_buildNd x ho x0 e0 (fun w' h1 h2 => hK _ _ (h w' h1 h2))
theorem wpList_appendNd {ops : Array Oper} {rest : List Oper} {W : World} {o : Oper} {a : Act} {Q : Exit → Act → World → Prop} (hg : o.guard = none) (s x : Operand) (ho : o.op = .call { callee := .builtin .append, args := #[s, x], argTypes := #[139, 139] })
    (base : Nat) (v : Value) (l : List Nd) (y : Nd) (hs : a.eval s = v) (hown : NdO W base v l) (B : Nat) (hx : a.eval x = .slice (some ⟨B, 0, none⟩) 1 1) (hB : RowV W B [ndV y]) (hn : l.length ≤ 1000) (hbase : base ≤ W.heap.size)
    (h : ∀ v' w', NdO w' base v' (l ++ [y]) → W.grownBy w' v.ownBlock → (v'.ownBlock = v.ownBlock ∨ v'.ownBlock = some W.heap.size) → wpList Try.prog ops Q rest (a.put o.dst v') w') : wpList Try.prog ops Q (o :: rest) a W :=
  wpList_plain hg fun _ hK => wp_appendNd s x ho base v l y hs hown B hx hB hn hbase (fun v' w' h1 h2 h3 => hK _ _ (h v' w' h1 h2 h3))
theorem NdO.cell {w : World} {base g n c : Nat} {l : List Nd} (h : NdO w base (.slice (some ⟨g, 0, none⟩) n c) l) (j : Nat) (hj : j < l.length) : w.cell? ⟨g, j, none⟩ = some (ndV l[j]) := by
  have hf := (NdO.row h).2
  subst hf
  rw [World.ownsRow.cellAt h j (by omega)]
  unfold ndl
  rw [List.getElem?_map, List.getElem?_eq_getElem hj]
  rfl
/- What is left of a row whose end is let go. -/
theorem NdO.cut {w : World} {base g n c : Nat} {l r : List Nd} (m : Nat) (h : NdO w base (.slice (some ⟨g, 0, none⟩) n c) (l ++ r)) (hm : l.length = m) : NdO w base (.slice (some ⟨g, 0, none⟩) m c) l := by
  subst hm
  obtain ⟨_, h2⟩ := h
  rcases h2 with ⟨h0, _⟩ | ⟨g', cap', cur, hv, hg, hh, hn, hcap, hsz, htake⟩
  · cases h0
  · cases hv
    have hlen : (ndl l).length = l.length * 1 := by rw [ndl_length, Nat.mul_one]
    refine ⟨hlen, .inr ⟨g, c, cur, rfl, hg, hh, by rw [List.length_append] at hn; omega, hcap, hsz, ?_⟩⟩
    have e : ndl (l ++ r) = ndl l ++ ndl r := by unfold ndl; rw [List.map_append]
    have h3 : (cur.toList.take ((l ++ r).length * 1)).take (l.length * 1) = (ndl l ++ ndl r).take (l.length * 1) := by rw [htake, e]
    rw [List.take_take, Nat.min_eq_left (by rw [List.length_append]; omega)] at h3
    rw [h3, ← hlen]
    exact List.take_left
/- The forms that it may have: none, or a block. -/
theorem NdO.forms {w : World} {base : Nat} {v : Value} {l : List Nd} (h : NdO w base v l) : (v = .slice none 0 0 ∧ l = []) ∨ ∃ g c n, l.length = n ∧ v = .slice (some ⟨g, 0, none⟩) n c ∧ n ≤ c := by
  rcases h.2 with ⟨h0, hn⟩ | ⟨g, cap, cur, hv, hbg, hg, h1, h2, h3, h4⟩
  · exact Or.inl ⟨h0, List.eq_nil_of_length_eq_zero hn⟩
  · exact Or.inr ⟨g, cap, _, rfl, hv, h1⟩
end Go.Proofs.Ytaalegjhhpfhbaa
