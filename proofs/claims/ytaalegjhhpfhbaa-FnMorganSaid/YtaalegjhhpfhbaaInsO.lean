/- Rows of Ins that a call owns, and appends to. -/
import Derived.Test.YtaalegjhhpfhbaaInsA

import Derived.Test.YtaalegjhhpfhbaaMrkW
import Derived.Maps.AppendAt
import Derived.Great.BuildSlice
import Derived.Great.FillDense
namespace Go.Proofs.Ytaalegjhhpfhbaa
open Go.RowKit
set_option linter.unusedVariables false

def InsO (w : World) (base : Nat) (v : Value) (l : List InsV) : Prop := w.ownsRow base 41 3 v l.length (insL l).flatten
theorem InsO.row {w : World} {base n c : Nat} {a : Option Addr} {l : List InsV} (h : InsO w base (.slice a n c) l) : VR w a (insL l).flatten ∧ (∀ ad, a = some ad → base ≤ ad.block ∧ ad.block < w.heap.size) ∧ n = l.length := by
  rcases h.2 with ⟨h0, hn⟩ | ⟨g, cap, cur, hv, hbg, hg, h1, h2, h3, h4⟩
  · injection h0 with e1 e2 e3
    subst e1
    have : l = [] := List.eq_nil_of_length_eq_zero hn
    subst this
    exact ⟨fun hl => absurd rfl hl, fun ad e => (by cases e), e2⟩
  · injection hv with e1 e2 e3
    subst e1 e2
    have h' : w.ownsRow base 41 3 (.slice (some ⟨g, 0, none⟩) l.length c) l.length (insL l).flatten := h
    have hlen : (insL l).flatten.length = l.length * 3 := by rw [flatS_len (insL l) (insL_all l), insL_len]
    refine ⟨fun _ => ⟨g, rfl, ⟨fun j v hv => ?_, fun j hj => ?_⟩⟩, fun ad e => (by injection e with e; rw [← e]; exact ⟨hbg, (Array.getElem?_eq_some_iff.1 hg).1⟩), rfl⟩
    · have hj : j < l.length * 3 := by have := (List.getElem?_eq_some_iff.1 hv).1; rw [hlen] at this; exact this
      rw [Nat.zero_add, World.ownsRow.cellAt h' j hj, hv]
    · have hj2 : j < l.length * 3 := by rw [hlen] at hj; exact hj
      rw [Nat.zero_add, World.ownsRow.cellAt h' j hj2]
      have hjl : j < (insL l).flatten.length := by rw [hlen]; exact hj2
      rw [List.getElem?_eq_getElem hjl]
      exact ⟨rfl, h'.frozenAt j⟩
theorem VR.ins {w : World} {a : Option Addr} {l : List InsV} (h : VR w a (insL l).flatten) : InsAt w a l := fun i hi => by
  obtain ⟨g, rfl, hr⟩ := h (fun e => by have := congrArg List.length e; rw [flatS_len (insL l) (insL_all l), insL_len] at this; simp at this; omega)
  exact hr.ins i hi
theorem InsO.form {w : World} {base : Nat} {v : Value} {l : List InsV} (h : InsO w base v l) : ∃ a n c, l.length = n ∧ v = .slice a n c := by
  rcases h.2 with ⟨h0, hn⟩ | ⟨g, cap, cur, hv, hbg, hg, h1, h2, h3, h4⟩
  · exact ⟨none, 0, 0, hn, h0⟩
  · exact ⟨some ⟨g, 0, none⟩, _, cap, rfl, hv⟩
theorem wp_buildIns {o : Oper} {a : Act} {w : World} {K : Act → World → Prop} {Q : Exit → Act → World → Prop} (x : Operand) (ho : o.op = .buildSlice 25 1 #[(0, x)]) (x0 : Int) (x1 : ByteArray) (x2 : ByteArray) (e0 : a.eval x = .agg #[.int .i64 x0, .string x1, .string x2])
    (h : ∀ w', RowV w' w.heap.size (insv x0 x1 x2) → Below w.heap.size w w' → K (a.put o.dst (.slice (some ⟨w.heap.size, 0, none⟩) 1 1)) w') : o.wp Try.prog a w K Q := by
  obtain ⟨i0, hi, hz0, hz1, hz2⟩ := info_parts Try.infIns
  refine wp_buildSlice 25 41 1 _ ho (insv x0 x1 x2).toArray i0 _ Try.underlying25 hi hz0 (by rw [hz1]; omega) (by rw [hz1]; omega) ?_ (h _ (RowV.new w (insv x0 x1 x2) 41) (below_alloc _ _))
  rw [hz1]
  simp only [List.map_toArray, List.map, e0]
  kernel_rfl
theorem wp_appendIns {W : World} {o : Oper} {a : Act} {K : Act → World → Prop} {Q : Exit → Act → World → Prop} (s x : Operand) (ho : o.op = .call { callee := .builtin .append, args := #[s, x], argTypes := #[25, 25] })
    (base : Nat) (v : Value) (l : List InsV) (y : InsV) (hs : a.eval s = v) (hown : InsO W base v l) (B : Nat) (hx : a.eval x = .slice (some ⟨B, 0, none⟩) 1 1) (hB : RowV W B (insv y.op y.key y.val)) (hn : l.length ≤ 1000) (hbase : base ≤ W.heap.size)
    (h : ∀ v' w', InsO w' base v' (l ++ [y]) → W.grownBy w' v.ownBlock → (v'.ownBlock = v.ownBlock ∨ v'.ownBlock = some W.heap.size) → K (a.put o.dst v') w') : Oper.wp Try.prog o a W K Q := by
  obtain ⟨i0, hi, hz0, hz1, hz2⟩ := info_parts Try.infIns
  obtain ⟨v', w', hr, h2, h3, h4, h5⟩ := run_append_own_at (P := Try.prog) W base 25 o.type 41 i0 _ 3 40 Try.underlying25 hi hz0 hz1 hz2 rfl (by decide) v l.length (insL l).flatten hown ⟨B, 0, none⟩ 1 1 (insv y.op y.key y.val) rfl
    (fun j u hj => by rw [Addr.add_lit]; have := hB.rng j u hj; exact this) (insv_one _ _ _) (by unfold maxLen; omega) (by omega) hbase
  unfold Oper.wp execOp
  simp only [ho, resolve, invoke, builtin, Sem.run_bind, Sem.run_pure, Result.andThen_ok, List.map_toArray, List.map_cons, List.map_nil, hs, hx, hr]
  refine h v' w' ?_ h3 h5
  unfold InsO
  have ea : (insL (l ++ [y])).flatten = (insL l).flatten ++ (insL [y]).flatten := by unfold insL; rw [List.map_append, List.flatten_append]
  rw [ea, List.length_append]
  have e : (insL [y]).flatten = insv y.op y.key y.val := by unfold insL; simp
  rw [e]
  exact h2
theorem wpList_buildIns {ops : Array Oper} {rest : List Oper} {o : Oper} {a : Act} {w : World} {Q : Exit → Act → World → Prop} (hg : o.guard = none) (x : Operand) (ho : o.op = .buildSlice 25 1 #[(0, x)]) (x0 : Int) (x1 : ByteArray) (x2 : ByteArray) (e0 : a.eval x = .agg #[.int .i64 x0, .string x1, .string x2])
    (h : ∀ w', RowV w' w.heap.size (insv x0 x1 x2) → Below w.heap.size w w' → wpList Try.prog ops Q rest (a.put o.dst (.slice (some ⟨w.heap.size, 0, none⟩) 1 1)) w') : wpList Try.prog ops Q (o :: rest) a w :=
  wpList_plain hg fun _ hK => wp_buildIns x ho x0 x1 x2 e0 (fun w' h1 h2 => hK _ _ (h w' h1 h2))
theorem wpList_appendIns {ops : Array Oper} {rest : List Oper} {W : World} {o : Oper} {a : Act} {Q : Exit → Act → World → Prop} (hg : o.guard = none) (s x : Operand) (ho : o.op = .call { callee := .builtin .append, args := #[s, x], argTypes := #[25, 25] })
    (base : Nat) (v : Value) (l : List InsV) (y : InsV) (hs : a.eval s = v) (hown : InsO W base v l) (B : Nat) (hx : a.eval x = .slice (some ⟨B, 0, none⟩) 1 1) (hB : RowV W B (insv y.op y.key y.val)) (hn : l.length ≤ 1000) (hbase : base ≤ W.heap.size)
    (h : ∀ v' w', InsO w' base v' (l ++ [y]) → W.grownBy w' v.ownBlock → (v'.ownBlock = v.ownBlock ∨ v'.ownBlock = some W.heap.size) → wpList Try.prog ops Q rest (a.put o.dst v') w') : wpList Try.prog ops Q (o :: rest) a W :=
  wpList_plain hg fun _ hK => wp_appendIns s x ho base v l y hs hown B hx hB hn hbase (fun v' w' h1 h2 h3 => hK _ _ (h v' w' h1 h2 h3))
end Go.Proofs.Ytaalegjhhpfhbaa
