/- Rows of Label that a call owns, and appends to. -/
import Derived.Test.YtaalegjhhpfhbaaLabA

import Derived.Test.YtaalegjhhpfhbaaMrkW
import Derived.Maps.AppendAt
import Derived.Great.BuildSlice
import Derived.Great.FillDense
namespace Go.Proofs.Ytaalegjhhpfhbaa
open Go.RowKit
set_option linter.unusedVariables false

def LabO (w : World) (base : Nat) (v : Value) (l : List LabV) : Prop := w.ownsRow base 88 2 v l.length (labL l).flatten
theorem LabO.row {w : World} {base n c : Nat} {a : Option Addr} {l : List LabV} (h : LabO w base (.slice a n c) l) : VR w a (labL l).flatten ∧ (∀ ad, a = some ad → base ≤ ad.block ∧ ad.block < w.heap.size) ∧ n = l.length := by
  rcases h.2 with ⟨h0, hn⟩ | ⟨g, cap, cur, hv, hbg, hg, h1, h2, h3, h4⟩
  · injection h0 with e1 e2 e3
    subst e1
    have : l = [] := List.eq_nil_of_length_eq_zero hn
    subst this
    exact ⟨fun hl => absurd rfl hl, fun ad e => (by cases e), e2⟩
  · injection hv with e1 e2 e3
    subst e1 e2
    have h' : w.ownsRow base 88 2 (.slice (some ⟨g, 0, none⟩) l.length c) l.length (labL l).flatten := h
    have hlen : (labL l).flatten.length = l.length * 2 := by rw [flatS_len (labL l) (labL_all l), labL_len]
    refine ⟨fun _ => ⟨g, rfl, ⟨fun j v hv => ?_, fun j hj => ?_⟩⟩, fun ad e => (by injection e with e; rw [← e]; exact ⟨hbg, (Array.getElem?_eq_some_iff.1 hg).1⟩), rfl⟩
    · have hj : j < l.length * 2 := by have := (List.getElem?_eq_some_iff.1 hv).1; rw [hlen] at this; exact this
      rw [Nat.zero_add, World.ownsRow.cellAt h' j hj, hv]
    · have hj2 : j < l.length * 2 := by rw [hlen] at hj; exact hj
      rw [Nat.zero_add, World.ownsRow.cellAt h' j hj2]
      have hjl : j < (labL l).flatten.length := by rw [hlen]; exact hj2
      rw [List.getElem?_eq_getElem hjl]
      exact ⟨rfl, h'.frozenAt j⟩
theorem VR.lab {w : World} {a : Option Addr} {l : List LabV} (h : VR w a (labL l).flatten) : LabAt w a l := fun i hi => by
  obtain ⟨g, rfl, hr⟩ := h (fun e => by have := congrArg List.length e; rw [flatS_len (labL l) (labL_all l), labL_len] at this; simp at this; omega)
  exact hr.lab i hi
theorem LabO.form {w : World} {base : Nat} {v : Value} {l : List LabV} (h : LabO w base v l) : ∃ a n c, l.length = n ∧ v = .slice a n c := by
  rcases h.2 with ⟨h0, hn⟩ | ⟨g, cap, cur, hv, hbg, hg, h1, h2, h3, h4⟩
  · exact ⟨none, 0, 0, hn, h0⟩
  · exact ⟨some ⟨g, 0, none⟩, _, cap, rfl, hv⟩
theorem wp_buildLab {o : Oper} {a : Act} {w : World} {K : Act → World → Prop} {Q : Exit → Act → World → Prop} (x : Operand) (ho : o.op = .buildSlice 32 1 #[(0, x)]) (x0 : ByteArray) (x1 : ByteArray) (e0 : a.eval x = .agg #[.string x0, .string x1])
    (h : ∀ w', RowV w' w.heap.size (labv x0 x1) → Below w.heap.size w w' → K (a.put o.dst (.slice (some ⟨w.heap.size, 0, none⟩) 1 1)) w') : o.wp Try.prog a w K Q := by
  obtain ⟨i0, hi, hz0, hz1, hz2⟩ := info_parts Try.infLab
  refine wp_buildSlice 32 88 1 _ ho (labv x0 x1).toArray i0 _ Try.underlying32 hi hz0 (by rw [hz1]; omega) (by rw [hz1]; omega) ?_ (h _ (RowV.new w (labv x0 x1) 88) (below_alloc _ _))
  rw [hz1]
  simp only [List.map_toArray, List.map, e0]
  kernel_rfl
theorem wp_appendLab {W : World} {o : Oper} {a : Act} {K : Act → World → Prop} {Q : Exit → Act → World → Prop} (s x : Operand) (ho : o.op = .call { callee := .builtin .append, args := #[s, x], argTypes := #[32, 32] })
    (base : Nat) (v : Value) (l : List LabV) (y : LabV) (hs : a.eval s = v) (hown : LabO W base v l) (B : Nat) (hx : a.eval x = .slice (some ⟨B, 0, none⟩) 1 1) (hB : RowV W B (labv y.ky y.vl)) (hn : l.length ≤ 1000) (hbase : base ≤ W.heap.size)
    (h : ∀ v' w', LabO w' base v' (l ++ [y]) → W.grownBy w' v.ownBlock → (v'.ownBlock = v.ownBlock ∨ v'.ownBlock = some W.heap.size) → K (a.put o.dst v') w') : Oper.wp Try.prog o a W K Q := by
  obtain ⟨i0, hi, hz0, hz1, hz2⟩ := info_parts Try.infLab
  obtain ⟨v', w', hr, h2, h3, h4, h5⟩ := run_append_own_at (P := Try.prog) W base 32 o.type 88 i0 _ 2 32 Try.underlying32 hi hz0 hz1 hz2 rfl (by decide) v l.length (labL l).flatten hown ⟨B, 0, none⟩ 1 1 (labv y.ky y.vl) rfl
    (fun j u hj => by rw [Addr.add_lit]; have := hB.rng j u hj; exact this) (labv_one _ _) (by unfold maxLen; omega) (by omega) hbase
  unfold Oper.wp execOp
  simp only [ho, resolve, invoke, builtin, Sem.run_bind, Sem.run_pure, Result.andThen_ok, List.map_toArray, List.map_cons, List.map_nil, hs, hx, hr]
  refine h v' w' ?_ h3 h5
  unfold LabO
  have ea : (labL (l ++ [y])).flatten = (labL l).flatten ++ (labL [y]).flatten := by unfold labL; rw [List.map_append, List.flatten_append]
  rw [ea, List.length_append]
  have e : (labL [y]).flatten = labv y.ky y.vl := by unfold labL; simp
  rw [e]
  exact h2
theorem wpList_buildLab {ops : Array Oper} {rest : List Oper} {o : Oper} {a : Act} {w : World} {Q : Exit → Act → World → Prop} (hg : o.guard = none) (x : Operand) (ho : o.op = .buildSlice 32 1 #[(0, x)]) (x0 : ByteArray) (x1 : ByteArray) (e0 : a.eval x = .agg #[.string x0, .string x1])
    (h : ∀ w', RowV w' w.heap.size (labv x0 x1) → Below w.heap.size w w' → wpList Try.prog ops Q rest (a.put o.dst (.slice (some ⟨w.heap.size, 0, none⟩) 1 1)) w') : wpList Try.prog ops Q (o :: rest) a w :=
  wpList_plain hg fun _ hK => wp_buildLab x ho x0 x1 e0 (fun w' h1 h2 => hK _ _ (h w' h1 h2))
theorem wpList_appendLab {ops : Array Oper} {rest : List Oper} {W : World} {o : Oper} {a : Act} {Q : Exit → Act → World → Prop} (hg : o.guard = none) (s x : Operand) (ho : o.op = .call { callee := .builtin .append, args := #[s, x], argTypes := #[32, 32] })
    (base : Nat) (v : Value) (l : List LabV) (y : LabV) (hs : a.eval s = v) (hown : LabO W base v l) (B : Nat) (hx : a.eval x = .slice (some ⟨B, 0, none⟩) 1 1) (hB : RowV W B (labv y.ky y.vl)) (hn : l.length ≤ 1000) (hbase : base ≤ W.heap.size)
    (h : ∀ v' w', LabO w' base v' (l ++ [y]) → W.grownBy w' v.ownBlock → (v'.ownBlock = v.ownBlock ∨ v'.ownBlock = some W.heap.size) → wpList Try.prog ops Q rest (a.put o.dst v') w') : wpList Try.prog ops Q (o :: rest) a W :=
  wpList_plain hg fun _ hK => wp_appendLab s x ho base v l y hs hown B hx hB hn hbase (fun v' w' h1 h2 h3 => hK _ _ (h v' w' h1 h2 h3))
end Go.Proofs.Ytaalegjhhpfhbaa
