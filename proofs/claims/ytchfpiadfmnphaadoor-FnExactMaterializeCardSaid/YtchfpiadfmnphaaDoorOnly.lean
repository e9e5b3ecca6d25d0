/- What leaves every block but one as it was; a reader's cells. -/
import Derived.Test.YtchfpiadfmnphaaDoorJn19
import Derived.Test.YtchfpiadfmnphaaDoorJn17
import Derived.Deep.RegionHeld3
namespace Go.Proofs.YtchfpiadfmnphaaDoor
open Go.RowKit
set_option linter.unusedVariables false

/- The program's cursor: its text, and the place in it. -/
def cuv (t : ByteArray) (p : Int) : List Value := [.string t, .int .i64 p]
theorem cuv_ne (t : ByteArray) (p : Int) : cuv t p ≠ [] := by simp [cuv]
theorem RowV.cu {w : World} {g : Nat} {t : ByteArray} {p : Int} (h : RowV w g (cuv t p)) : w.cell? ⟨g, 0, none⟩ = some (.string t) ∧ w.cell? ⟨g, 1, none⟩ = some (.int .i64 p) := ⟨h.cell (k := 0) rfl, h.cell (k := 1) rfl⟩
/- The specification's reader: its text, the place, and whether something was wrong. -/
def srv (t : ByteArray) (p : Int) (b : Bool) : List Value := [.string t, .int .i64 p, .bool b]
theorem srv_ne (t : ByteArray) (p : Int) (b : Bool) : srv t p b ≠ [] := by simp [srv]
theorem RowV.sr {w : World} {g : Nat} {t : ByteArray} {p : Int} {b : Bool} (h : RowV w g (srv t p b)) : w.cell? ⟨g, 0, none⟩ = some (.string t) ∧ w.cell? ⟨g, 1, none⟩ = some (.int .i64 p) ∧ w.cell? ⟨g, 2, none⟩ = some (.bool b) := ⟨h.cell (k := 0) rfl, h.cell (k := 1) rfl, h.cell (k := 2) rfl⟩
theorem getN_ways (s : ByteArray) (p : Int) : (∃ c, c ≠ 0 ∧ getN s p = ⟨0, 0, c⟩) ∨ (∃ (n : Int) (b : Nat), getN s p = ⟨n, b, 0⟩ ∧ b ≤ s.size ∧ s.size ≤ 20000) := by
  rcases getN_code s p with hc | ⟨c, hc, hg⟩
  · obtain ⟨hs, b, hb, hbs⟩ := getN_behind hc
    refine Or.inr ⟨(getN s p).n, b, ?_, hbs, hs⟩
    cases hx : getN s p
    rw [hx] at hb hc
    simp at hb hc
    rw [hb, hc]
  · exact Or.inl ⟨c, hc, hg⟩
theorem wpList_cellB {P : Program} {ops : Array Oper} {rest : List Oper} {o : Oper} {a : Act} {w : World} {Q : Exit → Act → World → Prop} (hg : o.guard = none) (t : TypeId) (x y : Operand) (ho : o.op = .store t x y) (g k : Nat) (l l' : List Value) (v : Bool)
    (hx : a.eval x = .pointer (some ⟨g, k, none⟩)) (hy : a.eval y = .bool v) (hi : (P.info? t).map (·.size) = some 1) (hl : RowV w g l) (hk : k < l.length) (hl' : l' = l.set k (.bool v))
    (h : ∀ w', RowV w' g l' → (∀ B, B ≤ g → Below B w w') → (∀ k, k ≠ g → w'.heap[k]? = w.heap[k]?) → w'.heap.size = w.heap.size → wpList P ops Q rest (a.put o.dst undef) w') : wpList P ops Q (o :: rest) a w := by
  refine wpList_plain hg fun K hK => ?_
  have hc : w.cell? ⟨g, k, none⟩ = some l[k] := hl.cell (List.getElem?_eq_getElem hk)
  have hf : w.frozen? ⟨g, k, none⟩ = false := hl.frozen hk
  have hh := h _ (hl.setAt hk hl') (fun B hB => (Below.refl B w).setCell hB (.bool v)) (fun j hj => Below.heap_setCell _ _ _ _ hj) (World.size_setCell ..)
  generalize l[k] = u at hc
  obtain ⟨ti, hti, hts⟩ := Option.map_eq_some_iff.1 hi
  simp only [Oper.wp, execOp, ho, hx, hy, Instr.storeAt, Instr.sureAddr, Sem.run_bind, Sem.run_pure, Result.andThen_ok]
  simp [go_sem, hc, hf, hti, hts, storeCells, sizeOf, typeInfo]
  exact hK _ _ hh
theorem Tryd.siz1B : (Tryd.prog.info? 4).map (·.size) = some 1 := by kernel_rfl
end Go.Proofs.YtchfpiadfmnphaaDoor
