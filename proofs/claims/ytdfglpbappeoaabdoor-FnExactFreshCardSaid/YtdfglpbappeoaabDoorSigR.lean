/- Sig: what SigRight of both sides answers, for all numbers: the same; the laws' own Sig turned to the program's. -/
import Derived.Test.YtdfglpbappeoaabDoorSec
import Derived.Test.YtdfglpbappeoaabDoorRowV
namespace Go.Proofs.YtdfglpbappeoaabDoor
open Go.RowKit
set_option linter.unusedVariables false

def svs (k e s : Int) : List Value := [.int .i64 k, .int .i64 e, .int .i64 s]
abbrev SVal (k e s : Int) : Value := .agg (svs k e s).toArray
theorem svs_one (k e s : Int) : ∀ v ∈ svs k e s, v.oneCell' = true := by
  intro v hv
  simp [svs] at hv
  rcases hv with h | h | h <;> (rw [h]; rfl)
theorem svs_ne (k e s : Int) : svs k e s ≠ [] := by simp [svs]
theorem RowV.sig {w : World} {g : Nat} {k e s : Int} (h : RowV w g (svs k e s)) : w.cell? ⟨g, 0, none⟩ = some (.int .i64 k) ∧ w.cell? ⟨g, 1, none⟩ = some (.int .i64 e) ∧ w.cell? ⟨g, 2, none⟩ = some (.int .i64 s) :=
  ⟨h.cell (k := 0) rfl, h.cell (k := 1) rfl, h.cell (k := 2) rfl⟩
def expB (n : Int) : Bool := decide (0 ≤ n ∧ n < 1073741789)
theorem expB_yes {n : Int} (h : 0 ≤ n ∧ n < 1073741789) : expB n = true := decide_eq_true h
theorem expB_no {n : Int} (h : ¬ (0 ≤ n ∧ n < 1073741789)) : expB n = false := decide_eq_false h
def sigB (k e s : Int) : Bool := grB k && expB e && expB s
end Go.Proofs.YtdfglpbappeoaabDoor
