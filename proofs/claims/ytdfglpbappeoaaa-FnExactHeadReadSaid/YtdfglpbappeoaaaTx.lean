/- A text, a place and a code, as one value; faults; and that two such values, if they are the same, are told to be so. -/
import Derived.Test.YtdfglpbappeoaaaRows
import Derived.WalkKit
import Derived.ProofKit
namespace Go.Proofs.Ytdfglpbappeoaaa
open Go.RowKit
set_option linter.unusedVariables false

def errV (c : Int) : Value := if c = 0 then .nilIface else .iface 164 (.agg #[.int .i64 c])
theorem ret_val {v v' : Value} (h : v = v') : Ending.returned v = .returned v' := by rw [h]
structure TX where
  text : ByteArray
  behind : Int
  code : Int
def tv (t : TX) : Value := .agg #[.string t.text, .int .i64 t.behind, .int .i64 t.code]
def noText : ByteArray := ⟨#[]⟩
theorem below_end {w w1 : World} {v0 v1 v2 : Value} {o : Obj} {B : Nat} (hb : Below B w w1) (hB : B ≤ w1.heap.size) : Below B w ((((w1.setCell ⟨B, 0, none⟩ v0).setCell ⟨B, 1, none⟩ v1).setCell ⟨B, 2, none⟩ v2).alloc o) :=
  (((hb.setCell (Nat.le_refl _) _).setCell (Nat.le_refl _) _).setCell (Nat.le_refl _) _).alloc (by simpa [World.setCell] using hB) _
end Go.Proofs.Ytdfglpbappeoaaa
