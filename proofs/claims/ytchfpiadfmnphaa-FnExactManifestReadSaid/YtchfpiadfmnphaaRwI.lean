/- The program's face that reads a whole text: what its deferred function does; readWhole of a link. -/
import Derived.Test.YtchfpiadfmnphaaLnI
import Derived.Defers
import Derived.Recover
namespace Go.Proofs.Ytchfpiadfmnphaa
open Go.RowKit
set_option linter.unusedVariables false

def i1v (c : Int) : List Value := [.int .i64 c]
theorem i1v_ne (c : Int) : i1v c ≠ [] := by simp [i1v]
end Go.Proofs.Ytchfpiadfmnphaa
