/- Are targets right? On the specification's side. -/
import Derived.Test.YtdfglpbappeoaaaMetT
import Derived.Test.YtdfglpbappeoaaaBld
namespace Go.Proofs.Ytdfglpbappeoaaa
open Go.RowKit
set_option linter.unusedVariables false

theorem wanted_none {o : Oper} {y : Nat → Option Bool} (h : o.guard = none) : Region.wanted o y = true := by simp [Region.wanted, h]
end Go.Proofs.Ytdfglpbappeoaaa
