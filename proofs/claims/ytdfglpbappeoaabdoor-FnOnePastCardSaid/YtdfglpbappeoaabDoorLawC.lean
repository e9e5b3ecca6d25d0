/- The laws over InclusionCheck and ConsistencyCheck, walked out of what the program's functions answer. -/
import Derived.Test.YtdfglpbappeoaabDoorJn7
namespace Go.Proofs.YtdfglpbappeoaabDoor
open Go.RowKit
set_option linter.unusedVariables false
end Go.Proofs.YtdfglpbappeoaabDoor
