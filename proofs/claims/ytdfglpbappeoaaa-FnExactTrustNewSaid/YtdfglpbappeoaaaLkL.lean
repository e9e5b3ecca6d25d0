/- The laws' own Link turned to the program's; the law FnExactLinkBytes, walked. -/
import Derived.Test.YtdfglpbappeoaaaJn7
namespace Go.Proofs.Ytdfglpbappeoaaa
open Go.RowKit
set_option linter.unusedVariables false
theorem szA2 (w : World) (o : Obj) : (w.alloc o).heap.size = w.heap.size + 1 := Array.size_push _
end Go.Proofs.Ytdfglpbappeoaaa
