/- The law FnMorgan. -/
import Derived.Test.YtaalegjhhpfhbaaDpI
import Derived.Test.YtaalegjhhpfhbaaDpJ
import Derived.Test.YtaalegjhhpfhbaaDpK
import Derived.Test.YtaalegjhhpfhbaaDpL
namespace Go.Proofs.Ytaalegjhhpfhbaa
open Go.RowKit
set_option linter.unusedVariables false

theorem lawMorgan (a1 : Option Addr) (n1 c1 : Nat) (a2 : Option Addr) (n2 c2 : Nat) (w : World) (hb1 : Bytes w a1 n1) (hn1 : n1 ≤ 9223372036854775807) (hb2 : Bytes w a2 n2) (hn2 : n2 ≤ 9223372036854775807) :
    Calls Try.prog 6 #[.slice a1 n1 c1, .slice a2 n2 c2] w fun r w' => r = .returned (.bool true) ∧ Below w.heap.size w w' :=
  (morgPack a1 n1 c1 a2 n2 c2 w hn1 hn2).law (hidP (morgQ0 a1 n1 c1 a2 n2 c2 w hn1 hn2)) (hidP (morgQ1 a1 n1 c1 a2 n2 c2 w hn1 hn2)) (hidP (morgQ2 a1 n1 c1 a2 n2 c2 w hn1 hn2)) (hidP (morgQ3 a1 n1 c1 a2 n2 c2 w hn1 hn2)) hb1 hb2
end Go.Proofs.Ytaalegjhhpfhbaa
