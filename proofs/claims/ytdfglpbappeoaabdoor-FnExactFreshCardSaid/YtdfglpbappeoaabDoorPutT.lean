/- What the two Go functions PutText (the specification's and the program's) answer, for every text: one text. -/
import Derived.Test.YtdfglpbappeoaabDoorPutZ
namespace Go.Proofs.YtdfglpbappeoaabDoor
open Go.RowKit
set_option linter.unusedVariables false

theorem I64.ofNat {k : Nat} (h : k ≤ 20000) : I64 (k : Int) := by
  unfold I64
  exact WalkArith.wf_i64 (by omega)
def putT (s : ByteArray) : ByteArray := if 20000 < s.size then ⟨#[]⟩ else putS s.size ++ s

end Go.Proofs.YtdfglpbappeoaabDoor
