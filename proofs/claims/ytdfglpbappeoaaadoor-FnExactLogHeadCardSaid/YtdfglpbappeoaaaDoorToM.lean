/- Texts turned to the program's, as a thing that was made. -/
import Derived.Test.YtdfglpbappeoaaaDoorSRow
import Derived.Test.YtdfglpbappeoaaaDoorSta
namespace Go.Proofs.YtdfglpbappeoaaaDoor
open Go.RowKit
set_option linter.unusedVariables false

theorem toSM (a : Option Addr) (c n : Nat) (l : List ByteArray) (w : World) (hn : l.length = n) (h : SA w a l) (hb : n ≤ 1048576) :
    Calls Tryd.prog 8 #[.slice a n c] w fun r w' => ∃ (g : Nat), r = .returned (.slice (some ⟨g, 0, none⟩) n n) ∧ (w.heap.size ≤ g ∧ g < w'.heap.size) ∧ Made w w' (fun w2 => RowV w2 g (svl l)) ∧ Below w.heap.size w w' :=
  (toS_row a c n l w hn h hb).mono fun r w' ⟨h1, h2, h3, h4⟩ => ⟨w.heap.size, h1, ⟨Nat.le_refl _, h4⟩, fun w2 hw => h2.same fun k => hw.far ⟨w.heap.size, k, none⟩ h4 (fun hn => hn ⟨Nat.le_refl _, h4⟩), h3⟩
end Go.Proofs.YtdfglpbappeoaaaDoor
