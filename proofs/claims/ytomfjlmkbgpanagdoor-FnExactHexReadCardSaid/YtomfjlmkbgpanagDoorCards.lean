/-
  DERIVED. GIVEN WITH THE SEED: THE CARDS: each row of YtomfjlmkbgpanagDoorRows.lean that lists a variable, with what it lists TIED to the program's text (the seventh form; the later family's looks); each row that meets fmt, with fmt's text TOLD by the authors' own Lean function (tested against real Go, not proved from fmt's source: count such statements apart). THE CARD IS WHAT COUNTS. Prove the row's statement (the work); the ties are given (YtomfjlmkbgpanagDoorTie.lean); close each card by the builder's one call (the guide's Derived/Test/ToyasCard.lean, 'card_holds'). Laid BY PROGRAM, IN A SANDBOX (cutbox-door.mjs). By AI agents, Wed Nov 11 2026. No macro, syntax, notation, axiom, sorry.
-/
import Derived.Test.YtomfjlmkbgpanagDoorRows
import GoSem.ClaimSeven
namespace Go.Proofs.YtomfjlmkbgpanagDoor
namespace Rows

/-- THE TIED CARD OF 'laws.FnExactHexRead'. -/
def fnExactHexReadCard : Claim7 := { stood := { row := fnExactHexReadRow, standIns := [], harness := (true, "148b9529a848d518cbc7296903de45f5899829385413f7ed141bd86233d1356b"), looks := true }, kinds := [], alts := [], laidByText := true, laidKinds := [.handle], laidTests := true, laidLooks := .later }
def FnExactHexReadCardSaid : Prop := Claim7.holds Tryd.pinned (.plain (OpenSpec.ofChange fnExactHexReadSpec)) fnExactHexReadCard

/-- THE SECOND FORM's CARD OF 'laws.FnExactHexRead'. -/
def fnExactHexReadUptoCard : Claim7 := { stood := { row := fnExactHexReadUptoRow, standIns := [], harness := (true, "148b9529a848d518cbc7296903de45f5899829385413f7ed141bd86233d1356b"), looks := true }, kinds := [], alts := [], laidByText := true, laidKinds := [.handle], laidTests := true, laidLooks := .later }
def FnExactHexReadUptoCardSaid : Prop := Claim7.holds Tryd.pinned (.plain (OpenSpec.upto fnExactHexReadSpec)) fnExactHexReadUptoCard
end Rows
end Go.Proofs.YtomfjlmkbgpanagDoor
