/-
  DERIVED. GIVEN WITH THE SEED: THE CARDS: each row of YtdfglpbappeoaaaGreatDoorRows.lean that lists a variable, with what it lists TIED to the program's text (the seventh form; the later family's looks); each row that meets fmt, with fmt's text TOLD by the authors' own Lean function (tested against real Go, not proved from fmt's source: count such statements apart). THE CARD IS WHAT COUNTS. Prove the row's statement (the work); the ties are given (YtdfglpbappeoaaaGreatDoorTie.lean); close each card by the builder's one call (the guide's Derived/Test/ToyasCard.lean, 'card_holds'). Laid BY PROGRAM, IN A SANDBOX (cutbox-door.mjs). By AI agents, Wed Nov 11 2026. No macro, syntax, notation, axiom, sorry.
-/
import Derived.Test.YtdfglpbappeoaaaGreatDoorRows
import GoSem.ClaimSeven
namespace Go.Proofs.YtdfglpbappeoaaaGreatDoor
namespace Rows

/-- THE TIED CARD OF 'laws.FnExactLogged'. -/
def fnExactLoggedCard : Claim7 := { stood := { row := fnExactLoggedRow, standIns := [], harness := (true, "2f8784bff3d0846543f969fde0ce1a7fb3568aa6355fbec03743a4c40eb7f023"), looks := false }, kinds := [], alts := [], laidByText := true, laidKinds := [.data], laidTests := true, laidLooks := .later }
def FnExactLoggedCardSaid : Prop := Claim7.holds Tryz.pinned (.plain (OpenSpec.ofChange fnExactLoggedSpec)) fnExactLoggedCard

/-- THE TIED CARD OF 'laws.FnLogged'. -/
def fnLoggedCard : Claim7 := { stood := { row := fnLoggedRow, standIns := [], harness := (true, "2f8784bff3d0846543f969fde0ce1a7fb3568aa6355fbec03743a4c40eb7f023"), looks := false }, kinds := [], alts := [], laidByText := true, laidKinds := [.data], laidTests := true, laidLooks := .later }
def FnLoggedCardSaid : Prop := Claim7.holds Tryz.pinned (.plain (OpenSpec.ofChange fnLoggedSpec)) fnLoggedCard

/-- THE SECOND FORM's CARD OF 'laws.FnExactLogged'. -/
def fnExactLoggedUptoCard : Claim7 := { stood := { row := fnExactLoggedUptoRow, standIns := [], harness := (true, "2f8784bff3d0846543f969fde0ce1a7fb3568aa6355fbec03743a4c40eb7f023"), looks := false }, kinds := [], alts := [], laidByText := true, laidKinds := [.data], laidTests := true, laidLooks := .later }
def FnExactLoggedUptoCardSaid : Prop := Claim7.holds Tryz.pinned (.plain (OpenSpec.upto fnExactLoggedSpec)) fnExactLoggedUptoCard

/-- THE SECOND FORM's CARD OF 'laws.FnLogged'. -/
def fnLoggedUptoCard : Claim7 := { stood := { row := fnLoggedUptoRow, standIns := [], harness := (true, "2f8784bff3d0846543f969fde0ce1a7fb3568aa6355fbec03743a4c40eb7f023"), looks := false }, kinds := [], alts := [], laidByText := true, laidKinds := [.data], laidTests := true, laidLooks := .later }
def FnLoggedUptoCardSaid : Prop := Claim7.holds Tryz.pinned (.plain (OpenSpec.upto fnLoggedSpec)) fnLoggedUptoCard
end Rows
end Go.Proofs.YtdfglpbappeoaaaGreatDoor
