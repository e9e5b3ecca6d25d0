/-
  DERIVED. GIVEN WITH THE SEED: THE CARDS: each row of YtmahpmjkejnkfaaDoorRows.lean that lists a variable, with what it lists TIED to the program's text (the seventh form; the later family's looks); each row that meets fmt, with fmt's text TOLD by the authors' own Lean function (tested against real Go, not proved from fmt's source: count such statements apart). THE CARD IS WHAT COUNTS. Prove the row's statement (the work); the ties are given (YtmahpmjkejnkfaaDoorTie.lean); close each card by the builder's one call (the guide's Derived/Test/ToyasCard.lean, 'card_holds'). Laid BY PROGRAM, IN A SANDBOX (cutbox-door.mjs). By AI agents, Wed Nov 11 2026. No macro, syntax, notation, axiom, sorry.
-/
import Derived.Test.YtmahpmjkejnkfaaDoorRows
import GoSem.ClaimSeven
namespace Go.Proofs.YtmahpmjkejnkfaaDoor
namespace Rows

/-- THE TIED CARD OF 'laws.FnExactEnough'. -/
def fnExactEnoughCard : Claim7 := { stood := { row := fnExactEnoughRow, standIns := [], harness := (true, "03a8fed939bc2d95ced73e8de79a35a590606d2a3af03512ef113b2ab65abf9f"), looks := false }, kinds := [], alts := [], laidByText := true, laidKinds := [.data], laidTests := true, laidLooks := .later }
def FnExactEnoughCardSaid : Prop := Claim7.holds Tryd.pinned (.plain (OpenSpec.ofChange fnExactEnoughSpec)) fnExactEnoughCard

/-- THE TIED CARD OF 'laws.FnExactSignAll'. -/
def fnExactSignAllCard : Claim7 := { stood := { row := fnExactSignAllRow, standIns := [], harness := (true, "03a8fed939bc2d95ced73e8de79a35a590606d2a3af03512ef113b2ab65abf9f"), looks := false }, kinds := [], alts := [], laidByText := true, laidKinds := [.data], laidTests := true, laidLooks := .later }
def FnExactSignAllCardSaid : Prop := Claim7.holds Tryd.pinned (.plain (OpenSpec.ofChange fnExactSignAllSpec)) fnExactSignAllCard

/-- THE SECOND FORM's CARD OF 'laws.FnExactEnough'. -/
def fnExactEnoughUptoCard : Claim7 := { stood := { row := fnExactEnoughUptoRow, standIns := [], harness := (true, "03a8fed939bc2d95ced73e8de79a35a590606d2a3af03512ef113b2ab65abf9f"), looks := false }, kinds := [], alts := [], laidByText := true, laidKinds := [.data], laidTests := true, laidLooks := .later }
def FnExactEnoughUptoCardSaid : Prop := Claim7.holds Tryd.pinned (.plain (OpenSpec.upto fnExactEnoughSpec)) fnExactEnoughUptoCard

/-- THE SECOND FORM's CARD OF 'laws.FnExactSignAll'. -/
def fnExactSignAllUptoCard : Claim7 := { stood := { row := fnExactSignAllUptoRow, standIns := [], harness := (true, "03a8fed939bc2d95ced73e8de79a35a590606d2a3af03512ef113b2ab65abf9f"), looks := false }, kinds := [], alts := [], laidByText := true, laidKinds := [.data], laidTests := true, laidLooks := .later }
def FnExactSignAllUptoCardSaid : Prop := Claim7.holds Tryd.pinned (.plain (OpenSpec.upto fnExactSignAllSpec)) fnExactSignAllUptoCard
end Rows
end Go.Proofs.YtmahpmjkejnkfaaDoor
