/-
  DERIVED. GIVEN WITH THE SEED: THE CARDS: each row of YtdfglpbappeoaabDoorRows.lean that lists a variable, with what it lists TIED to the program's text (the seventh form; the later family's looks); each row that meets fmt, with fmt's text TOLD by the authors' own Lean function (tested against real Go, not proved from fmt's source: count such statements apart). THE CARD IS WHAT COUNTS. Prove the row's statement (the work); the ties are given (YtdfglpbappeoaabDoorTie.lean); close each card by the builder's one call (the guide's Derived/Test/ToyasCard.lean, 'card_holds'). Laid BY PROGRAM, IN A SANDBOX (cutbox-door.mjs). By AI agents, Wed Nov 11 2026. No macro, syntax, notation, axiom, sorry.
-/
import Derived.Test.YtdfglpbappeoaabDoorRows
import GoSem.ClaimSeven
namespace Go.Proofs.YtdfglpbappeoaabDoor
namespace Rows

/-- THE TIED CARD OF 'laws.FnLeaves'. -/
def fnLeavesCard : Claim7 := { stood := { row := fnLeavesRow, standIns := [], harness := (true, "e9d0d3e9a9722b278b5279d04c2e23efd04017966d182322ac8efe6cc40681ad"), looks := true }, kinds := [], alts := [], laidByText := true, laidKinds := [.data], laidTests := true, laidLooks := .later }
def FnLeavesCardSaid : Prop := Claim7.holds Tryd.pinned (.plain (OpenSpec.ofChange fnLeavesSpec)) fnLeavesCard

/-- THE TIED CARD OF 'laws.FnOneLeaf'. -/
def fnOneLeafCard : Claim7 := { stood := { row := fnOneLeafRow, standIns := [], harness := (true, "e9d0d3e9a9722b278b5279d04c2e23efd04017966d182322ac8efe6cc40681ad"), looks := true }, kinds := [], alts := [], laidByText := true, laidKinds := [.data], laidTests := true, laidLooks := .later }
def FnOneLeafCardSaid : Prop := Claim7.holds Tryd.pinned (.plain (OpenSpec.ofChange fnOneLeafSpec)) fnOneLeafCard

/-- THE TIED CARD OF 'laws.FnOnePast'. -/
def fnOnePastCard : Claim7 := { stood := { row := fnOnePastRow, standIns := [], harness := (true, "e9d0d3e9a9722b278b5279d04c2e23efd04017966d182322ac8efe6cc40681ad"), looks := true }, kinds := [], alts := [], laidByText := true, laidKinds := [.data], laidTests := true, laidLooks := .later }
def FnOnePastCardSaid : Prop := Claim7.holds Tryd.pinned (.plain (OpenSpec.ofChange fnOnePastSpec)) fnOnePastCard

/-- THE TIED CARD OF 'laws.FnExactFresh'. -/
def fnExactFreshCard : Claim7 := { stood := { row := fnExactFreshRow, standIns := [], harness := (true, "e9d0d3e9a9722b278b5279d04c2e23efd04017966d182322ac8efe6cc40681ad"), looks := true }, kinds := [], alts := [], laidByText := true, laidKinds := [.sentinel, .sentinel, .sentinel, .sentinel, .sentinel, .sentinel, .sentinel, .sentinel], laidTests := true, laidLooks := .later }
def FnExactFreshCardSaid : Prop := Claim7.holds Tryd.pinned (.plain (OpenSpec.ofChange fnExactFreshSpec)) fnExactFreshCard

/-- THE TIED CARD OF 'laws.FnFresh'. -/
def fnFreshCard : Claim7 := { stood := { row := fnFreshRow, standIns := [], harness := (true, "e9d0d3e9a9722b278b5279d04c2e23efd04017966d182322ac8efe6cc40681ad"), looks := true }, kinds := [], alts := [], laidByText := true, laidKinds := [.sentinel, .sentinel, .sentinel, .sentinel, .sentinel, .sentinel, .sentinel, .sentinel], laidTests := true, laidLooks := .later }
def FnFreshCardSaid : Prop := Claim7.holds Tryd.pinned (.plain (OpenSpec.ofChange fnFreshSpec)) fnFreshCard

/-- THE SECOND FORM's CARD OF 'laws.FnLeaves'. -/
def fnLeavesUptoCard : Claim7 := { stood := { row := fnLeavesUptoRow, standIns := [], harness := (true, "e9d0d3e9a9722b278b5279d04c2e23efd04017966d182322ac8efe6cc40681ad"), looks := true }, kinds := [], alts := [], laidByText := true, laidKinds := [.data], laidTests := true, laidLooks := .later }
def FnLeavesUptoCardSaid : Prop := Claim7.holds Tryd.pinned (.plain (OpenSpec.upto fnLeavesSpec)) fnLeavesUptoCard

/-- THE SECOND FORM's CARD OF 'laws.FnOneLeaf'. -/
def fnOneLeafUptoCard : Claim7 := { stood := { row := fnOneLeafUptoRow, standIns := [], harness := (true, "e9d0d3e9a9722b278b5279d04c2e23efd04017966d182322ac8efe6cc40681ad"), looks := true }, kinds := [], alts := [], laidByText := true, laidKinds := [.data], laidTests := true, laidLooks := .later }
def FnOneLeafUptoCardSaid : Prop := Claim7.holds Tryd.pinned (.plain (OpenSpec.upto fnOneLeafSpec)) fnOneLeafUptoCard

/-- THE SECOND FORM's CARD OF 'laws.FnOnePast'. -/
def fnOnePastUptoCard : Claim7 := { stood := { row := fnOnePastUptoRow, standIns := [], harness := (true, "e9d0d3e9a9722b278b5279d04c2e23efd04017966d182322ac8efe6cc40681ad"), looks := true }, kinds := [], alts := [], laidByText := true, laidKinds := [.data], laidTests := true, laidLooks := .later }
def FnOnePastUptoCardSaid : Prop := Claim7.holds Tryd.pinned (.plain (OpenSpec.upto fnOnePastSpec)) fnOnePastUptoCard

/-- THE SECOND FORM's CARD OF 'laws.FnExactFresh'. -/
def fnExactFreshUptoCard : Claim7 := { stood := { row := fnExactFreshUptoRow, standIns := [], harness := (true, "e9d0d3e9a9722b278b5279d04c2e23efd04017966d182322ac8efe6cc40681ad"), looks := true }, kinds := [], alts := [], laidByText := true, laidKinds := [.sentinel, .sentinel, .sentinel, .sentinel, .sentinel, .sentinel, .sentinel, .sentinel], laidTests := true, laidLooks := .later }
def FnExactFreshUptoCardSaid : Prop := Claim7.holds Tryd.pinned (.plain (OpenSpec.upto fnExactFreshSpec)) fnExactFreshUptoCard

/-- THE SECOND FORM's CARD OF 'laws.FnFresh'. -/
def fnFreshUptoCard : Claim7 := { stood := { row := fnFreshUptoRow, standIns := [], harness := (true, "e9d0d3e9a9722b278b5279d04c2e23efd04017966d182322ac8efe6cc40681ad"), looks := true }, kinds := [], alts := [], laidByText := true, laidKinds := [.sentinel, .sentinel, .sentinel, .sentinel, .sentinel, .sentinel, .sentinel, .sentinel], laidTests := true, laidLooks := .later }
def FnFreshUptoCardSaid : Prop := Claim7.holds Tryd.pinned (.plain (OpenSpec.upto fnFreshSpec)) fnFreshUptoCard
end Rows
end Go.Proofs.YtdfglpbappeoaabDoor
