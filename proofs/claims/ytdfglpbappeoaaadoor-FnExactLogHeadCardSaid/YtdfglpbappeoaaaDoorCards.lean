/-
  DERIVED. GIVEN WITH THE SEED: THE CARDS: each row of YtdfglpbappeoaaaDoorRows.lean that lists a variable, with what it lists TIED to the program's text (the seventh form; the later family's looks); each row that meets fmt, with fmt's text TOLD by the authors' own Lean function (tested against real Go, not proved from fmt's source: count such statements apart). THE CARD IS WHAT COUNTS. Prove the row's statement (the work); the ties are given (YtdfglpbappeoaaaDoorTie.lean); close each card by the builder's one call (the guide's Derived/Test/ToyasCard.lean, 'card_holds'). Laid BY PROGRAM, IN A SANDBOX (cutbox-door.mjs). By AI agents, Wed Nov 11 2026. No macro, syntax, notation, axiom, sorry.
-/
import Derived.Test.YtdfglpbappeoaaaDoorRows
import GoSem.ClaimSeven
namespace Go.Proofs.YtdfglpbappeoaaaDoor
namespace Rows

/-- THE TIED CARD OF 'laws.FnExactLogHead'. -/
def fnExactLogHeadCard : Claim7 := { stood := { row := fnExactLogHeadRow, standIns := [], harness := (true, "e1c4ed1168c0f9704477c9d650ccd42b57a915a401a83badf43ac7d1ddd88a5f"), looks := false }, kinds := [], alts := [], laidByText := true, laidKinds := [.data], laidTests := true, laidLooks := .later }
def FnExactLogHeadCardSaid : Prop := Claim7.holds Tryd.pinned (.plain (OpenSpec.ofChange fnExactLogHeadSpec)) fnExactLogHeadCard

/-- THE TIED CARD OF 'laws.FnExactInclusionCheck'. -/
def fnExactInclusionCheckCard : Claim7 := { stood := { row := fnExactInclusionCheckRow, standIns := [], harness := (true, "e1c4ed1168c0f9704477c9d650ccd42b57a915a401a83badf43ac7d1ddd88a5f"), looks := false }, kinds := [], alts := [], laidByText := true, laidKinds := [.data], laidTests := true, laidLooks := .later }
def FnExactInclusionCheckCardSaid : Prop := Claim7.holds Tryd.pinned (.plain (OpenSpec.ofChange fnExactInclusionCheckSpec)) fnExactInclusionCheckCard

/-- THE TIED CARD OF 'laws.FnExactConsistencyCheck'. -/
def fnExactConsistencyCheckCard : Claim7 := { stood := { row := fnExactConsistencyCheckRow, standIns := [], harness := (true, "e1c4ed1168c0f9704477c9d650ccd42b57a915a401a83badf43ac7d1ddd88a5f"), looks := false }, kinds := [], alts := [], laidByText := true, laidKinds := [.data], laidTests := true, laidLooks := .later }
def FnExactConsistencyCheckCardSaid : Prop := Claim7.holds Tryd.pinned (.plain (OpenSpec.ofChange fnExactConsistencyCheckSpec)) fnExactConsistencyCheckCard

/-- THE SECOND FORM's CARD OF 'laws.FnExactLogHead'. -/
def fnExactLogHeadUptoCard : Claim7 := { stood := { row := fnExactLogHeadUptoRow, standIns := [], harness := (true, "e1c4ed1168c0f9704477c9d650ccd42b57a915a401a83badf43ac7d1ddd88a5f"), looks := false }, kinds := [], alts := [], laidByText := true, laidKinds := [.data], laidTests := true, laidLooks := .later }
def FnExactLogHeadUptoCardSaid : Prop := Claim7.holds Tryd.pinned (.plain (OpenSpec.upto fnExactLogHeadSpec)) fnExactLogHeadUptoCard

/-- THE SECOND FORM's CARD OF 'laws.FnExactInclusionCheck'. -/
def fnExactInclusionCheckUptoCard : Claim7 := { stood := { row := fnExactInclusionCheckUptoRow, standIns := [], harness := (true, "e1c4ed1168c0f9704477c9d650ccd42b57a915a401a83badf43ac7d1ddd88a5f"), looks := false }, kinds := [], alts := [], laidByText := true, laidKinds := [.data], laidTests := true, laidLooks := .later }
def FnExactInclusionCheckUptoCardSaid : Prop := Claim7.holds Tryd.pinned (.plain (OpenSpec.upto fnExactInclusionCheckSpec)) fnExactInclusionCheckUptoCard

/-- THE SECOND FORM's CARD OF 'laws.FnExactConsistencyCheck'. -/
def fnExactConsistencyCheckUptoCard : Claim7 := { stood := { row := fnExactConsistencyCheckUptoRow, standIns := [], harness := (true, "e1c4ed1168c0f9704477c9d650ccd42b57a915a401a83badf43ac7d1ddd88a5f"), looks := false }, kinds := [], alts := [], laidByText := true, laidKinds := [.data], laidTests := true, laidLooks := .later }
def FnExactConsistencyCheckUptoCardSaid : Prop := Claim7.holds Tryd.pinned (.plain (OpenSpec.upto fnExactConsistencyCheckSpec)) fnExactConsistencyCheckUptoCard
end Rows
end Go.Proofs.YtdfglpbappeoaaaDoor
