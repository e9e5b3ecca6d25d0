/-
  DERIVED. GIVEN WITH THE SEED: THE CARDS: each row of YtoaoaagfnkpkdaaDoorRows.lean that lists a variable, with what it lists TIED to the program's text (the seventh form; the later family's looks); each row that meets fmt, with fmt's text TOLD by the authors' own Lean function (tested against real Go, not proved from fmt's source: count such statements apart). THE CARD IS WHAT COUNTS. Prove the row's statement (the work); the ties are given (YtoaoaagfnkpkdaaDoorTie.lean); close each card by the builder's one call (the guide's Derived/Test/ToyasCard.lean, 'card_holds'). Laid BY PROGRAM, IN A SANDBOX (cutbox-door.mjs). By AI agents, Wed Nov 11 2026. No macro, syntax, notation, axiom, sorry.
-/
import Derived.Test.YtoaoaagfnkpkdaaDoorRows
import GoSem.ClaimSeven
namespace Go.Proofs.YtoaoaagfnkpkdaaDoor
namespace Rows

/-- THE TIED CARD OF 'laws.FnLeaves'. -/
def fnLeavesCard : Claim7 := { stood := { row := fnLeavesRow, standIns := [], harness := (true, "e1e2a7463006983c5e79c47425196a35692fd5fd700fb76e659188dbb6467300"), looks := false }, kinds := [], alts := [], laidByText := true, laidKinds := [.data], laidTests := true, laidLooks := .later }
def FnLeavesCardSaid : Prop := Claim7.holds Tryd.pinned (.plain (OpenSpec.ofChange fnLeavesSpec)) fnLeavesCard

/-- THE TIED CARD OF 'laws.FnOneLeaf'. -/
def fnOneLeafCard : Claim7 := { stood := { row := fnOneLeafRow, standIns := [], harness := (true, "e1e2a7463006983c5e79c47425196a35692fd5fd700fb76e659188dbb6467300"), looks := false }, kinds := [], alts := [], laidByText := true, laidKinds := [.data], laidTests := true, laidLooks := .later }
def FnOneLeafCardSaid : Prop := Claim7.holds Tryd.pinned (.plain (OpenSpec.ofChange fnOneLeafSpec)) fnOneLeafCard

/-- THE TIED CARD OF 'laws.FnOnePast'. -/
def fnOnePastCard : Claim7 := { stood := { row := fnOnePastRow, standIns := [], harness := (true, "e1e2a7463006983c5e79c47425196a35692fd5fd700fb76e659188dbb6467300"), looks := false }, kinds := [], alts := [], laidByText := true, laidKinds := [.data], laidTests := true, laidLooks := .later }
def FnOnePastCardSaid : Prop := Claim7.holds Tryd.pinned (.plain (OpenSpec.ofChange fnOnePastSpec)) fnOnePastCard

/-- THE TIED CARD OF 'laws.FnExactLeafHash'. -/
def fnExactLeafHashCard : Claim7 := { stood := { row := fnExactLeafHashRow, standIns := [], harness := (true, "e1e2a7463006983c5e79c47425196a35692fd5fd700fb76e659188dbb6467300"), looks := false }, kinds := [], alts := [], laidByText := true, laidKinds := [.data], laidTests := true, laidLooks := .later }
def FnExactLeafHashCardSaid : Prop := Claim7.holds Tryd.pinned (.plain (OpenSpec.ofChange fnExactLeafHashSpec)) fnExactLeafHashCard

/-- THE TIED CARD OF 'laws.FnExactNodeHash'. -/
def fnExactNodeHashCard : Claim7 := { stood := { row := fnExactNodeHashRow, standIns := [], harness := (true, "e1e2a7463006983c5e79c47425196a35692fd5fd700fb76e659188dbb6467300"), looks := false }, kinds := [], alts := [], laidByText := true, laidKinds := [.data], laidTests := true, laidLooks := .later }
def FnExactNodeHashCardSaid : Prop := Claim7.holds Tryd.pinned (.plain (OpenSpec.ofChange fnExactNodeHashSpec)) fnExactNodeHashCard

/-- THE TIED CARD OF 'laws.FnExactTreeRoot'. -/
def fnExactTreeRootCard : Claim7 := { stood := { row := fnExactTreeRootRow, standIns := [], harness := (true, "e1e2a7463006983c5e79c47425196a35692fd5fd700fb76e659188dbb6467300"), looks := false }, kinds := [], alts := [], laidByText := true, laidKinds := [.data], laidTests := true, laidLooks := .later }
def FnExactTreeRootCardSaid : Prop := Claim7.holds Tryd.pinned (.plain (OpenSpec.ofChange fnExactTreeRootSpec)) fnExactTreeRootCard

/-- THE TIED CARD OF 'laws.FnExactInclusionProof'. -/
def fnExactInclusionProofCard : Claim7 := { stood := { row := fnExactInclusionProofRow, standIns := [], harness := (true, "e1e2a7463006983c5e79c47425196a35692fd5fd700fb76e659188dbb6467300"), looks := false }, kinds := [], alts := [], laidByText := true, laidKinds := [.data], laidTests := true, laidLooks := .later }
def FnExactInclusionProofCardSaid : Prop := Claim7.holds Tryd.pinned (.plain (OpenSpec.ofChange fnExactInclusionProofSpec)) fnExactInclusionProofCard

/-- THE TIED CARD OF 'laws.FnExactInclusionCheck'. -/
def fnExactInclusionCheckCard : Claim7 := { stood := { row := fnExactInclusionCheckRow, standIns := [], harness := (true, "e1e2a7463006983c5e79c47425196a35692fd5fd700fb76e659188dbb6467300"), looks := false }, kinds := [], alts := [], laidByText := true, laidKinds := [.data], laidTests := true, laidLooks := .later }
def FnExactInclusionCheckCardSaid : Prop := Claim7.holds Tryd.pinned (.plain (OpenSpec.ofChange fnExactInclusionCheckSpec)) fnExactInclusionCheckCard

/-- THE TIED CARD OF 'laws.FnExactConsistencyProof'. -/
def fnExactConsistencyProofCard : Claim7 := { stood := { row := fnExactConsistencyProofRow, standIns := [], harness := (true, "e1e2a7463006983c5e79c47425196a35692fd5fd700fb76e659188dbb6467300"), looks := false }, kinds := [], alts := [], laidByText := true, laidKinds := [.data], laidTests := true, laidLooks := .later }
def FnExactConsistencyProofCardSaid : Prop := Claim7.holds Tryd.pinned (.plain (OpenSpec.ofChange fnExactConsistencyProofSpec)) fnExactConsistencyProofCard

/-- THE TIED CARD OF 'laws.FnExactConsistencyCheck'. -/
def fnExactConsistencyCheckCard : Claim7 := { stood := { row := fnExactConsistencyCheckRow, standIns := [], harness := (true, "e1e2a7463006983c5e79c47425196a35692fd5fd700fb76e659188dbb6467300"), looks := false }, kinds := [], alts := [], laidByText := true, laidKinds := [.data], laidTests := true, laidLooks := .later }
def FnExactConsistencyCheckCardSaid : Prop := Claim7.holds Tryd.pinned (.plain (OpenSpec.ofChange fnExactConsistencyCheckSpec)) fnExactConsistencyCheckCard

/-- THE SECOND FORM's CARD OF 'laws.FnLeaves'. -/
def fnLeavesUptoCard : Claim7 := { stood := { row := fnLeavesUptoRow, standIns := [], harness := (true, "e1e2a7463006983c5e79c47425196a35692fd5fd700fb76e659188dbb6467300"), looks := false }, kinds := [], alts := [], laidByText := true, laidKinds := [.data], laidTests := true, laidLooks := .later }
def FnLeavesUptoCardSaid : Prop := Claim7.holds Tryd.pinned (.plain (OpenSpec.upto fnLeavesSpec)) fnLeavesUptoCard

/-- THE SECOND FORM's CARD OF 'laws.FnOneLeaf'. -/
def fnOneLeafUptoCard : Claim7 := { stood := { row := fnOneLeafUptoRow, standIns := [], harness := (true, "e1e2a7463006983c5e79c47425196a35692fd5fd700fb76e659188dbb6467300"), looks := false }, kinds := [], alts := [], laidByText := true, laidKinds := [.data], laidTests := true, laidLooks := .later }
def FnOneLeafUptoCardSaid : Prop := Claim7.holds Tryd.pinned (.plain (OpenSpec.upto fnOneLeafSpec)) fnOneLeafUptoCard

/-- THE SECOND FORM's CARD OF 'laws.FnOnePast'. -/
def fnOnePastUptoCard : Claim7 := { stood := { row := fnOnePastUptoRow, standIns := [], harness := (true, "e1e2a7463006983c5e79c47425196a35692fd5fd700fb76e659188dbb6467300"), looks := false }, kinds := [], alts := [], laidByText := true, laidKinds := [.data], laidTests := true, laidLooks := .later }
def FnOnePastUptoCardSaid : Prop := Claim7.holds Tryd.pinned (.plain (OpenSpec.upto fnOnePastSpec)) fnOnePastUptoCard

/-- THE SECOND FORM's CARD OF 'laws.FnExactLeafHash'. -/
def fnExactLeafHashUptoCard : Claim7 := { stood := { row := fnExactLeafHashUptoRow, standIns := [], harness := (true, "e1e2a7463006983c5e79c47425196a35692fd5fd700fb76e659188dbb6467300"), looks := false }, kinds := [], alts := [], laidByText := true, laidKinds := [.data], laidTests := true, laidLooks := .later }
def FnExactLeafHashUptoCardSaid : Prop := Claim7.holds Tryd.pinned (.plain (OpenSpec.upto fnExactLeafHashSpec)) fnExactLeafHashUptoCard

/-- THE SECOND FORM's CARD OF 'laws.FnExactNodeHash'. -/
def fnExactNodeHashUptoCard : Claim7 := { stood := { row := fnExactNodeHashUptoRow, standIns := [], harness := (true, "e1e2a7463006983c5e79c47425196a35692fd5fd700fb76e659188dbb6467300"), looks := false }, kinds := [], alts := [], laidByText := true, laidKinds := [.data], laidTests := true, laidLooks := .later }
def FnExactNodeHashUptoCardSaid : Prop := Claim7.holds Tryd.pinned (.plain (OpenSpec.upto fnExactNodeHashSpec)) fnExactNodeHashUptoCard

/-- THE SECOND FORM's CARD OF 'laws.FnExactTreeRoot'. -/
def fnExactTreeRootUptoCard : Claim7 := { stood := { row := fnExactTreeRootUptoRow, standIns := [], harness := (true, "e1e2a7463006983c5e79c47425196a35692fd5fd700fb76e659188dbb6467300"), looks := false }, kinds := [], alts := [], laidByText := true, laidKinds := [.data], laidTests := true, laidLooks := .later }
def FnExactTreeRootUptoCardSaid : Prop := Claim7.holds Tryd.pinned (.plain (OpenSpec.upto fnExactTreeRootSpec)) fnExactTreeRootUptoCard

/-- THE SECOND FORM's CARD OF 'laws.FnExactInclusionProof'. -/
def fnExactInclusionProofUptoCard : Claim7 := { stood := { row := fnExactInclusionProofUptoRow, standIns := [], harness := (true, "e1e2a7463006983c5e79c47425196a35692fd5fd700fb76e659188dbb6467300"), looks := false }, kinds := [], alts := [], laidByText := true, laidKinds := [.data], laidTests := true, laidLooks := .later }
def FnExactInclusionProofUptoCardSaid : Prop := Claim7.holds Tryd.pinned (.plain (OpenSpec.upto fnExactInclusionProofSpec)) fnExactInclusionProofUptoCard

/-- THE SECOND FORM's CARD OF 'laws.FnExactInclusionCheck'. -/
def fnExactInclusionCheckUptoCard : Claim7 := { stood := { row := fnExactInclusionCheckUptoRow, standIns := [], harness := (true, "e1e2a7463006983c5e79c47425196a35692fd5fd700fb76e659188dbb6467300"), looks := false }, kinds := [], alts := [], laidByText := true, laidKinds := [.data], laidTests := true, laidLooks := .later }
def FnExactInclusionCheckUptoCardSaid : Prop := Claim7.holds Tryd.pinned (.plain (OpenSpec.upto fnExactInclusionCheckSpec)) fnExactInclusionCheckUptoCard

/-- THE SECOND FORM's CARD OF 'laws.FnExactConsistencyProof'. -/
def fnExactConsistencyProofUptoCard : Claim7 := { stood := { row := fnExactConsistencyProofUptoRow, standIns := [], harness := (true, "e1e2a7463006983c5e79c47425196a35692fd5fd700fb76e659188dbb6467300"), looks := false }, kinds := [], alts := [], laidByText := true, laidKinds := [.data], laidTests := true, laidLooks := .later }
def FnExactConsistencyProofUptoCardSaid : Prop := Claim7.holds Tryd.pinned (.plain (OpenSpec.upto fnExactConsistencyProofSpec)) fnExactConsistencyProofUptoCard

/-- THE SECOND FORM's CARD OF 'laws.FnExactConsistencyCheck'. -/
def fnExactConsistencyCheckUptoCard : Claim7 := { stood := { row := fnExactConsistencyCheckUptoRow, standIns := [], harness := (true, "e1e2a7463006983c5e79c47425196a35692fd5fd700fb76e659188dbb6467300"), looks := false }, kinds := [], alts := [], laidByText := true, laidKinds := [.data], laidTests := true, laidLooks := .later }
def FnExactConsistencyCheckUptoCardSaid : Prop := Claim7.holds Tryd.pinned (.plain (OpenSpec.upto fnExactConsistencyCheckSpec)) fnExactConsistencyCheckUptoCard
end Rows
end Go.Proofs.YtoaoaagfnkpkdaaDoor
