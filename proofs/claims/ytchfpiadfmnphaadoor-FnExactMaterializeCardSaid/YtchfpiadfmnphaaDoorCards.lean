/-
  DERIVED. GIVEN WITH THE SEED: THE CARDS: each row of YtchfpiadfmnphaaDoorRows.lean that lists a variable, with what it lists TIED to the program's text (the seventh form; the later family's looks); each row that meets fmt, with fmt's text TOLD by the authors' own Lean function (tested against real Go, not proved from fmt's source: count such statements apart). THE CARD IS WHAT COUNTS. Prove the row's statement (the work); the ties are given (YtchfpiadfmnphaaDoorTie.lean); close each card by the builder's one call (the guide's Derived/Test/ToyasCard.lean, 'card_holds'). Laid BY PROGRAM, IN A SANDBOX (cutbox-door.mjs). By AI agents, Wed Nov 11 2026. No macro, syntax, notation, axiom, sorry.
-/
import Derived.Test.YtchfpiadfmnphaaDoorRows
import GoSem.ClaimSeven
namespace Go.Proofs.YtchfpiadfmnphaaDoor
namespace Rows

/-- THE TIED CARD OF 'laws.FnExactStoreRight'. -/
def fnExactStoreRightCard : Claim7 := { stood := { row := fnExactStoreRightRow, standIns := [], harness := (true, "484cb26523f91acb09673cfffaffb64096971f7ecfede7aa8cd8ecca30d492ae"), looks := false }, kinds := [], alts := [], laidByText := true, laidKinds := [.data], laidTests := true, laidLooks := .later }
def FnExactStoreRightCardSaid : Prop := Claim7.holds Tryd.pinned (.plain (OpenSpec.ofChange fnExactStoreRightSpec)) fnExactStoreRightCard

/-- THE TIED CARD OF 'laws.FnExactStoreGet'. -/
def fnExactStoreGetCard : Claim7 := { stood := { row := fnExactStoreGetRow, standIns := [], harness := (true, "484cb26523f91acb09673cfffaffb64096971f7ecfede7aa8cd8ecca30d492ae"), looks := false }, kinds := [], alts := [], laidByText := true, laidKinds := [.data], laidTests := true, laidLooks := .later }
def FnExactStoreGetCardSaid : Prop := Claim7.holds Tryd.pinned (.plain (OpenSpec.ofChange fnExactStoreGetSpec)) fnExactStoreGetCard

/-- THE TIED CARD OF 'laws.FnExactMaterialize'. -/
def fnExactMaterializeCard : Claim7 := { stood := { row := fnExactMaterializeRow, standIns := [], harness := (true, "484cb26523f91acb09673cfffaffb64096971f7ecfede7aa8cd8ecca30d492ae"), looks := false }, kinds := [], alts := [], laidByText := true, laidKinds := [.data], laidTests := true, laidLooks := .later }
def FnExactMaterializeCardSaid : Prop := Claim7.holds Tryd.pinned (.plain (OpenSpec.ofChange fnExactMaterializeSpec)) fnExactMaterializeCard

/-- THE TIED CARD OF 'laws.FnExactStorePut'. -/
def fnExactStorePutCard : Claim7 := { stood := { row := fnExactStorePutRow, standIns := [], harness := (true, "484cb26523f91acb09673cfffaffb64096971f7ecfede7aa8cd8ecca30d492ae"), looks := false }, kinds := [], alts := [], laidByText := true, laidKinds := [.data], laidTests := true, laidLooks := .later }
def FnExactStorePutCardSaid : Prop := Claim7.holds Tryd.pinned (.plain (OpenSpec.ofChange fnExactStorePutSpec)) fnExactStorePutCard

/-- THE SECOND FORM's CARD OF 'laws.FnExactStoreRight'. -/
def fnExactStoreRightUptoCard : Claim7 := { stood := { row := fnExactStoreRightUptoRow, standIns := [], harness := (true, "484cb26523f91acb09673cfffaffb64096971f7ecfede7aa8cd8ecca30d492ae"), looks := false }, kinds := [], alts := [], laidByText := true, laidKinds := [.data], laidTests := true, laidLooks := .later }
def FnExactStoreRightUptoCardSaid : Prop := Claim7.holds Tryd.pinned (.plain (OpenSpec.upto fnExactStoreRightSpec)) fnExactStoreRightUptoCard

/-- THE SECOND FORM's CARD OF 'laws.FnExactStoreGet'. -/
def fnExactStoreGetUptoCard : Claim7 := { stood := { row := fnExactStoreGetUptoRow, standIns := [], harness := (true, "484cb26523f91acb09673cfffaffb64096971f7ecfede7aa8cd8ecca30d492ae"), looks := false }, kinds := [], alts := [], laidByText := true, laidKinds := [.data], laidTests := true, laidLooks := .later }
def FnExactStoreGetUptoCardSaid : Prop := Claim7.holds Tryd.pinned (.plain (OpenSpec.upto fnExactStoreGetSpec)) fnExactStoreGetUptoCard

/-- THE SECOND FORM's CARD OF 'laws.FnExactMaterialize'. -/
def fnExactMaterializeUptoCard : Claim7 := { stood := { row := fnExactMaterializeUptoRow, standIns := [], harness := (true, "484cb26523f91acb09673cfffaffb64096971f7ecfede7aa8cd8ecca30d492ae"), looks := false }, kinds := [], alts := [], laidByText := true, laidKinds := [.data], laidTests := true, laidLooks := .later }
def FnExactMaterializeUptoCardSaid : Prop := Claim7.holds Tryd.pinned (.plain (OpenSpec.upto fnExactMaterializeSpec)) fnExactMaterializeUptoCard

/-- THE SECOND FORM's CARD OF 'laws.FnExactStorePut'. -/
def fnExactStorePutUptoCard : Claim7 := { stood := { row := fnExactStorePutUptoRow, standIns := [], harness := (true, "484cb26523f91acb09673cfffaffb64096971f7ecfede7aa8cd8ecca30d492ae"), looks := false }, kinds := [], alts := [], laidByText := true, laidKinds := [.data], laidTests := true, laidLooks := .later }
def FnExactStorePutUptoCardSaid : Prop := Claim7.holds Tryd.pinned (.plain (OpenSpec.upto fnExactStorePutSpec)) fnExactStorePutUptoCard
end Rows
end Go.Proofs.YtchfpiadfmnphaaDoor
