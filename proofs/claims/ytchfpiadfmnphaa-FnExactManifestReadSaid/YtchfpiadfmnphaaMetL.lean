/- The bytes of a link, on the specification's side. -/
import Derived.Test.YtchfpiadfmnphaaMet
import Derived.Test.YtchfpiadfmnphaaJn2
import Derived.Test.YtchfpiadfmnphaaSRow
import Derived.Deep.RegionHeld3
namespace Go.Proofs.Ytchfpiadfmnphaa
open Go.RowKit
set_option linter.unusedVariables false

def kindB (k : Int) : ByteArray := if k = 2 then ⟨#[80]⟩ else if k = 3 then ⟨#[77]⟩ else ⟨#[]⟩
def lkv (v e x : Int) : List Value := [.int .i64 v, .int .i64 e, .int .i64 x]
theorem RowV.lk {w : World} {g : Nat} {v e x : Int} (h : RowV w g (lkv v e x)) : w.cell? ⟨g, 0, none⟩ = some (.int .i64 v) ∧ w.cell? ⟨g, 1, none⟩ = some (.int .i64 e) ∧ w.cell? ⟨g, 2, none⟩ = some (.int .i64 x) := ⟨h.cell (k := 0) rfl, h.cell (k := 1) rfl, h.cell (k := 2) rfl⟩
theorem lkv_ne (v e x : Int) : lkv v e x ≠ [] := by simp [lkv]
def linkB (v e x : Int) : Bool := verB v && (timB e && verB x)
def linkBy (k v e x : Int) : ByteArray := if (k = 2 ∨ k = 3) ∧ linkB v e x = true then ((kindB k ++ putS v) ++ putS e) ++ putS x else ⟨#[]⟩
structure KpLk (w : World) (g : Nat) (v e x : Int) (w' : World) : Prop where
  below : Below w.heap.size w w'
  row : RowV w' g (lkv v e x)
theorem KpLk.start {w w' : World} {g : Nat} {v e x : Int} (h1 : Below w.heap.size w w') (h2 : RowV w' g (lkv v e x)) : Hid (KpLk w g v e x w') := ⟨h1, h2⟩
theorem KpLk.call {w w' w2 : World} {g : Nat} {v e x : Int} (h : Hid (KpLk w g v e x w')) (hb : Below w'.heap.size w' w2) : Hid (KpLk w g v e x w2) := ⟨h.out.below.trans (hb.mono h.out.below.size), h.out.row.below hb (h.out.row.lt (lkv_ne _ _ _))⟩
theorem KpLk.drew {w w' : World} {g : Nat} {v e x : Int} (h : Hid (KpLk w g v e x w')) : Hid (KpLk w g v e x w'.drew) := ⟨h.out.below.drew, h.out.row.drew⟩
theorem KpLk.three {w w' : World} {g : Nat} {v e x : Int} (h : Hid (KpLk w g v e x w')) : w'.cell? ⟨g, 0, none⟩ = some (.int .i64 v) ∧ w'.cell? ⟨g, 1, none⟩ = some (.int .i64 e) ∧ w'.cell? ⟨g, 2, none⟩ = some (.int .i64 x) ∧ Hid (KpLk w g v e x w') := ⟨h.out.row.lk.1, h.out.row.lk.2.1, h.out.row.lk.2.2, h⟩
end Go.Proofs.Ytchfpiadfmnphaa
