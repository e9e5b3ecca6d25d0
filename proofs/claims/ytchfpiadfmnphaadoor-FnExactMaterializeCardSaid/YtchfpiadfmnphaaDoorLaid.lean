/- What the rows' listed variable gives the walks: the numbers of the rounds lie in its block. -/
import Derived.Test.YtchfpiadfmnphaaDoorJn23
import Derived.Lib.LaidTab
import Derived.MakeChecks
import Derived.Carry
import Derived.OpenVars
import Derived.Lay
namespace Go.Proofs.YtchfpiadfmnphaaDoor
open Go.RowKit
set_option linter.unusedVariables false

def keyI : List Int := keys.map fun x => (x.toNat : Int)
abbrev keyName : String := Rows.fnExactStoreRightSpec.vars.headD default
abbrev laidL : List (String × DataW Unit) := Rows.fnExactStoreRightRow.laid
theorem keyI_cells : (keyI.map fun z => Value.int .u32 z).toArray = (us keys).toArray := by
  unfold keyI us; rw [List.map_map]; rfl
theorem laid_eq : (Rows.laid_loop_example_g00279_impl_roundNumbers : DataW Unit) = Lib.tabData .u32 keyI := by rfl
theorem gKeys : Tryd.prog.globalNamed keyName = some 0 := by kernel_rfl
theorem tKeys : (Tryd.prog.globals[(0 : Nat)]?).map (·.type) = some 166 := by kernel_rfl
theorem laidOut : laidOutB Tryd.prog = true := by kernel_rfl
theorem rowed : varsRowed Tryd.prog Rows.fnExactStoreRightSpec.vars = true := by kernel_rfl
theorem keys_of_laid {W : World} (h : laidMetH Tryd.prog laidL W) : ArrU W 0 keys ∧ 0 < W.heap.size := by
  rw [MakeChecks.laidMetH_plain _ _ _ (by kernel_rfl)] at h
  have ht : Lib.TabIs Tryd.prog W keyName .u32 keyI :=
    Lib.tabIs_of_head (rest := []) gKeys tKeys Tryd.underlying166 Tryd.underlying127 (by kernel_rfl) (by kernel_rfl) (by rw [← laid_eq]; exact h)
  unfold Lib.TabIs at ht
  rw [keyI_cells] at ht
  obtain ⟨ps, ⟨g, t, cs, fuel, p, q, hg, _, hvar, _, _, he⟩, _, hfr⟩ := h
  obtain rfl := Option.some.inj (gKeys.symm.trans hg)
  obtain rfl := Option.some.inj (hvar.symm.trans ht)
  obtain ⟨c, t, hb⟩ := (hfr 0 0 (by
    rw [he]
    simp [MemPlace.row, us, keys])).1
  unfold World.var? at ht
  rw [gKeys] at ht
  simp only [Option.bind_some, hb, Option.some.injEq] at ht
  subst ht
  exact ⟨ArrU.of_block hb, (Array.getElem?_eq_some_iff.1 hb).1⟩
end Go.Proofs.YtchfpiadfmnphaaDoor
