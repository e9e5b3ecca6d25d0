/- szHash and toHash: what they answer of a Hash that came in. -/
import Derived.Test.YtchfpiadfmnphaaDoorToI
namespace Go.Proofs.YtchfpiadfmnphaaDoor
open Go.RowKit
set_option linter.unusedVariables false
theorem RowV.far {w : World} {g b k : Nat} {l : List Value} {v : Value} (h : RowV w g l) (hne : g ≠ b) : RowV (w.setCell ⟨b, k, none⟩ v) g l :=
  h.same fun j => ⟨World.cell?_setCell_other w _ _ v (by intro e; injection e with e _ _; exact hne e.symm), World.frozen?_setCell ..⟩
theorem IAt.far {w : World} {g b k : Nat} {l : List Int} {v : Value} (h : IAt w (some ⟨g, 0, none⟩) l) (hne : g ≠ b) : IAt (w.setCell ⟨b, k, none⟩ v) (some ⟨g, 0, none⟩) l := fun hl => by
  obtain ⟨g', hg', hc⟩ := h hl
  injection hg' with hg'
  injection hg' with hg'
  subst hg'
  exact ⟨g, rfl, fun j hj => ⟨(World.cell?_setCell_other w _ _ v (by intro e; injection e with e _ _; exact hne e.symm)).trans (hc j hj).1, by rw [World.frozen?_setCell]; exact (hc j hj).2⟩⟩
def room (n m : Nat) : Int := if n ≤ 1048576 ∧ n + m ≤ 1048576 then 1048576 - n - m else -1
end Go.Proofs.YtchfpiadfmnphaaDoor
