/- szHash and toHash: what they answer of a Hash that came in. -/
import Derived.Test.YtmahpmjkejnkfaaDoorToI
namespace Go.Proofs.YtmahpmjkejnkfaaDoor
open Go.RowKit
set_option linter.unusedVariables false
theorem RowV.far {w : World} {g b k : Nat} {l : List Value} {v : Value} (h : RowV w g l) (hne : g ≠ b) : RowV (w.setCell ⟨b, k, none⟩ v) g l :=
  h.same fun j => ⟨World.cell?_setCell_other w _ _ v (by intro e; injection e with e _ _; exact hne e.symm), World.frozen?_setCell ..⟩
theorem IAt.far {w : World} {g b k : Nat} {l : List Int} {v : Value} (h : IAt w (some ⟨g, 0, none⟩) l) (hne : g ≠ b) : IAt (w.setCell ⟨b, k, none⟩ v) (some ⟨g, 0, none⟩) l := fun hl => by
  obtain ⟨g', hg', hc⟩ := h hl
  injection hg' with hg'
  injection hg' with hg'
  subst hg'
  exact ⟨g, rfl, fun j hj => ⟨(World.cell?_setCell_other w _ _ v (by intro e; injection e with e _ _; exact hne e.symm)).trans (hc j hj).1, by rw [World.frozen?_setCell]; exact (hc j hj).2⟩⟩
def room (n m : Nat) : Int := if n ≤ 1048576 ∧ n + m ≤ 1048576 then 1048576 - n - m else -1
theorem szI_any (a : Option Addr) (c n : Nat) (w : World) (hn : n ≤ maxLen) :
    Calls Tryd.prog 20 #[.slice a n c, .int .i64 1048576] w fun e w' => e = .returned (.int .i64 (if n ≤ 1048576 then 1048576 - n else -1)) ∧ w' = w := by
  unfold maxLen at hn
  by_cases h : n ≤ 1048576
  · rw [if_pos h]
    go_enter Tryd.func20, Tryd.ntmps20
    go_wp2
    go_ret
    exact ⟨rfl, rfl⟩
  · rw [if_neg h]
    have hlt : (1048576 : Int) - n < 0 := by omega
    go_enter Tryd.func20, Tryd.ntmps20
    go_wp2
    go_ret
    exact ⟨rfl, rfl⟩
end Go.Proofs.YtmahpmjkejnkfaaDoor
