/- A slice of structs among the arguments: each element's cells, with what they read as. -/
import Derived.Test.YtaalegjhhpfhbaaIntRow
import Derived.SliceStrings
import Derived.Lib.SmallJoins
import Derived.Below
namespace Go.Proofs.Ytaalegjhhpfhbaa
open Go.RowKit
set_option linter.unusedVariables false

theorem mapM_some {α β : Type} {f : α → Option β} : ∀ (l : List α) (r : List β), l.mapM f = some r → r.length = l.length ∧ ∀ (j : Nat) (h : j < l.length), f l[j] = r[j]?
  | [], r, h => by
    simp at h
    subst h
    exact ⟨rfl, fun j hj => absurd hj (Nat.not_lt_zero _)⟩
  | x :: l, r, h => by
    rw [List.mapM_cons] at h
    cases hx : f x with
    | none => rw [hx] at h; cases h
    | some y =>
      cases hl : l.mapM f with
      | none => rw [hx, hl] at h; cases h
      | some r' =>
        rw [hx, hl] at h
        have hr : r = y :: r' := by
          have : some (y :: r') = some r := h
          exact (Option.some.inj this).symm
        subst hr
        obtain ⟨h1, h2⟩ := mapM_some l r' hl
        refine ⟨by rw [List.length_cons, List.length_cons, h1], fun j hj => ?_⟩
        match j with
        | 0 => exact hx
        | j + 1 => exact h2 j (by simpa using hj)
theorem cells_at {w : World} {base k : Nat} {a : Addr} {cs : List Value} (h : w.cells? base a k = some cs) : cs.length = k ∧ ∀ j, j < k → w.cell? (a.add j) = cs[j]? := by
  unfold World.cells? at h
  split at h
  · obtain ⟨h1, h2⟩ := mapM_some _ _ h
    rw [List.length_range] at h1
    refine ⟨h1, fun j hj => ?_⟩
    have := h2 j (by rw [List.length_range]; exact hj)
    rw [List.getElem_range] at this
    exact this
  · cases h
/- Elements of k cells each, of which R holds. -/
def EA (w : World) (a : Option Addr) (k n : Nat) (R : List Value → Prop) : Prop := ∀ i, i < n → ∃ b o cs, a = some ⟨b, o, none⟩ ∧ cs.length = k ∧ (∀ j, j < k → w.cell? ⟨b, o + i * k + j, none⟩ = cs[j]?) ∧ R cs
theorem add_at (b o i : Nat) : (⟨b, o, none⟩ : Addr).add i = ⟨b, o + i, none⟩ := by unfold Addr.add; split <;> simp_all
theorem open_elems {H : Type} {enc : TypeId × Value → H} {P : Program} {w : World} {base : Nat} {spare : Nat → Bool} {held : Bool} {t e : TypeId} {fuel k : Nat} {cs : List Value} {x : DataW H × List MemPlace} (ht : P.underlying t = some (.slice e)) (hc : P.cellsOf e = k) (hk : 0 < k) (R : List Value → Prop)
    (hR : ∀ fuel cs y, DataW.trod enc P w base spare held fuel e cs = some y → R cs) (h : DataW.trod enc P w base spare held fuel t cs = some x) :
    ∃ (a : Option Addr) (n c : Nat), cs = [.slice a n c] ∧ n ≤ c ∧ c ≤ maxLen ∧ EA w a k n R := by
  rcases DataW.trod_slice ht h with ⟨h0, _⟩ | ⟨a, len, cap, elems, rest, n, _, rfl, rfl, hb, hl, hm, hlen, hel, _, _⟩
  · exact ⟨none, 0, 0, h0, Nat.le_refl _, by unfold maxLen; omega, fun i hi => absurd hi (Nat.not_lt_zero _)⟩
  · refine ⟨some a, len, cap, rfl, hl, hm, fun i hi => ?_⟩
    have hy0 := hel 0 (by omega)
    rw [List.getElem?_eq_getElem (by omega), Option.bind_eq_some_iff, hc] at hy0
    obtain ⟨cs0, hcs0, _⟩ := hy0
    obtain ⟨k1, k2⟩ := cells_at hcs0
    have h0 := k2 0 hk
    obtain ⟨b, o, sp⟩ := a
    have hsp : sp = none := by
      rw [List.getElem?_eq_getElem (by omega)] at h0
      have h3 := World.cell?_spot h0
      simpa [Addr.add] using h3
    subst hsp
    have hy := hel i hi
    rw [List.getElem?_eq_getElem (by omega), Option.bind_eq_some_iff, hc] at hy
    obtain ⟨cs', hcs, hy'⟩ := hy
    obtain ⟨h1, h2⟩ := cells_at hcs
    refine ⟨b, o, cs', rfl, h1, fun j hj => ?_, hR _ _ _ hy'⟩
    have := h2 j hj
    rw [add_at, add_at] at this
    exact this
theorem EA.below {w w' : World} {a : Option Addr} {k n : Nat} {R : List Value → Prop} (h : EA w a k n R) (hb : Below w.heap.size w w') : EA w' a k n R := fun i hi => by
  obtain ⟨b, o, cs, h1, h2, h3, h4⟩ := h i hi
  refine ⟨b, o, cs, h1, h2, fun j hj => ?_, h4⟩
  have := h3 j hj
  rw [List.getElem?_eq_getElem (by omega)] at this ⊢
  exact (hb.cell (p := ⟨b, o + i * k + j, none⟩) (cellLt this)).trans this
end Go.Proofs.Ytaalegjhhpfhbaa
