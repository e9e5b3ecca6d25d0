/- The argument's variable and the copy's, held over calls; numbers of a right Hash. -/
import Derived.Test.YthmlfohgbkkbjaaDoorToH
import Derived.Test.YthmlfohgbkkbjaaDoorRightI
import Derived.Test.YthmlfohgbkkbjaaDoorRightS
import Derived.Test.YthmlfohgbkkbjaaDoorWords
import Derived.Deep.RegionHeld3
namespace Go.Proofs.YthmlfohgbkkbjaaDoor
open Go.RowKit
set_option linter.unusedVariables false
/- The argument's variable and its numbers; the copy's variable and its numbers. -/
structure Two (w : World) (b1 b5 : Nat) (a : Option Addr) (g5 c n : Nat) (l : List Int) (s : ByteArray) (z : Int) : Prop where
  v1 : RowV w b1 (hvs a n c s z)
  v5 : RowV w b5 (hvs (some ⟨g5, 0, none⟩) n n s z)
  i5 : IAt w (some ⟨g5, 0, none⟩) l
  ai : AI w a l
theorem Two.below {w w' : World} {b1 b5 g5 c n : Nat} {a : Option Addr} {l : List Int} {s : ByteArray} {z : Int} (h : Two w b1 b5 a g5 c n l s z) (hb : Below w.heap.size w w') : Two w' b1 b5 a g5 c n l s z :=
  ⟨h.v1.below hb (h.v1.lt (hvs_ne _ _ _ _ _)), h.v5.below hb (h.v5.lt (hvs_ne _ _ _ _ _)), h.i5.below hb, h.ai.below hb⟩
theorem Two.drew {w : World} {b1 b5 g5 c n : Nat} {a : Option Addr} {l : List Int} {s : ByteArray} {z : Int} (h : Two w b1 b5 a g5 c n l s z) : Two w.drew b1 b5 a g5 c n l s z := h.below (Below.refl _ _).drew


/- The eight words of a right Hash. -/
def rOf (l : List Int) : R8 := ⟨UInt32.ofNat (l.getD 0 0).toNat, UInt32.ofNat (l.getD 1 0).toNat, UInt32.ofNat (l.getD 2 0).toNat, UInt32.ofNat (l.getD 3 0).toNat, UInt32.ofNat (l.getD 4 0).toNat, UInt32.ofNat (l.getD 5 0).toNat, UInt32.ofNat (l.getD 6 0).toNat, UInt32.ofNat (l.getD 7 0).toNat⟩
theorem okN_back {x : Int} (h : okN x) : ((UInt32.ofNat x.toNat).toNat : Int) = x := by
  obtain ⟨h1, h2⟩ := h
  simp
  omega
theorem rOf_ints {l : List Int} (hl : l.length = 8) (h : ∀ x ∈ l, okN x) : (rOf l).ints = l := by
  match l, hl, h with
  | [a, b, c, d, e, f, g, i], _, h =>
    simp only [rOf, R8.ints, R8.list, List.map, List.getD_cons_zero, List.getD_cons_succ]
    rw [okN_back (h a (by simp)), okN_back (h b (by simp)), okN_back (h c (by simp)), okN_back (h d (by simp)), okN_back (h e (by simp)), okN_back (h f (by simp)), okN_back (h g (by simp)), okN_back (h i (by simp))]
theorem Right.nat {l : List Int} {s : ByteArray} {z : Int} (h : Right l s z) : ∃ Z : Nat, z = (Z : Int) ∧ Z ≤ 1099511627776 ∧ s.size = Z % 64 ∧ (rOf l).ints = l ∧ l.length = 8 := by
  obtain ⟨h1, h2, h3, h4, h5⟩ := h
  obtain ⟨Z, rfl⟩ := Int.eq_ofNat_of_zero_le h2
  refine ⟨Z, rfl, by omega, ?_, rOf_ints h1 h5, h1⟩
  rw [Int.tmod_eq_emod_of_nonneg (by omega)] at h4
  omega
end Go.Proofs.YthmlfohgbkkbjaaDoor
