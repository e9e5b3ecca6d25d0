/- Marks in texts: what the laws' helpers markText, markStringS, heldStringS answer. Proofs with a code beside them: what the laws' helpers eqProofOut, markProofOut, heldProofOut answer. -/
import Derived.Test.YtdfglpbappeoaabDoorOwnS
import Derived.Test.YtdfglpbappeoaabDoorOwn
import Derived.Test.YtdfglpbappeoaabDoorMrkT
namespace Go.Proofs.YtdfglpbappeoaabDoor
open Go.RowKit
set_option linter.unusedVariables false

/- The digits of a number ahead of a text. -/
def mks (k n : Nat) : List ByteArray := (List.range n).map fun i => mkT (k + i)
theorem mks_length (k n : Nat) : (mks k n).length = n := by unfold mks; rw [List.length_map, List.length_range]
theorem mks_get {k n i : Nat} (h : i < (mks k n).length) : (mks k n)[i] = mkT (k + i) := by simp [mks]
theorem mks_succ (k n : Nat) : mks k (n + 1) = mks k n ++ [mkT (k + n)] := by unfold mks; rw [List.range_succ, List.map_append]; rfl
theorem mks_set (k : Nat) (l : List ByteArray) {i : Nat} (h : i < l.length) : mks k (i + 1) ++ l.drop (i + 1) = (mks k i ++ l.drop i).set i (mkT (k + i)) := by
  rw [List.set_append_right _ _ (by rw [mks_length]; exact Nat.le_refl _), mks_length, Nat.sub_self, List.drop_eq_getElem_cons h, List.set_cons_zero, mks_succ, List.append_assoc]
  rfl
structure KpM (w : World) (b o : Nat) (x : ByteArray) (w' : World) : Prop where
  cell : w'.cell? ⟨b, o, none⟩ = some (.string x)
  below : Below w.heap.size w w'
theorem KpM.two {w w' : World} {b o : Nat} {x : ByteArray} (h : Hid (KpM w b o x w')) : w'.cell? ⟨b, o, none⟩ = some (.string x) ∧ Hid (KpM w b o x w') := ⟨h.out.cell, h⟩
theorem KpM.drewN {w w' : World} {b o : Nat} {x : ByteArray} (h : Hid (KpM w b o x w')) (n : Nat) : Hid (KpM w b o x (w'.drewN n)) := ⟨h.out.cell, belowN h.out.below n⟩
theorem KpM.hid {w w' w2 : World} {b o : Nat} {x : ByteArray} (h : Hid (KpM w b o x w')) (h2 : Below w'.heap.size w' w2) : Hid (KpM w b o x w2) :=
  ⟨(h2.cell (p := ⟨b, o, none⟩) (cellLt h.out.cell)).trans h.out.cell, h.out.below.trans (h2.mono h.out.below.size)⟩
end Go.Proofs.YtdfglpbappeoaabDoor
namespace Go.Proofs.YtdfglpbappeoaabDoor
open Go.RowKit
set_option linter.unusedVariables false

def pvl (v : Value) (z : Int) : List Value := [v, .int .i64 z]
theorem RowV.pvl {w : World} {g : Nat} {v : Value} {z : Int} (h : RowV w g (pvl v z)) : w.cell? ⟨g, 0, none⟩ = some v ∧ w.cell? ⟨g, 1, none⟩ = some (.int .i64 z) := ⟨h.cell rfl, h.cell rfl⟩
end Go.Proofs.YtdfglpbappeoaabDoor
