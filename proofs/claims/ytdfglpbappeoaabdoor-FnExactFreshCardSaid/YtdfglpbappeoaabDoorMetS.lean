/- What is signed, on the specification's side: its signatures lie in a row of three cells each. -/
import Derived.Test.YtdfglpbappeoaabDoorMetB
import Derived.Test.YtdfglpbappeoaabDoorSigR
namespace Go.Proofs.YtdfglpbappeoaabDoor
open Go.RowKit
set_option linter.unusedVariables false

structure SigV where
  k : Int
  e : Int
  s : Int
def SigV.ok (x : SigV) : Bool := sigB x.k x.e x.s
def SigV.w (x : SigV) : Prop := I64 x.k ∧ I64 x.e ∧ I64 x.s
def SgsAt (w : World) (a : Option Addr) (l : List SigV) : Prop := ∀ i (h : i < l.length), ∃ b o, a = some ⟨b, o, none⟩ ∧ w.cell? ⟨b, o + i * 3, none⟩ = some (.int .i64 l[i].k) ∧ w.cell? ⟨b, o + i * 3 + 1, none⟩ = some (.int .i64 l[i].e) ∧ w.cell? ⟨b, o + i * 3 + 2, none⟩ = some (.int .i64 l[i].s)
theorem SgsAt.below {w w' : World} {a : Option Addr} {l : List SigV} (h : SgsAt w a l) (hb : Below w.heap.size w w') : SgsAt w' a l := fun i hi => by
  obtain ⟨b, o, h1, h2, h3, h4⟩ := h i hi
  exact ⟨b, o, h1, (hb.cell (p := ⟨b, o + i * 3, none⟩) (cellLt h2)).trans h2, (hb.cell (p := ⟨b, o + i * 3 + 1, none⟩) (cellLt h3)).trans h3, (hb.cell (p := ⟨b, o + i * 3 + 2, none⟩) (cellLt h4)).trans h4⟩
def signedB (t : ByteArray) (l : List SigV) : Bool := decide (t.size ≤ 8000 ∧ l.length ≤ 16) && l.all SigV.ok
theorem sigs_yes {l : List SigV} (h : ∀ k (hk : k < l.length), l[k].ok = true) : l.all SigV.ok = true := by
  rw [List.all_eq_true]
  intro x hx
  obtain ⟨k, hk, rfl⟩ := List.mem_iff_getElem.1 hx
  exact h k hk
theorem sigs_no {l : List SigV} {k : Nat} (hk : k < l.length) (h : l[k].ok = false) : l.all SigV.ok = false := by
  cases ho : l.all SigV.ok with
  | false => rfl
  | true =>
    rw [List.all_eq_true] at ho
    have := ho _ (List.getElem_mem hk)
    rw [h] at this
    cases this
def sgv (t : ByteArray) (a : Option Addr) (n c : Nat) : List Value := [.string t, .slice a n c]
theorem RowV.sg {w : World} {g : Nat} {t : ByteArray} {a : Option Addr} {n c : Nat} (h : RowV w g (sgv t a n c)) : w.cell? ⟨g, 0, none⟩ = some (.string t) ∧ w.cell? ⟨g, 1, none⟩ = some (.slice a n c) := ⟨h.cell (k := 0) rfl, h.cell (k := 1) rfl⟩
theorem sgv_ne (t : ByteArray) (a : Option Addr) (n c : Nat) : sgv t a n c ≠ [] := by simp [sgv]
structure KpSg (w : World) (g : Nat) (t : ByteArray) (a : Option Addr) (n c : Nat) (l : List SigV) (w' : World) : Prop where
  below : Below w.heap.size w w'
  row : RowV w' g (sgv t a n c)
  sg : SgsAt w' a l
theorem KpSg.start {w w' : World} {g : Nat} {t : ByteArray} {a : Option Addr} {n c : Nat} {l : List SigV} (h : Hid (SgsAt w a l)) (h1 : Below w.heap.size w w') (h2 : RowV w' g (sgv t a n c)) : Hid (KpSg w g t a n c l w') := ⟨h1, h2, h.out.below h1⟩
theorem KpSg.call {w w' w2 : World} {g : Nat} {t : ByteArray} {a : Option Addr} {n c : Nat} {l : List SigV} (h : Hid (KpSg w g t a n c l w')) (hb : Below w'.heap.size w' w2) : Hid (KpSg w g t a n c l w2) :=
  ⟨h.out.below.trans (hb.mono h.out.below.size), h.out.row.below hb (h.out.row.lt (sgv_ne _ _ _ _)), h.out.sg.below hb⟩
theorem KpSg.drew {w w' : World} {g : Nat} {t : ByteArray} {a : Option Addr} {n c : Nat} {l : List SigV} (h : Hid (KpSg w g t a n c l w')) : Hid (KpSg w g t a n c l w'.drew) := ⟨h.out.below.drew, h.out.row.drew, h.out.sg⟩
theorem KpSg.two {w w' : World} {g : Nat} {t : ByteArray} {a : Option Addr} {n c : Nat} {l : List SigV} (h : Hid (KpSg w g t a n c l w')) : w'.cell? ⟨g, 0, none⟩ = some (.string t) ∧ w'.cell? ⟨g, 1, none⟩ = some (.slice a n c) ∧ Hid (KpSg w g t a n c l w') := ⟨h.out.row.sg.1, h.out.row.sg.2, h⟩
end Go.Proofs.YtdfglpbappeoaabDoor
