/- What a text says of a manifest. -/
import Derived.Test.YtchfpiadfmnphaaCu4
import Derived.Test.YtchfpiadfmnphaaMfM
import Derived.Test.YtchfpiadfmnphaaJn4
import Derived.Test.YtchfpiadfmnphaaJn6
namespace Go.Proofs.Ytchfpiadfmnphaa
open Go.RowKit
set_option linter.unusedVariables false

def laysO (t : ByteArray) : Nat → Nat → Option (List LayV × Nat)
  | 0, p => some ([], p)
  | m + 1, p => match bytesO t p 32 with
    | none => none
    | some (a, b1) => match numO t b1 with
      | none => none
      | some (c, b2) => match laysO t m b2 with
        | none => none
        | some (l, q) => some (⟨a, c⟩ :: l, q)
def labsO (t : ByteArray) : Nat → Nat → Option (List LabV × Nat)
  | 0, p => some ([], p)
  | m + 1, p => match textO t p with
    | none => none
    | some (a, b1) => match textO t b1 with
      | none => none
      | some (c, b2) => match labsO t m b2 with
        | none => none
        | some (l, q) => some (⟨a, c⟩ :: l, q)
abbrev MfRes := ByteArray × List LayV × List LabV × Nat
noncomputable def restBs (t nm : ByteArray) (ls : List LayV) (l1 : List LabV) (m p : Nat) : Option MfRes := match labsO t m p with
  | none => none
  | some (l2, q) => if boolP (ManOk nm ls (l1 ++ l2)) = true then some (nm, ls, l1 ++ l2, q) else none
noncomputable def restC (t nm : ByteArray) (ls : List LayV) (p : Nat) : Option MfRes := match countO t p 10 with
  | none => none
  | some (k, b) => restBs t nm ls [] k b
noncomputable def restLs (t nm : ByteArray) (l1 : List LayV) (m p : Nat) : Option MfRes := match laysO t m p with
  | none => none
  | some (l2, q) => restC t nm (l1 ++ l2) q
noncomputable def manO (t : ByteArray) (p : Nat) : Option MfRes := match textO t p with
  | none => none
  | some (nm, b1) => match countO t b1 10 with
    | none => none
    | some (k, b2) => restLs t nm [] k b2
theorem restBs_yes {t nm : ByteArray} {ls : List LayV} {l1 : List LabV} {p : Nat} (h : boolP (ManOk nm ls l1) = true) : restBs t nm ls l1 0 p = some (nm, ls, l1, p) := by
  unfold restBs labsO
  simp [h]
theorem restBs_no {t nm : ByteArray} {ls : List LayV} {l1 : List LabV} {p : Nat} (h : boolP (ManOk nm ls l1) = false) : restBs t nm ls l1 0 p = none := by
  unfold restBs labsO
  simp [h]
theorem restBs_step {t nm : ByteArray} {ls : List LayV} {l1 : List LabV} {m p b1 b2 : Nat} {a c : ByteArray} (h1 : textO t p = some (a, b1)) (h2 : textO t b1 = some (c, b2)) : restBs t nm ls l1 (m + 1) p = restBs t nm ls (l1 ++ [⟨a, c⟩]) m b2 := by
  unfold restBs
  rw [labsO, h1]
  simp only
  rw [h2]
  simp only
  cases labsO t m b2 with
  | none => rfl
  | some y => simp
theorem restBs_no1 {t nm : ByteArray} {ls : List LayV} {l1 : List LabV} {m p : Nat} (h1 : textO t p = none) : restBs t nm ls l1 (m + 1) p = none := by
  unfold restBs
  rw [labsO, h1]
theorem restBs_no2 {t nm : ByteArray} {ls : List LayV} {l1 : List LabV} {m p b1 : Nat} {a : ByteArray} (h1 : textO t p = some (a, b1)) (h2 : textO t b1 = none) : restBs t nm ls l1 (m + 1) p = none := by
  unfold restBs
  rw [labsO, h1]
  simp only
  rw [h2]
theorem restLs_end {t nm : ByteArray} {l1 : List LayV} {p : Nat} : restLs t nm l1 0 p = restC t nm l1 p := by
  unfold restLs laysO
  simp
theorem restLs_step {t nm : ByteArray} {l1 : List LayV} {m p b1 b2 : Nat} {a : ByteArray} {c : Int} (h1 : bytesO t p 32 = some (a, b1)) (h2 : numO t b1 = some (c, b2)) : restLs t nm l1 (m + 1) p = restLs t nm (l1 ++ [⟨a, c⟩]) m b2 := by
  unfold restLs
  rw [laysO, h1]
  simp only
  rw [h2]
  simp only
  cases laysO t m b2 with
  | none => rfl
  | some y => simp
theorem restLs_no1 {t nm : ByteArray} {l1 : List LayV} {m p : Nat} (h1 : bytesO t p 32 = none) : restLs t nm l1 (m + 1) p = none := by
  unfold restLs
  rw [laysO, h1]
theorem restLs_no2 {t nm : ByteArray} {l1 : List LayV} {m p b1 : Nat} {a : ByteArray} (h1 : bytesO t p 32 = some (a, b1)) (h2 : numO t b1 = none) : restLs t nm l1 (m + 1) p = none := by
  unfold restLs
  rw [laysO, h1]
  simp only
  rw [h2]
theorem restC_no {t nm : ByteArray} {ls : List LayV} {p : Nat} (h : countO t p 10 = none) : restC t nm ls p = none := by unfold restC; rw [h]
theorem restC_yes {t nm : ByteArray} {ls : List LayV} {p k b : Nat} (h : countO t p 10 = some (k, b)) : restC t nm ls p = restBs t nm ls [] k b := by unfold restC; rw [h]
theorem laysO_w {t : ByteArray} (hs : t.size ≤ maxLen) {p b1 b2 : Nat} {a : ByteArray} {c : Int} (h1 : bytesO t p 32 = some (a, b1)) (h2 : numO t b1 = some (c, b2)) : LayV.w ⟨a, c⟩ := by
  refine ⟨?_, numO_i64 h2⟩
  obtain ⟨e, e2, e3⟩ := bytesO_yes h1
  show a.size ≤ maxLen
  rw [e, ByteArray.size_extract]
  omega
theorem labsO_w {t : ByteArray} (hs : t.size ≤ maxLen) {p b1 b2 : Nat} {a c : ByteArray} (h1 : textO t p = some (a, b1)) (h2 : textO t b1 = some (c, b2)) : LabV.w ⟨a, c⟩ := ⟨Nat.le_trans (textO_some h1).2.2.1 hs, Nat.le_trans (textO_some h2).2.2.1 hs⟩
/- What the reader makes: its cells, of which it owns the rows. -/
def ManQ (nm : ByteArray) (ls : List LayV) (bs : List LabV) (L : List Value) (w : World) : Prop := ∃ a1 c1 a2 c2, L = [.string nm, .slice a1 ls.length c1, .slice a2 bs.length c2] ∧ VR w a1 (layL ls).flatten ∧ VR w a2 (labL bs).flatten
def ManF (L : List Value) (lo hi : Nat) : Prop := ∃ nm a1 n1 c1 a2 n2 c2, L = [.string nm, .slice a1 n1 c1, .slice a2 n2 c2] ∧ (∀ ad, a1 = some ad → lo ≤ ad.block ∧ ad.block < hi) ∧ (∀ ad, a2 = some ad → lo ≤ ad.block ∧ ad.block < hi) ∧ (∀ x y, a1 = some x → a2 = some y → x.block ≠ y.block)
theorem ManF.mono {L : List Value} {a b c d : Nat} (h : ManF L a b) (h1 : c ≤ a) (h2 : b ≤ d) : ManF L c d := by
  obtain ⟨nm, a1, n1, c1, a2, n2, c2, e, k1, k2, k3⟩ := h
  exact ⟨nm, a1, n1, c1, a2, n2, c2, e, fun ad e => ⟨Nat.le_trans h1 (k1 ad e).1, Nat.lt_of_lt_of_le (k1 ad e).2 h2⟩, fun ad e => ⟨Nat.le_trans h1 (k2 ad e).1, Nat.lt_of_lt_of_le (k2 ad e).2 h2⟩, k3⟩
end Go.Proofs.Ytchfpiadfmnphaa
