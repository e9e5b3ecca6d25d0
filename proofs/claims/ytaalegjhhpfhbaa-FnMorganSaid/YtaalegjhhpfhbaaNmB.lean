/- Names and digests' sizes, as truths, on both sides. -/
import Derived.Test.YtaalegjhhpfhbaaName
import Derived.Laws.Cover1
namespace Go.Proofs.Ytaalegjhhpfhbaa
open Go.RowKit
set_option linter.unusedVariables false

def decOkAt (c : Int) (j : Nat) : Decidable (OkAt c j) := by unfold OkAt; infer_instance
def decNameP (s : ByteArray) : Decidable (NameP s) := by
  have hd : ∀ c j, Decidable (OkAt c j) := decOkAt
  unfold NameP
  infer_instance
def nameB (s : ByteArray) : Bool := @decide (NameP s) (decNameP s)
theorem nameB_yes {s : ByteArray} (h : NameP s) : nameB s = true := @decide_eq_true _ (decNameP s) h
theorem nameB_no {s : ByteArray} (h : ¬ NameP s) : nameB s = false := @decide_eq_false _ (decNameP s) h
theorem specNameB (s : ByteArray) (w : World) (hs : s.size ≤ maxLen) : Calls Try.prog 99 #[.string s] w fun e w' => e = .returned (.bool (nameB s)) ∧ w' = w := by
  refine (specName s w hs).mono ?_
  rintro e w' ⟨⟨b, rfl, hb⟩, rfl⟩
  refine ⟨?_, rfl⟩
  have : b = nameB s := by
    cases b with
    | true => exact (nameB_yes (hb.1 rfl)).symm
    | false => exact (nameB_no (fun h => by have := hb.2 h; cases this)).symm
  rw [this]
def nmLt (x y : ByteArray) : Bool := Op.bytesLess x.toList y.toList
theorem implNameB (s : ByteArray) (w : World) (hs : s.size ≤ maxLen) : Calls Try.prog 69 #[.string s] w fun e w' => e = .returned (.bool (nameB s)) ∧ w = w' := by
  refine (implName s w hs).mono ?_
  rintro e w' ⟨⟨b, rfl, hb⟩, rfl⟩
  refine ⟨?_, rfl⟩
  have : b = nameB s := by
    cases b with
    | true => exact (nameB_yes (hb.1 rfl)).symm
    | false => exact (nameB_no (fun h => by have := hb.2 h; cases this)).symm
  rw [this]
theorem sizedI (t : ByteArray) (w : World) (hm : t.size ≤ maxLen) :
    Calls Try.prog 123 #[.string t] w fun e w' => e = .returned (.bool (decide (t.size = 32))) ∧ w = w' := by
  unfold maxLen at hm
  by_cases h : t.size = 32
  · rw [decide_eq_true h]
    have d1 : ((t.size : Int) == 32) = true := beq_iff_eq.2 (by omega)
    go_enter Try.func123, Try.ntmps123
    go_wp2
    go_ret
    exact ⟨rfl, rfl⟩
  · rw [decide_eq_false h]
    have d1 : ((t.size : Int) == 32) = false := beq_eq_false_iff_ne.2 (by omega)
    go_enter Try.func123, Try.ntmps123
    go_wp2
    go_ret
    exact ⟨rfl, rfl⟩
theorem specSized (t : ByteArray) (w : World) (hm : t.size ≤ maxLen) :
    Calls Try.prog 119 #[.string t] w fun e w' => e = .returned (.bool (decide (t.size = 32))) ∧ w = w' := by
  unfold maxLen at hm
  by_cases h : t.size = 32
  · rw [decide_eq_true h]
    have d1 : ((t.size : Int) == 32) = true := beq_iff_eq.2 (by omega)
    go_enter Try.func119, Try.ntmps119
    go_wp2
    go_ret
    exact ⟨rfl, rfl⟩
  · rw [decide_eq_false h]
    have d1 : ((t.size : Int) == 32) = false := beq_eq_false_iff_ne.2 (by omega)
    go_enter Try.func119, Try.ntmps119
    go_wp2
    go_ret
    exact ⟨rfl, rfl⟩
theorem nmLt_any (x y : ByteArray) : Op.bytesLess x.toList y.toList = nmLt x y := rfl
/- A truth told of a statement. -/
noncomputable def boolP (p : Prop) : Bool := @decide p (Classical.propDecidable p)
theorem boolP_yes {p : Prop} (h : p) : boolP p = true := @decide_eq_true p (Classical.propDecidable p) h
theorem boolP_no {p : Prop} (h : ¬ p) : boolP p = false := @decide_eq_false p (Classical.propDecidable p) h
theorem boolP_of {p : Prop} (h : boolP p = true) : p := Classical.byContradiction fun hn => by rw [boolP_no hn] at h; cases h
theorem boolP_not {p : Prop} (h : boolP p = false) : ¬ p := fun hp => by rw [boolP_yes hp] at h; cases h
theorem boolP_congr {p q : Prop} (h : p ↔ q) : boolP p = boolP q := by rw [propext h]
end Go.Proofs.Ytaalegjhhpfhbaa
