/- Right versions, times and roles, on the specification's side. -/
import Derived.Test.YtchfpiadfmnphaaDoorJn2
import Derived.Test.YtchfpiadfmnphaaDoorJn18
import Derived.Test.YtchfpiadfmnphaaDoorElm
import Derived.Test.YtchfpiadfmnphaaDoorSRow
namespace Go.Proofs.YtchfpiadfmnphaaDoor
open Go.RowKit
set_option linter.unusedVariables false

def verB (n : Int) : Bool := decide (1 ≤ n ∧ n ≤ 1000000)
def timB (n : Int) : Bool := decide (0 ≤ n ∧ n ≤ 1000000000)
/- A role: how many are needed, and the keys. -/
def KeyOk (ks : List Int) (k : Nat) : Prop := ∃ h : k < ks.length, grB ks[k] = true ∧ (0 < k → ks.getD (k - 1) 0 < ks[k])
def okKs (ks : List Int) : Bool := ks.all grB && (ks.zip (ks.drop 1)).all (fun x => decide (x.1 < x.2))
def roleB (need : Int) (ks : List Int) : Bool := decide (1 ≤ ks.length ∧ ks.length ≤ 8 ∧ 1 ≤ need ∧ need ≤ (ks.length : Int)) && okKs ks
theorem okKs_yes {ks : List Int} (h : ∀ k, k < ks.length → KeyOk ks k) : okKs ks = true := by
  unfold okKs
  rw [Bool.and_eq_true, List.all_eq_true, List.all_eq_true]
  constructor
  · intro x hx
    obtain ⟨k, hk, rfl⟩ := List.mem_iff_getElem.1 hx
    obtain ⟨_, h1, _⟩ := h k hk
    exact h1
  · intro x hx
    obtain ⟨k, hk, rfl⟩ := List.mem_iff_getElem.1 hx
    rw [List.length_zip, List.length_drop] at hk
    rw [List.getElem_zip, decide_eq_true_eq, List.getElem_drop]
    obtain ⟨h1, _, h3⟩ := h (1 + k) (by omega)
    have h4 := h3 (by omega)
    rw [show 1 + k - 1 = k by omega, List.getD_eq_getElem?_getD, List.getElem?_eq_getElem (by omega)] at h4
    exact h4
theorem okKs_no {ks : List Int} {k : Nat} (hk : k < ks.length) (h : ¬ KeyOk ks k) : okKs ks = false := by
  cases ho : okKs ks with
  | false => rfl
  | true =>
    exfalso
    unfold okKs at ho
    rw [Bool.and_eq_true, List.all_eq_true, List.all_eq_true] at ho
    refine h ⟨hk, ho.1 _ (List.getElem_mem hk), fun h0 => ?_⟩
    have hz : k - 1 < (ks.zip (ks.drop 1)).length := by rw [List.length_zip, List.length_drop]; omega
    have := ho.2 _ (List.getElem_mem hz)
    rw [List.getElem_zip, decide_eq_true_eq, List.getElem_drop] at this
    rw [List.getD_eq_getElem?_getD, List.getElem?_eq_getElem (by omega)]
    have e : ks[1 + (k - 1)]'(by omega) = ks[k] := by congr 1; omega
    rw [e] at this
    exact this
def rlv (need : Int) (a : Option Addr) (n c : Nat) : List Value := [.int .i64 need, .slice a n c]
theorem RowV.rl {w : World} {g : Nat} {need : Int} {a : Option Addr} {n c : Nat} (h : RowV w g (rlv need a n c)) : w.cell? ⟨g, 0, none⟩ = some (.int .i64 need) ∧ w.cell? ⟨g, 1, none⟩ = some (.slice a n c) := ⟨h.cell (k := 0) rfl, h.cell (k := 1) rfl⟩
structure KpRl (w : World) (g : Nat) (need : Int) (a : Option Addr) (n c : Nat) (ks : List Int) (w' : World) : Prop where
  below : Below w.heap.size w w'
  v : RowV w' g (rlv need a n c)
  ai : AI w' a ks
theorem KpRl.drewN {w w' : World} {g : Nat} {need : Int} {a : Option Addr} {n c : Nat} {ks : List Int} (h : Hid (KpRl w g need a n c ks w')) (k : Nat) : Hid (KpRl w g need a n c ks (w'.drewN k)) := ⟨belowN h.out.below k, h.out.v.drewN k, h.out.ai⟩
end Go.Proofs.YtchfpiadfmnphaaDoor
