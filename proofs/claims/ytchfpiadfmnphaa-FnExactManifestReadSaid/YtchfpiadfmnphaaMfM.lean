/- When a manifest is right, and its bytes: as statements about lists. -/
import Derived.Test.YtchfpiadfmnphaaNmB
import Derived.Test.YtchfpiadfmnphaaLayA
import Derived.Test.YtchfpiadfmnphaaLabA
namespace Go.Proofs.Ytchfpiadfmnphaa
open Go.RowKit
set_option linter.unusedVariables false

def LayOk (x : LayV) : Prop := x.bl.size = 32 ∧ 0 ≤ x.sz ∧ x.sz ≤ 3000
def LaysOk (l : List LayV) : Prop := l.length ≤ 10 ∧ ∀ j (h : j < l.length), LayOk l[j]
def LabOk (l : List LabV) (k : Nat) : Prop := ∃ h : k < l.length, nameB l[k].ky = true ∧ nameB l[k].vl = true ∧ ∀ k1 (h1 : k1 < l.length), k = k1 + 1 → nmLt l[k1].ky l[k].ky = true
def LabsOk (l : List LabV) : Prop := l.length ≤ 10 ∧ ∀ j, j < l.length → LabOk l j
def ManOk (nm : ByteArray) (ls : List LayV) (bs : List LabV) : Prop := nameB nm = true ∧ LaysOk ls ∧ LabsOk bs
theorem LaysOk.not_long {l : List LayV} {n : Nat} (hn : l.length = n) (h : 10 < n) : ¬ LaysOk l := fun k => by have := k.1; omega
theorem LabsOk.not_long {l : List LabV} {n : Nat} (hn : l.length = n) (h : 10 < n) : ¬ LabsOk l := fun k => by have := k.1; omega
theorem LaysOk.not_at {l : List LayV} {k : Nat} {x0 : ByteArray} {x1 : Int} (hk : k < l.length) (h0 : l[k].bl = x0) (h1 : l[k].sz = x1) (h : ¬ (x0.size = 32 ∧ 0 ≤ x1 ∧ x1 ≤ 3000)) : ¬ LaysOk l := fun hl => h (by
  have := hl.2 k hk
  unfold LayOk at this
  rw [h0, h1] at this
  exact this)
theorem LaysOk.step {l : List LayV} {k : Nat} {x0 : ByteArray} {x1 : Int} (h : ∀ j (h : j < l.length), j < k → LayOk l[j]) (hk : k < l.length) (h0 : l[k].bl = x0) (h1 : l[k].sz = x1) (ho : x0.size = 32 ∧ 0 ≤ x1 ∧ x1 ≤ 3000) : ∀ j (h : j < l.length), j < k + 1 → LayOk l[j] := fun j hj hjk => by
  by_cases e : j < k
  · exact h j hj e
  · obtain rfl : j = k := by omega
    unfold LayOk
    rw [h0, h1]
    exact ho
theorem LaysOk.all {l : List LayV} {n : Nat} (h : ∀ j (h : j < l.length), j < n → LayOk l[j]) (hn : l.length = n) (h10 : ¬ 10 < n) : LaysOk l := ⟨by omega, fun j hj => h j hj (by omega)⟩
theorem LabsOk.not_at {l : List LabV} {k : Nat} {x0 x1 : ByteArray} (hk : k < l.length) (h0 : l[k].ky = x0) (h1 : l[k].vl = x1) (h : nameB x0 = true → nameB x1 = true → False) : ¬ LabsOk l := fun hl => by
  obtain ⟨_, g0, g1, _⟩ := hl.2 k hk
  rw [h0] at g0
  rw [h1] at g1
  exact h g0 g1
theorem LabsOk.not_lt {l : List LabV} {k k1 : Nat} {x0 z : ByteArray} (hk : k < l.length) (h0 : l[k].ky = x0) (hk1 : k1 < l.length) (hz : l[k1].ky = z) (e : k = k1 + 1) (h : nmLt z x0 = false) : ¬ LabsOk l := fun hl => by
  obtain ⟨_, _, _, g⟩ := hl.2 k hk
  have := g k1 hk1 e
  rw [h0, hz, h] at this
  cases this
theorem LabsOk.step {l : List LabV} {k : Nat} {x0 x1 : ByteArray} (h : ∀ j, j < k → LabOk l j) (hk : k < l.length) (h0 : l[k].ky = x0) (h1 : l[k].vl = x1) (g0 : nameB x0 = true) (g1 : nameB x1 = true) (g : ∀ k1 (h1 : k1 < l.length), k = k1 + 1 → nmLt l[k1].ky x0 = true) : ∀ j, j < k + 1 → LabOk l j := fun j hjk => by
  by_cases e : j < k
  · exact h j e
  · obtain rfl : j = k := by omega
    exact ⟨hk, by rw [h0]; exact g0, by rw [h1]; exact g1, fun k1 hk1 e => by rw [h0]; exact g k1 hk1 e⟩
theorem LabsOk.all {l : List LabV} {n : Nat} (h : ∀ j, j < n → LabOk l j) (hn : l.length = n) (h10 : ¬ 10 < n) : LabsOk l := ⟨by omega, fun j hj => h j (by omega)⟩
end Go.Proofs.Ytchfpiadfmnphaa
