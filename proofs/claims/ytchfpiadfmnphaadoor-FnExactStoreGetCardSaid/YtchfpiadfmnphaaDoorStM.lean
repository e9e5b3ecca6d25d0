/- When a store is right: its blobs rise by their digests. -/
import Derived.Test.YtchfpiadfmnphaaDoorNmB
import Derived.Test.YtchfpiadfmnphaaDoorDig
namespace Go.Proofs.YtchfpiadfmnphaaDoor
open Go.RowKit
set_option linter.unusedVariables false

theorem blt_eq (x y : List UInt8) : Op.bytesLess x y = decide (x < y) := by
  induction x generalizing y with
  | nil => cases y <;> simp [Op.bytesLess]
  | cons a x ih =>
    cases y with
    | nil => simp [Op.bytesLess]
    | cons b y =>
      unfold Op.bytesLess
      rw [ih y]
      simp only [List.cons_lt_cons_iff]
      by_cases h1 : a < b <;> by_cases h2 : a = b <;> by_cases h3 : x < y <;> simp [h1, h2, h3]
theorem leq_not (d a : ByteArray) : (Op.bytesLess d.toList a.toList || d.toList == a.toList) = !(Op.bytesLess a.toList d.toList) := by
  rw [blt_eq, blt_eq]
  by_cases h : a.toList < d.toList
  · have h1 : ¬ d.toList < a.toList := fun h2 => List.lt_asymm h h2
    have h2 : ¬ d.toList = a.toList := fun e => by rw [e] at h; exact List.lt_irrefl _ h
    simp [h, h1, h2]
  · by_cases h1 : d.toList < a.toList
    · simp [h, h1]
    · have h2 : d.toList = a.toList := List.le_antisymm (List.not_lt.1 h) (List.not_lt.1 h1)
      simp [h2, List.lt_irrefl]
def PreOk (l : List ByteArray) (k : Nat) : Prop := (∀ i (h : i < l.length), i < k → l[i].size ≤ 3000) ∧ (∀ i (h : i + 1 < l.length), i + 1 < k → nmLt (digA l[i]) (digA l[i + 1]) = true)
def AhdOk (l : List ByteArray) (k : Nat) (A : ByteArray) : Prop := (k = 0 → A = ⟨#[]⟩) ∧ (∀ k1 (h : k1 < l.length), k = k1 + 1 → A = digA l[k1])
def StOk (l : List ByteArray) : Prop := l.length ≤ 60 ∧ PreOk l l.length
theorem StOk.not_long {l : List ByteArray} {n : Nat} (hn : l.length = n) (h : 60 < n) : ¬ StOk l := fun k => by have := k.1; omega
theorem StOk.not_big {l : List ByteArray} {k : Nat} {x : ByteArray} (hk : k < l.length) (hx : l[k] = x) (h : 3000 < x.size) : ¬ StOk l := fun hs => by
  have := hs.2.1 k hk hk
  rw [hx] at this
  omega
theorem StOk.not_rise {l : List ByteArray} {k : Nat} {x A d : ByteArray} (hk : k < l.length) (hx : l[k] = x) (hd : digA x = d) (hA : AhdOk l k A) (h0 : 0 < k) (h : nmLt A d = false) : ¬ StOk l := fun hs => by
  obtain ⟨k1, rfl⟩ : ∃ k1, k = k1 + 1 := ⟨k - 1, by omega⟩
  have h1 := hA.2 k1 (by omega) rfl
  have h2 := hs.2.2 k1 hk hk
  rw [hx, hd, ← h1, h] at h2
  cases h2
theorem PreOk.zero (l : List ByteArray) : PreOk l 0 := ⟨fun i _ h => absurd h (Nat.not_lt_zero _), fun i _ h => absurd h (Nat.not_lt_zero _)⟩
theorem AhdOk.zero (l : List ByteArray) : AhdOk l 0 ⟨#[]⟩ := ⟨fun _ => rfl, fun k1 _ e => by omega⟩
theorem PreOk.step {l : List ByteArray} {k : Nat} {x A d : ByteArray} (h : PreOk l k) (hA : AhdOk l k A) (hk : k < l.length) (hx : l[k] = x) (hd : digA x = d) (hs : x.size ≤ 3000) (hl : k = 0 ∨ nmLt A d = true) : PreOk l (k + 1) := by
  refine ⟨fun i hi hik => ?_, fun i hi hik => ?_⟩
  · by_cases e : i < k
    · exact h.1 i hi e
    · obtain rfl : i = k := by omega
      rw [hx]; exact hs
  · by_cases e : i + 1 < k
    · exact h.2 i hi e
    · obtain rfl : k = i + 1 := by omega
      rcases hl with hl | hl
      · omega
      · rw [hA.2 i (by omega) rfl] at hl
        rw [hx, hd]
        exact hl
theorem AhdOk.step {l : List ByteArray} {k : Nat} {x d : ByteArray} (hk : k < l.length) (hx : l[k] = x) (hd : digA x = d) : AhdOk l (k + 1) d := ⟨fun e => by omega, fun k1 h1 e => by
  obtain rfl : k1 = k := by omega
  rw [hx]; exact hd.symm⟩
theorem StOk.all {l : List ByteArray} {n : Nat} (h : PreOk l n) (hn : l.length = n) (h60 : ¬ 60 < n) : StOk l := ⟨by omega, by rw [hn]; exact h⟩
theorem digA_32 {x : ByteArray} (h : x.size ≤ 3000) : (digA x).size = 32 := by
  unfold digA
  rw [if_neg (by omega)]
  show (endD _ _ _).size = 32
  exact endD_size _ _ _
/- A text of some bytes is greater than the empty one. -/
theorem nmLt_nil {d : ByteArray} (h : 0 < d.size) : nmLt ⟨#[]⟩ d = true := by
  unfold nmLt
  rw [blt_eq]
  have h1 : d.toList.length = d.size := by rw [Lib.toList_data]; rfl
  have h2 : (⟨#[]⟩ : ByteArray).toList = [] := by rw [Lib.toList_data]
  rw [h2]
  cases hd : d.toList with
  | nil => rw [hd] at h1; simp at h1; omega
  | cons x xs => exact decide_eq_true (List.nil_lt_cons x xs)
end Go.Proofs.YtchfpiadfmnphaaDoor
