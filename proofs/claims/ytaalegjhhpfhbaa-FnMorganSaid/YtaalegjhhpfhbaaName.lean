/- What the two Go functions NameRight (the specification's and the program's) answer: true just where the text is a name, whatever the text. -/
import Derived.Test.YtaalegjhhpfhbaaRows
import Derived.WalkKit
import Derived.ProofKit
namespace Go.Proofs.Ytaalegjhhpfhbaa
open Go.RowKit
set_option linter.unusedVariables false

def OkAt (c : Int) (j : Nat) : Prop := (97 ≤ c ∧ c ≤ 122) ∨ (j ≠ 0 ∧ ((48 ≤ c ∧ c ≤ 57) ∨ c = 45))
def NameP (s : ByteArray) : Prop := 1 ≤ s.size ∧ s.size ≤ 40 ∧ ∀ j (h : j < s.size), OkAt (s[j].toNat : Int) j

def Ans (P : Prop) (e : Ending) : Prop := ∃ b : Bool, e = .returned (.bool b) ∧ (b = true ↔ P)
theorem Ans.no {P : Prop} (h : ¬ P) : Ans P (.returned (.bool false)) := ⟨false, rfl, by simp [h]⟩
theorem Ans.yes {P : Prop} (h : P) : Ans P (.returned (.bool true)) := ⟨true, rfl, by simp [h]⟩

theorem okStep {s : ByteArray} {k : Nat} (hlt : k < s.size) (H : ∀ j (h : j < s.size), j < k → OkAt (s[j].toNat : Int) j) (hk : OkAt (s[k].toNat : Int) k) :
    ∀ j (h : j < s.size), j < k + 1 → OkAt (s[j].toNat : Int) j := by
  intro j h hj
  rcases Nat.lt_succ_iff_lt_or_eq.mp hj with h1 | rfl
  · exact H j h h1
  · exact hk
theorem okHead {s : ByteArray} {k : Nat} {hp : 0 < s.size} (hlt : k < s.size) (h0 : OkAt (s[0].toNat : Int) 0) (h : (97 ≤ (s[k].toNat : Int) ∧ (s[k].toNat : Int) ≤ 122) ∨ (48 ≤ (s[k].toNat : Int) ∧ (s[k].toNat : Int) ≤ 57) ∨ (s[k].toNat : Int) = 45) :
    OkAt (s[k].toNat : Int) k := by
  by_cases hk : k = 0
  · subst hk; exact h0
  · unfold OkAt; omega
theorem seven (c : Int) : c < 45 ∨ c = 45 ∨ (45 < c ∧ c < 48) ∨ (48 ≤ c ∧ c ≤ 57) ∨ (57 < c ∧ c < 97) ∨ (97 ≤ c ∧ c ≤ 122) ∨ 122 < c := by omega

set_option maxHeartbeats 1000000 in
theorem specName (s : ByteArray) (w : World) (hs : s.size ≤ maxLen) :
    Calls Try.prog 99 #[.string s] w fun e w' => Ans (NameP s) e ∧ w' = w := by
  unfold maxLen at hs
  by_cases hz : s.size < 1
  · go_enter Try.func99, Try.ntmps99
    go_wp2
    go_ret
    exact ⟨Ans.no (fun h => by have := h.1; have := h.2.1; omega), rfl⟩
  by_cases hz2 : 40 < s.size
  · go_enter Try.func99, Try.ntmps99
    go_wp2
    go_ret
    exact ⟨Ans.no (fun h => by have := h.1; have := h.2.1; omega), rfl⟩
  go_enter Try.func99, Try.ntmps99
  go_wp2
  go_loop [3] (fun i => ∃ k : Nat, k ≤ s.size ∧ i = .int .i64 k ∧ ∀ j (h : j < s.size), j < k → OkAt (s[j].toNat : Int) j) (fun i => s.size - (intOf i).toNat)
  case atStart => exact ⟨0, Nat.zero_le _, rfl, fun j _ h => absurd h (Nat.not_lt_zero _)⟩
  case round =>
    obtain ⟨k, hk, rfl, hall⟩ := hrel
    have H : Hid (∀ j (h : j < s.size), j < k → OkAt (s[j].toNat : Int) j) := hall
    clear hall
    by_cases hlt : k < s.size
    · rcases seven (s[k].toNat : Int) with h | h | ⟨h, h'⟩ | ⟨h, h'⟩ | ⟨h, h'⟩ | ⟨h, h'⟩ | h
      all_goals
        rcases Nat.eq_zero_or_pos k with hk0 | hk0
        all_goals
          try have hk0' : ((k : Int) == 0) = false := by simp; omega
          try subst hk0
          go_wp2
          all_goals first
            | (exfalso; rename_i hx; simp at hx; omega)
            | (go_ret; exact ⟨Ans.no (fun hn => by have := hn.2.2 _ hlt; unfold OkAt at this; omega), rfl⟩)
            | (refine ⟨⟨_ + 1, hlt, by go_num, okStep hlt H.out ?_⟩, by simp [intOf]; omega⟩; unfold OkAt; omega)
    · go_wp2
      go_ret
      exact ⟨Ans.yes ⟨by omega, by omega, fun j h => H.out j h (by omega)⟩, rfl⟩

set_option maxHeartbeats 1000000 in
theorem implName (s : ByteArray) (w : World) (hs : s.size ≤ maxLen) :
    Calls Try.prog 69 #[.string s] w fun e w' => Ans (NameP s) e ∧ w' = w := by
  unfold maxLen at hs
  by_cases hz : s.size < 1
  · go_enter Try.func69, Try.ntmps69
    go_wp2
    go_ret
    exact ⟨Ans.no (fun h => by have := h.1; have := h.2.1; omega), rfl⟩
  by_cases hz2 : 40 < s.size
  · go_enter Try.func69, Try.ntmps69
    go_wp2
    go_ret
    exact ⟨Ans.no (fun h => by have := h.1; have := h.2.1; omega), rfl⟩
  have hp : 0 < s.size := by omega
  by_cases hc0 : 97 ≤ (s[0].toNat : Int) ∧ (s[0].toNat : Int) ≤ 122
  · obtain ⟨hc1, hc2⟩ := hc0
    go_enter Try.func69, Try.ntmps69
    go_wp2
    go_loop [20] (fun i => ∃ k : Nat, k ≤ s.size ∧ i = .int .i64 k ∧ ∀ j (h : j < s.size), j < k → OkAt (s[j].toNat : Int) j) (fun i => s.size - (intOf i).toNat)
    case atStart => exact ⟨0, Nat.zero_le _, rfl, fun j _ h => absurd h (Nat.not_lt_zero _)⟩
    case round =>
      obtain ⟨k, hk, rfl, hall⟩ := hrel
      have H : Hid (∀ j (h : j < s.size), j < k → OkAt (s[j].toNat : Int) j) := hall
      clear hall
      have hfirst : Hid (OkAt (s[0].toNat : Int) 0) := by show OkAt _ _; unfold OkAt; omega
      by_cases hlt : k < s.size
      · rcases seven (s[k].toNat : Int) with h | h | ⟨h, h'⟩ | ⟨h, h'⟩ | ⟨h, h'⟩ | ⟨h, h'⟩ | h
        all_goals
          go_wp2
          all_goals first
            | (exfalso; rename_i hx; simp at hx; omega)
            | (go_ret; exact ⟨Ans.no (fun hn => by have := hn.2.2 _ hlt; unfold OkAt at this; omega), rfl⟩)
            | (refine ⟨⟨_ + 1, hlt, by go_num, okStep hlt H.out (okHead hlt hfirst.out ?_)⟩, by simp [intOf]; omega⟩; omega)
      · go_wp2
        go_ret
        exact ⟨Ans.yes ⟨by omega, by omega, fun j h => H.out j h (by omega)⟩, rfl⟩
  · by_cases hc1 : 97 ≤ (s[0].toNat : Int)
    all_goals
      try have hd : decide ((s[0].toNat : Int) ≤ 122) = false := decide_eq_false (by omega)
      go_enter Try.func69, Try.ntmps69
      go_wp2
      go_ret
      exact ⟨Ans.no (fun hn => by have := hn.2.2 _ hp; unfold OkAt at this; omega), rfl⟩
end Go.Proofs.Ytaalegjhhpfhbaa
