/- The text that stands at a place of a text, said once: what both GetText functions answer. -/
import Derived.Test.YtdfglpbappeoaaaGetC
namespace Go.Proofs.Ytdfglpbappeoaaa
open Go.RowKit
set_option linter.unusedVariables false

def getT (s : ByteArray) (p : Int) : TX :=
  if (getN s p).code ≠ 0 then ⟨noText, 0, (getN s p).code⟩
  else if (getN s p).n < 0 ∨ 20000 < (getN s p).n then ⟨noText, 0, 3⟩
  else if (s.size : Int) < (getN s p).behind + (getN s p).n then ⟨noText, 0, 4⟩
  else ⟨s.extract (getN s p).behind.toNat ((getN s p).behind + (getN s p).n).toNat, (getN s p).behind + (getN s p).n, 0⟩
theorem scan_behind (s : ByteArray) (a : Nat) : ∀ f i u, (scan s a f i u).code = 0 → ∃ b : Nat, (scan s a f i u).behind = (b : Int) ∧ b ≤ s.size
  | 0, _, _ => fun h => absurd (show (3 : Int) = 0 from h) (by decide)
  | f + 1, i, u => by
    intro h
    unfold scan at h ⊢
    split at h
    · rename_i hlt
      rw [dif_pos hlt]
      split at h
      · rename_i hl
        rw [if_pos hl]
        unfold fin at h ⊢
        split at h
        · exact absurd h (by decide)
        · rename_i hn
          rw [if_neg hn]
          exact ⟨_, rfl, hlt⟩
      · rename_i hl
        rw [if_neg hl]
        exact scan_behind s a f _ _ h
    · exact absurd h (by decide)
theorem getN_behind {s : ByteArray} {p : Int} (h : (getN s p).code = 0) : s.size ≤ 20000 ∧ ∃ b : Nat, (getN s p).behind = (b : Int) ∧ b ≤ s.size := by
  unfold getN at h ⊢
  split at h
  · exact absurd h (by decide)
  · rename_i h1
    rw [if_neg h1]
    split at h
    · exact absurd h (by decide)
    · rename_i h2
      rw [if_neg h2]
      exact ⟨by omega, scan_behind s _ _ _ _ h⟩
/- The five ways of an answer. -/
theorem getT_ways (s : ByteArray) (p : Int) :
    (∃ c, c ≠ 0 ∧ getN s p = ⟨0, 0, c⟩ ∧ getT s p = ⟨noText, 0, c⟩) ∨
    (∃ (n : Int) (b : Nat), getN s p = ⟨n, b, 0⟩ ∧ (n < 0 ∨ 20000 < n) ∧ s.size ≤ 20000 ∧ b ≤ s.size ∧ getT s p = ⟨noText, 0, 3⟩) ∨
    (∃ (m b : Nat), getN s p = ⟨m, b, 0⟩ ∧ m ≤ 20000 ∧ s.size < b + m ∧ s.size ≤ 20000 ∧ b ≤ s.size ∧ getT s p = ⟨noText, 0, 4⟩) ∨
    (∃ (m b : Nat), getN s p = ⟨m, b, 0⟩ ∧ m ≤ 20000 ∧ b + m ≤ s.size ∧ s.size ≤ 20000 ∧ b ≤ s.size ∧ getT s p = ⟨s.extract b (b + m), ((b + m : Nat) : Int), 0⟩) := by
  rcases getN_code s p with hc | ⟨c, hc, hg⟩
  · obtain ⟨hs, b, hb, hbs⟩ := getN_behind hc
    obtain ⟨n, hn⟩ : ∃ n, (getN s p).n = n := ⟨_, rfl⟩
    have hg : getN s p = ⟨n, b, 0⟩ := by
      cases hx : getN s p
      rw [hx] at hn hb hc
      simp at hn hb hc
      rw [hn, hb, hc]
    right
    by_cases h1 : n < 0 ∨ 20000 < n
    · exact Or.inl ⟨n, b, hg, h1, hs, hbs, by unfold getT; rw [hg]; rw [if_neg (by simp), if_pos h1]⟩
    · obtain ⟨m, rfl⟩ := Int.eq_ofNat_of_zero_le (show 0 ≤ n by omega)
      right
      by_cases h2 : s.size < b + m
      · exact Or.inl ⟨m, b, hg, by omega, h2, hs, hbs, by unfold getT; rw [hg]; rw [if_neg (by simp), if_neg h1, if_pos (by show (s.size : Int) < (b : Int) + (m : Int); omega)]⟩
      · exact Or.inr ⟨m, b, hg, by omega, by omega, hs, hbs, by unfold getT; rw [hg]; rw [if_neg (by simp), if_neg h1, if_neg (by show ¬ (s.size : Int) < (b : Int) + (m : Int); omega)]; rfl⟩
  · exact Or.inl ⟨c, hc, hg, by unfold getT; rw [hg]; rw [if_pos hc]⟩
end Go.Proofs.Ytdfglpbappeoaaa
