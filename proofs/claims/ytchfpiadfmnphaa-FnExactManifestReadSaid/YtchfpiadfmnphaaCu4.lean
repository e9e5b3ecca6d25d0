/- Bytes and counts that a cursor reads. -/
import Derived.Test.YtchfpiadfmnphaaCu3
namespace Go.Proofs.Ytchfpiadfmnphaa
open Go.RowKit
set_option linter.unusedVariables false

def bytesO (t : ByteArray) (p n : Nat) : Option (ByteArray × Nat) := if p + n ≤ t.size then some (t.extract p (p + n), p + n) else none
theorem bytesO_no {t : ByteArray} {p n : Nat} (h : bytesO t p n = none) : t.size < p + n := by
  unfold bytesO at h
  split at h
  · cases h
  · omega
theorem bytesO_yes {t x : ByteArray} {p n b : Nat} (h : bytesO t p n = some (x, b)) : x = t.extract p b ∧ p + n = b ∧ b ≤ t.size := by
  unfold bytesO at h
  split at h
  · injection h with h
    injection h with h1 h2
    subst h2
    exact ⟨h1.symm, rfl, by assumption⟩
  · cases h
theorem countO_le {t : ByteArray} {p m k b : Nat} (h : countO t p m = some (k, b)) : k ≤ m ∧ b ≤ t.size := by
  unfold countO at h
  cases hn : numO t p with
  | none => rw [hn] at h; cases h
  | some u =>
    obtain ⟨n, c⟩ := u
    rw [hn] at h
    simp only at h
    split at h
    · have := Option.some.inj h
      injection this with e1 e2
      subst e2
      exact ⟨by omega, (numO_some hn).2.1⟩
    · cases h
theorem unf_i64 {u : Nat} (h : u ≤ 18446744073709551615) : I64 (unf u) := by
  unfold I64 unf
  split <;> simp [Lit.wf, IntKind.min, IntKind.max, IntKind.signed, IntKind.bits] <;> omega
theorem Rd.i64 {s : ByteArray} {a : Nat} {R : G} : ∀ (m i u : Nat), i + m = 9 → Rd s a R i u → R.code = 0 → I64 R.n
  | m, i, u, hm, h, hc => by
    by_cases hlt : a + i < s.size
    · by_cases hl : s[a + i].toNat < 128 ∨ i = 9
      · have he := h.last hlt rfl hl
        unfold fin at he
        split at he
        · rw [he] at hc; exact absurd hc (by decide)
        · rename_i hn
          rw [he]
          exact unf_i64 (h.sum (d := s[a + i].toNat) (by omega) (by omega))
      · have h2 := h.more hlt rfl (by omega) (by omega)
        match m, hm with
        | 0, hm => omega
        | m + 1, hm => exact Rd.i64 m (i + 1) _ (by omega) h2 hc
    · rw [h.short hlt] at hc; exact absurd hc (by decide)
theorem numO_i64 {t : ByteArray} {p b : Nat} {n : Int} (h : numO t p = some (n, b)) : I64 n := by
  obtain ⟨hg, -, h2⟩ := numO_some h
  have hh : scan t p 10 0 0 = ⟨n, b, 0⟩ := by
    have := hg
    unfold getN at this
    rw [if_neg (by omega), if_neg (by omega)] at this
    simpa using this
  have := Rd.i64 9 0 0 rfl (Rd.start t p) (by rw [hh])
  rw [hh] at this
  exact this
end Go.Proofs.Ytchfpiadfmnphaa
