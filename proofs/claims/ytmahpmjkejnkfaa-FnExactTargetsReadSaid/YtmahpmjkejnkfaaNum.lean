/- The number that stands at a place of a text, said once: what both GetNum functions answer. Plain mathematics: no program. -/
import Derived.Test.YtmahpmjkejnkfaaInts
namespace Go.Proofs.Ytmahpmjkejnkfaa
open Go.RowKit
set_option linter.unusedVariables false

structure G where
  n : Int
  behind : Int
  code : Int
def unf (u : Nat) : Int := if u % 2 = 0 then ((u / 2 : Nat) : Int) else -((u / 2 : Nat) : Int) - 1
/- The byte c at place a + i is the number's last one, u what stands ahead of it. -/
def fin (a i u c : Nat) : G := if (i = 9 ∧ 1 < c) ∨ (c = 0 ∧ 0 < i) then ⟨0, 0, 3⟩ else ⟨unf (u + c * 128 ^ i), ((a + i + 1 : Nat) : Int), 0⟩
def scan (s : ByteArray) (a : Nat) : Nat → Nat → Nat → G
  | 0, _, _ => ⟨0, 0, 3⟩
  | f + 1, i, u => if h : a + i < s.size then (if s[a + i].toNat < 128 ∨ i = 9 then fin a i u s[a + i].toNat else scan s a f (i + 1) (u + (s[a + i].toNat - 128) * 128 ^ i)) else ⟨0, 0, 4⟩
def getN (s : ByteArray) (p : Int) : G := if 20000 < s.size then ⟨0, 0, 2⟩ else if p < 0 then ⟨0, 0, 1⟩ else scan s p.toNat 10 0 0
def Rd (s : ByteArray) (a : Nat) (R : G) (i u : Nat) : Prop := i ≤ 9 ∧ u < 128 ^ i ∧ ∃ f, f + i = 9 ∧ scan s a (f + 1) i u = R
theorem Rd.start (s : ByteArray) (a : Nat) : Rd s a (scan s a 10 0 0) 0 0 := ⟨by omega, by simp, 9, rfl, rfl⟩
theorem Rd.short {s : ByteArray} {a i u : Nat} {R : G} (h : Rd s a R i u) (hn : ¬ a + i < s.size) : R = ⟨0, 0, 4⟩ := by
  obtain ⟨_, _, f, _, h⟩ := h
  rw [← h, scan, dif_neg hn]
theorem Rd.last {s : ByteArray} {a i u c : Nat} {R : G} (h : Rd s a R i u) (hlt : a + i < s.size) (hc : s[a + i].toNat = c) (hl : c < 128 ∨ i = 9) : R = fin a i u c := by
  obtain ⟨_, _, f, _, h⟩ := h
  rw [← h, scan, dif_pos hlt, hc, if_pos hl]
theorem Rd.more {s : ByteArray} {a i u c : Nat} {R : G} (h : Rd s a R i u) (hlt : a + i < s.size) (hc : s[a + i].toNat = c) (h1 : 128 ≤ c) (h2 : i ≠ 9) : Rd s a R (i + 1) (u + (c - 128) * 128 ^ i) := by
  obtain ⟨h9, hu, f, hf, h⟩ := h
  rw [scan, dif_pos hlt, hc, if_neg (by omega)] at h
  have hb : c < 256 := by rw [← hc]; exact s[a + i].toNat_lt
  cases f with
  | zero => omega
  | succ f =>
    refine ⟨by omega, ?_, f, by omega, h⟩
    rw [Nat.pow_succ]
    have : (c - 128) * 128 ^ i ≤ 127 * 128 ^ i := Nat.mul_le_mul_right _ (by omega)
    omega
theorem pow_seven (k : Nat) : (2 : Int) ^ (7 * k) = ((128 ^ k : Nat) : Int) := by
  rw [Int.pow_mul]; norm_cast
/- A byte shifted by seven times its place, as the walk spells it. -/
theorem shl_z {d k : Nat} (h : d * 128 ^ k < 18446744073709551616) : IntKind.u64.wrap ((d : Int) * 2 ^ (7 * k)) = ((d * 128 ^ k : Nat) : Int) := by
  rw [pow_seven, ← Int.natCast_mul]
  generalize d * 128 ^ k = z at *
  simp [IntKind.wrap, IntKind.signed, IntKind.bits]
  omega
theorem Rd.sum {s : ByteArray} {a i u d : Nat} {R : G} (h : Rd s a R i u) (hd : d ≤ 127) (h9 : i = 9 → d ≤ 1) : u + d * 128 ^ i ≤ 18446744073709551615 := by
  obtain ⟨h1, h2, _⟩ := h
  by_cases e : i = 9
  · have := h9 e
    subst e
    have : d * 128 ^ 9 ≤ 1 * 128 ^ 9 := Nat.mul_le_mul_right _ this
    omega
  · have h3 : 128 ^ i ≤ 128 ^ 8 := Nat.pow_le_pow_right (by omega) (by omega)
    have : d * 128 ^ i ≤ 127 * 128 ^ i := Nat.mul_le_mul_right _ hd
    omega
theorem unf_odd {u : Nat} (h : u % 2 = 1) : unf u = -((u / 2 : Nat) : Int) - 1 := by unfold unf; rw [if_neg (by omega)]
theorem unf_even {u : Nat} (h : u % 2 = 0) : unf u = ((u / 2 : Nat) : Int) := by unfold unf; rw [if_pos h]
theorem fin_bad {a i u c : Nat} (h : (i = 9 ∧ 1 < c) ∨ (c = 0 ∧ 0 < i)) : fin a i u c = ⟨0, 0, 3⟩ := by unfold fin; rw [if_pos h]
theorem fin_good {a i u c : Nat} (h : ¬ ((i = 9 ∧ 1 < c) ∨ (c = 0 ∧ 0 < i))) : fin a i u c = ⟨unf (u + c * 128 ^ i), ((a + i + 1 : Nat) : Int), 0⟩ := by unfold fin; rw [if_neg h]
def gv (g : G) : Value := .agg #[.int .i64 g.n, .int .i64 g.behind, .int .i64 g.code]
theorem gv_eq {n b c : Int} {g : G} (h1 : n = g.n) (h2 : b = g.behind) (h3 : c = g.code) : Ending.returned (.agg #[.int .i64 n, .int .i64 b, .int .i64 c]) = .returned (gv g) := by subst h1 h2 h3; rfl
end Go.Proofs.Ytmahpmjkejnkfaa
