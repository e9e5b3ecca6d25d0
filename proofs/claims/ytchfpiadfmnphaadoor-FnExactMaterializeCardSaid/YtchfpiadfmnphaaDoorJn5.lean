/- What the products modulo m of both sides answer, for all numbers: one number. What the powers modulo m of both sides answer, for all numbers: one number, and that it is the power. What ModInv, GroupRight and GroupMul of both sides answer, for all numbers. -/
import Derived.Test.YtchfpiadfmnphaaDoorJn4
import Derived.Deep.QuietTactic
import Derived.BigQuiet
import Derived.WalkSmall
namespace Go.Proofs.YtchfpiadfmnphaaDoor
open Go.RowKit
set_option linter.unusedVariables false

theorem retN {k : IntKind} {a b : Int} (h : a = b) : Ending.returned (.int k a) = .returned (.int k b) := by rw [h]
theorem grownN {a w : World} (h : Grown a w) (n : Nat) : Grown a (w.drewN n) := h
/- the modulus is right -/
abbrev ModOk (m : Int) : Prop := 2 ≤ m ∧ m ≤ 2147483647
def mulN (x y k : Nat) : Nat := x % k * (y % k) % k
def mulM (a b m : Int) : Int := if 0 ≤ a ∧ 0 ≤ b ∧ ModOk m then (mulN a.toNat b.toNat m.toNat : Int) else 0
theorem mulM_no {a b m : Int} (h : ¬ (0 ≤ a ∧ 0 ≤ b ∧ ModOk m)) : mulM a b m = 0 := if_neg h
theorem mulM_yes {x y k : Nat} (h : ModOk k) : mulM x y k = (mulN x y k : Int) := by
  unfold mulM; rw [if_pos ⟨by omega, by omega, h⟩]; simp
theorem mulN_lt {x y k : Nat} (h : 2 ≤ k) : mulN x y k < k := Nat.mod_lt _ (by omega)
theorem prod_bd {p q k : Nat} (hp : p < k) (hq : q < k) (hk : k ≤ 2147483647) : p * q ≤ 4611686014132420609 := by
  have h := Nat.mul_le_mul (show p ≤ 2147483647 by omega) (show q ≤ 2147483647 by omega)
  omega

theorem mul_parts {a b m : Int} (ha : 0 ≤ a) (hb : 0 ≤ b) (h2 : 2 ≤ m) (hm : m ≤ 2147483647) :
    ∃ p q z r : Int, a % m = p ∧ b % m = q ∧ p * q = z ∧ z % m = r ∧ Hid (mulM a b m = r) ∧ 0 ≤ p ∧ 0 ≤ q ∧ 0 ≤ z ∧ p ≤ 2147483647 ∧ q ≤ 2147483647 ∧ z ≤ 4611686014132420609 := by
  obtain ⟨x, rfl⟩ := Int.eq_ofNat_of_zero_le ha
  obtain ⟨y, rfl⟩ := Int.eq_ofNat_of_zero_le hb
  obtain ⟨k, rfl⟩ := Int.eq_ofNat_of_zero_le (show 0 ≤ m by omega)
  have h1 : x % k < k := Nat.mod_lt _ (by omega)
  have h3 : y % k < k := Nat.mod_lt _ (by omega)
  have hz := prod_bd h1 h3 (by omega)
  refine ⟨(x % k : Nat), (y % k : Nat), (x % k * (y % k) : Nat), (mulN x y k : Nat), by simp, by simp, by simp, by unfold mulN; norm_cast, mulM_yes ⟨h2, hm⟩, by omega, by omega, by omega, by omega, by omega, by omega⟩

end Go.Proofs.YtchfpiadfmnphaaDoor
namespace Go.Proofs.YtchfpiadfmnphaaDoor
open Go.RowKit
set_option linter.unusedVariables false

def powN (x n k : Nat) : Nat := x ^ n % k
def powM (a n m : Int) : Int := if 0 ≤ a ∧ 0 ≤ n ∧ ModOk m then (powN a.toNat n.toNat m.toNat : Int) else 0
theorem powM_no {a n m : Int} (h : ¬ (0 ≤ a ∧ 0 ≤ n ∧ ModOk m)) : powM a n m = 0 := if_neg h
theorem powM_yes {x n k : Nat} (h : ModOk k) : powM x n k = (powN x n k : Int) := by
  unfold powM; rw [if_pos ⟨by omega, by omega, h⟩]; simp
/- What holds at the head of a round: out times the square's power is what is asked for. -/
structure Pw (R m o s : Int) (n : Nat) : Prop where
  o0 : 0 ≤ o
  o1 : o ≤ 2147483647
  s0 : 0 ≤ s
  s1 : s ≤ 2147483647
  eq : (o * s ^ n) % m = R
theorem Pw.start {a m : Int} {n : Nat} (ha : 0 ≤ a) (h2 : 2 ≤ m) (hm : m ≤ 2147483647) : Pw (powM a n m) m 1 (a % m) n := by
  have h0 := Int.emod_nonneg a (show m ≠ 0 by omega)
  have h1 := Int.emod_lt_of_pos a (show 0 < m by omega)
  refine ⟨by omega, by omega, h0, by omega, ?_⟩
  obtain ⟨x, rfl⟩ := Int.eq_ofNat_of_zero_le ha
  obtain ⟨k, rfl⟩ := Int.eq_ofNat_of_zero_le (show 0 ≤ m by omega)
  rw [powM_yes ⟨h2, hm⟩, Int.one_mul]
  unfold powN
  rw [show ((x : Int) % (k : Int)) ^ n = (((x % k) ^ n : Nat) : Int) by simp, ← Int.natCast_emod, ← Nat.pow_mod]
theorem mul_bd {o s : Int} (o0 : 0 ≤ o) (o1 : o ≤ 2147483647) (s0 : 0 ≤ s) (s1 : s ≤ 2147483647) : 0 ≤ o * s ∧ o * s ≤ 4611686014132420609 := by
  refine ⟨Int.mul_nonneg o0 s0, ?_⟩
  have := Int.mul_le_mul o1 s1 s0 (by omega : (0 : Int) ≤ 2147483647)
  omega
theorem Pw.done {R m o s : Int} (h : Pw R m o s 0) (hlt : o < m) : o = R := by
  have := h.eq
  rw [Int.pow_zero, Int.mul_one, Int.emod_eq_of_lt h.o0 hlt] at this
  exact this
theorem emod_pow' (x m : Int) (n : Nat) : (x % m) ^ n % m = x ^ n % m := by
  induction n with
  | zero => simp
  | succ n ih => rw [Int.pow_succ, Int.pow_succ, Int.mul_emod, ih, Int.emod_emod_of_dvd _ (Int.dvd_refl m), ← Int.mul_emod]
theorem Pw.even {R m o s q : Int} {n : Nat} (h : Pw R m o s n) (h2 : 2 ≤ m) (hm : m ≤ 2147483647) (he : n % 2 = 0) (hq : (s * s) % m = q) : Pw R m o q (n / 2) := by
  have h0 := Int.emod_nonneg (s * s) (show m ≠ 0 by omega)
  have h1 := Int.emod_lt_of_pos (s * s) (show 0 < m by omega)
  refine ⟨h.o0, h.o1, by omega, by omega, ?_⟩
  rw [← hq, ← h.eq]
  have hn : n = 2 * (n / 2) := by omega
  conv => rhs; rw [hn, Int.pow_mul, show s ^ 2 = s * s by rw [Int.pow_succ, Int.pow_succ, Int.pow_zero, Int.one_mul]]
  rw [Int.mul_emod, emod_pow', ← Int.mul_emod]
theorem Pw.odd {R m o s p q : Int} {n : Nat} (h : Pw R m o s n) (h2 : 2 ≤ m) (hm : m ≤ 2147483647) (he : n % 2 = 1) (hp : (o * s) % m = p) (hq : (s * s) % m = q) : Pw R m p q (n / 2) := by
  have h0 := Int.emod_nonneg (s * s) (show m ≠ 0 by omega)
  have h1 := Int.emod_lt_of_pos (s * s) (show 0 < m by omega)
  have h3 := Int.emod_nonneg (o * s) (show m ≠ 0 by omega)
  have h4 := Int.emod_lt_of_pos (o * s) (show 0 < m by omega)
  refine ⟨by omega, by omega, by omega, by omega, ?_⟩
  rw [← hp, ← hq, ← h.eq]
  have hn : n = 2 * (n / 2) + 1 := by omega
  conv => rhs; rw [hn, Int.pow_succ, Int.pow_mul, show s ^ 2 = s * s by rw [Int.pow_succ, Int.pow_succ, Int.pow_zero, Int.one_mul], Int.mul_comm ((s * s) ^ (n / 2)) s, ← Int.mul_assoc]
  rw [Int.mul_emod, emod_pow', Int.emod_emod_of_dvd _ (Int.dvd_refl m), ← Int.mul_emod]

end Go.Proofs.YtchfpiadfmnphaaDoor
namespace Go.Proofs.YtchfpiadfmnphaaDoor
open Go.RowKit
set_option linter.unusedVariables false

theorem retB {a b : Bool} (h : a = b) : Ending.returned (.bool a) = .returned (.bool b) := by rw [h]
def invM (a m : Int) : Int := if 1 ≤ a ∧ a < m ∧ ModOk m then powM a (m - 2) m else 0
abbrev InG (y : Int) : Prop := 1 ≤ y ∧ y < 2147483579
def grB (y : Int) : Bool := decide (1 < y ∧ y < 2147483579) && (powM y 1073741789 2147483579 == 1)
def gmulM (a b : Int) : Int := if InG a ∧ InG b then mulM a b 2147483579 else 0
theorem i64_of {n : Int} (h1 : -9223372036854775808 ≤ n) (h2 : n ≤ 9223372036854775807) : I64 n := by
  unfold I64; simp [Lit.wf, IntKind.min, IntKind.max, IntKind.signed, IntKind.bits]; omega
theorem powM_ge {a n m : Int} : 0 ≤ powM a n m := by unfold powM; split <;> omega

theorem mul_in {a b : Int} (h1 : 1 ≤ a) (h2 : a < 2147483579) (h3 : 1 ≤ b) (h4 : b < 2147483579) :
    ∃ z : Int, a * b = z ∧ 0 ≤ z ∧ z ≤ 4611686014132420609 ∧ Hid (mulM a b 2147483579 = z % 2147483579) := by
  obtain ⟨p, q, z, r, e1, e2, e3, e4, HM, p0, q0, z0, p1, q1, z1⟩ := mul_parts (a := a) (b := b) (m := 2147483579) (by omega) (by omega) (by omega) (by omega)
  rw [Int.emod_eq_of_lt (by omega) h2] at e1
  rw [Int.emod_eq_of_lt (by omega) h4] at e2
  subst e1 e2
  exact ⟨z, e3, z0, z1, HM.out.trans e4.symm⟩
end Go.Proofs.YtchfpiadfmnphaaDoor
