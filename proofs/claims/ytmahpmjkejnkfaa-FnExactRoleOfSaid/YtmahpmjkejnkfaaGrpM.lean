/- The group's arithmetic: powers that add up, inverses, and that GroupG's power GroupQ is 1. -/
import Derived.Test.YtmahpmjkejnkfaaPow
namespace Go.Proofs.Ytmahpmjkejnkfaa
open Go.RowKit
set_option linter.unusedVariables false

theorem powN_lt {x n k : Nat} (h : 0 < k) : powN x n k < k := Nat.mod_lt _ h
theorem powN_add (x a b k : Nat) : powN x a k * powN x b k % k = powN x (a + b) k := by
  unfold powN
  rw [← Nat.mul_mod, ← Nat.pow_add]
theorem powN_mul (x a b k : Nat) : powN (powN x a k) b k = powN x (a * b) k := by
  unfold powN
  rw [← Nat.pow_mod, ← Nat.pow_mul]
theorem powN_one {x q k : Nat} (h : powN x q k = 1) (hk : 1 < k) (m : Nat) : powN x (q * m) k = 1 := by
  rw [← powN_mul, h]
  unfold powN
  rw [Nat.one_pow, Nat.mod_eq_of_lt hk]
theorem powN_mod {x q k : Nat} (h : powN x q k = 1) (hk : 1 < k) (n : Nat) : powN x (n % q) k = powN x n k := by
  have e : n = q * (n / q) + n % q := (Nat.div_add_mod n q).symm
  have h1 := powN_one h hk (n / q)
  have h2 := powN_add x (q * (n / q)) (n % q) k
  rw [h1, Nat.one_mul, ← e] at h2
  rw [← h2]
  exact (Nat.mod_eq_of_lt (powN_lt (by omega))).symm
theorem powN_pos {x q k n : Nat} (h : powN x q k = 1) (hk : 1 < k) (hq : 0 < q) : 0 < powN x n k := by
  refine Nat.pos_of_ne_zero fun e => ?_
  have h1 : powN (powN x n k) q k = 1 := by
    rw [powN_mul, Nat.mul_comm, powN_one h hk]
  rw [e] at h1
  unfold powN at h1
  rw [Nat.zero_pow hq] at h1
  simp at h1
/- A number times its inverse, and the inverse by the order. -/
theorem inv_right {y p q : Nat} (hp : p = 2 * q + 1) (hq : 0 < q) (h : powN y q p = 1) (hy : y < p) : y * powN y (p - 2) p % p = 1 := by
  have h1 := powN_add y 1 (p - 2) p
  have e1 : powN y 1 p = y := by unfold powN; rw [Nat.pow_one, Nat.mod_eq_of_lt hy]
  rw [e1, show 1 + (p - 2) = q * 2 by omega, powN_one h (by omega)] at h1
  exact h1
theorem inv_order {y p q : Nat} (hp : p = 2 * q + 1) (hq : 0 < q) (h : powN y q p = 1) : powN y (q - 1) p = powN y (p - 2) p := by
  rw [← powN_mod h (by omega) (p - 2)]
  congr 1
  rw [show p - 2 = q + (q - 1) by omega, Nat.add_mod_left, Nat.mod_eq_of_lt (by omega)]
/- Powers by squares, for the kernel to reckon. -/
def fastP (m : Nat) : Nat → Nat → Nat → Nat → Nat
  | 0, _, _, acc => acc
  | f + 1, b, e, acc => fastP m f (b * b % m) (e / 2) (if e % 2 = 1 then acc * b % m else acc)
theorem fastP_eq (m : Nat) : ∀ (f b e acc : Nat), e < 2 ^ f → fastP m f b e acc % m = acc * b ^ e % m
  | 0, b, e, acc, h => by
    have : e = 0 := by simpa using h
    subst this
    simp [fastP]
  | f + 1, b, e, acc, h => by
    have hlt : e / 2 < 2 ^ f := by rw [Nat.pow_succ] at h; omega
    rw [fastP, fastP_eq m f _ _ _ hlt]
    have hs : (b * b % m) ^ (e / 2) % m = b ^ (2 * (e / 2)) % m := by
      rw [← Nat.pow_mod, Nat.pow_mul, show b ^ 2 = b * b by rw [Nat.pow_succ, Nat.pow_succ, Nat.pow_zero, Nat.one_mul]]
    by_cases ho : e % 2 = 1
    · rw [if_pos ho, Nat.mul_mod, Nat.mod_mod, hs, ← Nat.mul_mod, Nat.mul_assoc]
      congr 2
      rw [show e = 2 * (e / 2) + 1 by omega, Nat.pow_succ, Nat.mul_comm, show (2 * (e / 2) + 1) / 2 = e / 2 by omega]
    · rw [if_neg ho, Nat.mul_mod, hs, ← Nat.mul_mod]
      congr 2
      rw [show 2 * (e / 2) = e by omega]
theorem powN_fast (x n k : Nat) (h : n < 2 ^ 31) : powN x n k = fastP k 31 x n 1 % k := by
  rw [fastP_eq k 31 x n 1 h, Nat.one_mul]
  rfl
theorem order_g : powN 4 1073741789 2147483579 = 1 := (powN_fast 4 1073741789 2147483579 (by decide)).trans (by decide +kernel)
end Go.Proofs.Ytmahpmjkejnkfaa
