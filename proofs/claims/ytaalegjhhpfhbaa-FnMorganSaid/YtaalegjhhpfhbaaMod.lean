/- What the products modulo m of both sides answer, for all numbers: one number. -/
import Derived.Test.YtaalegjhhpfhbaaInts
import Derived.Deep.QuietTactic
import Derived.BigQuiet
import Derived.WalkSmall
namespace Go.Proofs.Ytaalegjhhpfhbaa
open Go.RowKit
set_option linter.unusedVariables false

theorem retN {k : IntKind} {a b : Int} (h : a = b) : Ending.returned (.int k a) = .returned (.int k b) := by rw [h]
theorem grownN {a w : World} (h : Grown a w) (n : Nat) : Grown a (w.drewN n) := h
/- the modulus is right -/
abbrev ModOk (m : Int) : Prop := 2 ≤ m ∧ m ≤ 2147483647
def mulN (x y k : Nat) : Nat := x % k * (y % k) % k
def mulM (a b m : Int) : Int := if 0 ≤ a ∧ 0 ≤ b ∧ ModOk m then (mulN a.toNat b.toNat m.toNat : Int) else 0
theorem mulM_no {a b m : Int} (h : ¬ (0 ≤ a ∧ 0 ≤ b ∧ ModOk m)) : mulM a b m = 0 := if_neg h
theorem mulM_yes {x y k : Nat} (h : ModOk k) : mulM x y k = (mulN x y k : Int) := by
  unfold mulM; rw [if_pos ⟨by omega, by omega, h⟩]; simp
theorem mulN_lt {x y k : Nat} (h : 2 ≤ k) : mulN x y k < k := Nat.mod_lt _ (by omega)
theorem prod_bd {p q k : Nat} (hp : p < k) (hq : q < k) (hk : k ≤ 2147483647) : p * q ≤ 4611686014132420609 := by
  have h := Nat.mul_le_mul (show p ≤ 2147483647 by omega) (show q ≤ 2147483647 by omega)
  omega

theorem modR_yes (m : Int) (w : World) (h1 : 2 ≤ m) (h2 : m ≤ 2147483647) :
    Calls Try.prog 179 #[.int .i64 m] w fun e w' => e = .returned (.bool true) ∧ w' = w := by
  have d1 : decide (2 ≤ m) = true := decide_eq_true h1
  have d2 : decide (m ≤ 2147483647) = true := decide_eq_true (by omega)
  go_enter Try.func179, Try.ntmps179
  go_wp2
  go_ret
  exact ⟨rfl, rfl⟩
theorem unitR_yes (m : Int) (w : World) (h1 : 1 ≤ m) (h2 : m < 2147483579) :
    Calls Try.prog 172 #[.int .i64 m] w fun e w' => e = .returned (.bool true) ∧ w' = w := by
  have d1 : decide (1 ≤ m) = true := decide_eq_true h1
  have d2 : decide (m < 2147483579) = true := decide_eq_true (by omega)
  go_enter Try.func172, Try.ntmps172
  go_wp2
  go_ret
  exact ⟨rfl, rfl⟩
theorem mul_parts {a b m : Int} (ha : 0 ≤ a) (hb : 0 ≤ b) (h2 : 2 ≤ m) (hm : m ≤ 2147483647) :
    ∃ p q z r : Int, a % m = p ∧ b % m = q ∧ p * q = z ∧ z % m = r ∧ Hid (mulM a b m = r) ∧ 0 ≤ p ∧ 0 ≤ q ∧ 0 ≤ z ∧ p ≤ 2147483647 ∧ q ≤ 2147483647 ∧ z ≤ 4611686014132420609 := by
  obtain ⟨x, rfl⟩ := Int.eq_ofNat_of_zero_le ha
  obtain ⟨y, rfl⟩ := Int.eq_ofNat_of_zero_le hb
  obtain ⟨k, rfl⟩ := Int.eq_ofNat_of_zero_le (show 0 ≤ m by omega)
  have h1 : x % k < k := Nat.mod_lt _ (by omega)
  have h3 : y % k < k := Nat.mod_lt _ (by omega)
  have hz := prod_bd h1 h3 (by omega)
  refine ⟨(x % k : Nat), (y % k : Nat), (x % k * (y % k) : Nat), (mulN x y k : Nat), by simp, by simp, by simp, by unfold mulN; norm_cast, mulM_yes ⟨h2, hm⟩, by omega, by omega, by omega, by omega, by omega, by omega⟩

end Go.Proofs.Ytaalegjhhpfhbaa
