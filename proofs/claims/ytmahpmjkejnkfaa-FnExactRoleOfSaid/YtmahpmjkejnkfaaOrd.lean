/- The order of GroupG is GroupQ: GroupQ is a prime, so no power below it is 1; what follows for signatures. -/
import Derived.Test.YtmahpmjkejnkfaaGrpM
import Derived.Test.YtmahpmjkejnkfaaSec
namespace Go.Proofs.Ytmahpmjkejnkfaa
open Go.RowKit
set_option linter.unusedVariables false

theorem powN_gcd {x p : Nat} (hp : 1 < p) (a b : Nat) (ha : powN x a p = 1) (hb : powN x b p = 1) : powN x (Nat.gcd a b) p = 1 := by
  induction a, b using Nat.gcd.induction with
  | H0 n => rw [Nat.gcd_zero_left]; exact hb
  | H1 m n hm ih =>
    rw [Nat.gcd_rec]
    exact ih (by rw [powN_mod ha hp]; exact hb) ha
/- No number from 2 to n + 1 divides q. -/
def noDiv (q : Nat) : Nat → Bool
  | 0 => true
  | n + 1 => (!(Nat.beq (q % (n + 2)) 0)) && noDiv q n
theorem noDiv_all {q : Nat} : ∀ {n d : Nat}, noDiv q n = true → 2 ≤ d → d ≤ n + 1 → q % d ≠ 0
  | 0, d, _, h1, h2 => by omega
  | n + 1, d, h, h1, h2 => by
    rw [noDiv, Bool.and_eq_true] at h
    by_cases e : d = n + 2
    · subst e
      intro hz
      rw [hz] at h
      simp at h
    · exact noDiv_all h.2 h1 (by omega)
theorem noDiv_q : noDiv 1073741789 32768 = true := by decide +kernel
theorem q_prime {d : Nat} (h : d ∣ 1073741789) (h1 : d < 1073741789) : d = 1 := by
  obtain ⟨c, hc⟩ := h
  have d0 : 0 < d := Nat.pos_of_ne_zero (fun e => by subst e; simp at hc)
  have c0 : 0 < c := Nat.pos_of_ne_zero (fun e => by subst e; simp at hc)
  refine Decidable.byContradiction fun hd => ?_
  have hc2 : 2 ≤ c := by
    refine Nat.lt_of_le_of_ne c0 fun e => ?_
    subst e
    omega
  have key : d ≤ 32769 ∨ c ≤ 32769 := by
    refine Decidable.byContradiction fun hn => ?_
    have h2 : 32770 ≤ d := by omega
    have h3 : 32770 ≤ c := by omega
    have := Nat.mul_le_mul h2 h3
    omega
  rcases key with hk | hk
  · exact noDiv_all noDiv_q (show 2 ≤ d by omega) (by omega) (by rw [hc]; exact Nat.mul_mod_right d c)
  · exact noDiv_all noDiv_q hc2 (by omega) (by rw [hc]; exact Nat.mul_mod_left d c)
theorem g_ne_one {x : Nat} (h1 : 1 ≤ x) (h2 : x < 1073741789) : powN 4 x 2147483579 ≠ 1 := by
  intro h
  have hg := powN_gcd (x := 4) (p := 2147483579) (by decide) 1073741789 x order_g h
  have hd : Nat.gcd 1073741789 x ∣ 1073741789 := Nat.gcd_dvd_left _ _
  have hl : Nat.gcd 1073741789 x ≤ x := Nat.gcd_le_right _ (by omega)
  rw [q_prime hd (by omega)] at hg
  unfold powN at hg
  simp at hg
/- The key of a secret is of the group, and is not 1. -/
theorem key_right {x : Nat} (h1 : 1 ≤ x) (h2 : x < 1073741789) : 1 < powN 4 x 2147483579 ∧ powN 4 x 2147483579 < 2147483579 ∧ powN (powN 4 x 2147483579) 1073741789 2147483579 = 1 := by
  have h3 : 0 < powN 4 x 2147483579 := powN_pos order_g (by decide) (by decide)
  have h4 := g_ne_one h1 h2
  refine ⟨by omega, powN_lt (by decide), ?_⟩
  rw [powN_mul, Nat.mul_comm, powN_one order_g (by decide)]
/- What a secret has signed passes: the check comes back to the power of k. -/
theorem sign_back {x k e : Nat} (hk : k < 1073741789) (he : e < 1073741789) : powN 4 ((k + e * x % 1073741789) % 1073741789) 2147483579 * powN (powN 4 x 2147483579) (1073741789 - e) 2147483579 % 2147483579 = powN 4 k 2147483579 := by
  rw [powN_mul, powN_mod order_g (by decide), powN_add]
  have e1 : powN 4 (k + e * x % 1073741789 + x * (1073741789 - e)) 2147483579 = powN 4 ((k + e * x % 1073741789 + x * (1073741789 - e)) % 1073741789) 2147483579 := (powN_mod order_g (by decide) _).symm
  have e2 : (k + e * x % 1073741789 + x * (1073741789 - e)) % 1073741789 = k := by
    have a1 : (k + e * x % 1073741789 + x * (1073741789 - e)) % 1073741789 = (k + e * x + x * (1073741789 - e)) % 1073741789 := by omega
    have a2 : k + e * x + x * (1073741789 - e) = k + 1073741789 * x := by
      rw [Nat.mul_sub, Nat.mul_comm x e, Nat.mul_comm x 1073741789]
      have := Nat.mul_le_mul_right x (Nat.le_of_lt he)
      omega
    rw [a1, a2, Nat.add_mul_mod_self_left, Nat.mod_eq_of_lt hk]
  rw [e1, e2]
/- The same in the numbers of the program. -/
theorem powM_nat (y n : Nat) : powM (y : Int) (n : Int) 2147483579 = (powN y n 2147483579 : Int) := powM_yes (k := 2147483579) ⟨by decide, by decide⟩
theorem powM_lt {y n : Int} : powM y n 2147483579 < 2147483579 := by
  unfold powM
  split
  · have := powN_lt (x := y.toNat) (n := n.toNat) (k := (2147483579 : Int).toNat) (by decide)
    show (_ : Int) < 2147483579
    omega
  · decide
theorem upow_eq {y n : Int} (hg : grB y = true) (h0 : 0 ≤ n) : upow y n = powM y n 2147483579 := by
  unfold grB at hg
  rw [Bool.and_eq_true, decide_eq_true_eq] at hg
  obtain ⟨⟨h1, h2⟩, h3⟩ := hg
  obtain ⟨a, rfl⟩ := Int.eq_ofNat_of_zero_le (show 0 ≤ y by omega)
  obtain ⟨b, rfl⟩ := Int.eq_ofNat_of_zero_le h0
  have h4 : powN a 1073741789 2147483579 = 1 := by
    have := eq_of_beq h3
    rw [show (1073741789 : Int) = ((1073741789 : Nat) : Int) from rfl, powM_nat a 1073741789] at this
    omega
  unfold upow
  rw [show ((b : Int) % 1073741789) = ((b % 1073741789 : Nat) : Int) by simp, powM_nat, powM_nat, powN_mod h4 (by decide)]
theorem powM_pos {y n : Int} (hg : grB y = true) (h0 : 0 ≤ n) : 1 ≤ powM y n 2147483579 := by
  unfold grB at hg
  rw [Bool.and_eq_true, decide_eq_true_eq] at hg
  obtain ⟨⟨h1, h2⟩, h3⟩ := hg
  obtain ⟨a, rfl⟩ := Int.eq_ofNat_of_zero_le (show 0 ≤ y by omega)
  obtain ⟨b, rfl⟩ := Int.eq_ofNat_of_zero_le h0
  have h4 : powN a 1073741789 2147483579 = 1 := by
    have := eq_of_beq h3
    rw [show (1073741789 : Int) = ((1073741789 : Nat) : Int) from rfl, powM_nat a 1073741789] at this
    omega
  have := powN_pos (n := b) h4 (by decide) (by decide)
  rw [powM_nat]
  omega
theorem gr_g : grB 4 = true := by
  unfold grB
  rw [decide_eq_true (by omega), Bool.true_and, show (1073741789 : Int) = ((1073741789 : Nat) : Int) from rfl, show (4 : Int) = ((4 : Nat) : Int) from rfl, powM_nat 4 1073741789, order_g]
  rfl
theorem gr_key {x : Int} (h : IsSec x) : grB (powM 4 x 2147483579) = true := by
  obtain ⟨a, rfl⟩ := Int.eq_ofNat_of_zero_le (show 0 ≤ x by omega)
  obtain ⟨k1, k2, k3⟩ := key_right (x := a) (by omega) (by omega)
  rw [show (4 : Int) = ((4 : Nat) : Int) from rfl, powM_nat]
  unfold grB
  rw [decide_eq_true (by omega), Bool.true_and, show (1073741789 : Int) = ((1073741789 : Nat) : Int) from rfl, powM_nat, k3]
  rfl
theorem back {x k e : Int} (hx : IsSec x) (h1 : 0 ≤ k) (h2 : k < 1073741789) (h3 : 0 ≤ e) (h4 : e < 1073741789) : powM 4 ((k + e * x % 1073741789) % 1073741789) 2147483579 * powM (powM 4 x 2147483579) (1073741789 - e) 2147483579 % 2147483579 = powM 4 k 2147483579 := by
  obtain ⟨a, rfl⟩ := Int.eq_ofNat_of_zero_le (show 0 ≤ x by omega)
  obtain ⟨b, rfl⟩ := Int.eq_ofNat_of_zero_le h1
  obtain ⟨c, rfl⟩ := Int.eq_ofNat_of_zero_le h3
  have hs := sign_back (x := a) (k := b) (e := c) (by omega) (by omega)
  rw [show ((b : Int) + (c : Int) * (a : Int) % 1073741789) % 1073741789 = (((b + c * a % 1073741789) % 1073741789 : Nat) : Int) by simp, show (1073741789 - (c : Int)) = ((1073741789 - c : Nat) : Int) by omega, show (4 : Int) = ((4 : Nat) : Int) from rfl, powM_nat, powM_nat, powM_nat, powM_nat, ← hs]
  simp
theorem powN_zero {q k : Nat} (hq : 0 < q) : powN 0 q k = 0 := by
  unfold powN
  rw [Nat.zero_pow hq, Nat.zero_mod]
theorem powN_prod (a b q p : Nat) : powN (a * b % p) q p = powN a q p * powN b q p % p := by
  unfold powN
  rw [← Nat.pow_mod, Nat.mul_pow, Nat.mul_mod]
theorem prod_pos {y s n : Int} (hg : grB y = true) (h0 : 0 ≤ s) (h1 : 0 ≤ n) : 1 ≤ powM 4 s 2147483579 * powM y n 2147483579 % 2147483579 := by
  unfold grB at hg
  rw [Bool.and_eq_true, decide_eq_true_eq] at hg
  obtain ⟨⟨g1, g2⟩, g3⟩ := hg
  obtain ⟨a, rfl⟩ := Int.eq_ofNat_of_zero_le (show 0 ≤ y by omega)
  obtain ⟨b, rfl⟩ := Int.eq_ofNat_of_zero_le h0
  obtain ⟨c, rfl⟩ := Int.eq_ofNat_of_zero_le h1
  have h4 : powN a 1073741789 2147483579 = 1 := by
    have := eq_of_beq g3
    rw [show (1073741789 : Int) = ((1073741789 : Nat) : Int) from rfl, powM_nat a 1073741789] at this
    omega
  have k1 : powN (powN 4 b 2147483579) 1073741789 2147483579 = 1 := by rw [powN_mul, Nat.mul_comm, powN_one order_g (by decide)]
  have k2 : powN (powN a c 2147483579) 1073741789 2147483579 = 1 := by rw [powN_mul, Nat.mul_comm, powN_one h4 (by decide)]
  have k3 := powN_prod (powN 4 b 2147483579) (powN a c 2147483579) 1073741789 2147483579
  rw [k1, k2] at k3
  have k4 : powN 4 b 2147483579 * powN a c 2147483579 % 2147483579 ≠ 0 := by
    intro hz
    rw [hz, powN_zero (by decide)] at k3
    exact absurd k3 (by decide)
  rw [show (4 : Int) = ((4 : Nat) : Int) from rfl, powM_nat, powM_nat]
  have k5 : ((powN 4 b 2147483579 : Int) * (powN a c 2147483579 : Int)) % 2147483579 = ((powN 4 b 2147483579 * powN a c 2147483579 % 2147483579 : Nat) : Int) := by simp
  rw [k5]
  omega
end Go.Proofs.Ytmahpmjkejnkfaa
