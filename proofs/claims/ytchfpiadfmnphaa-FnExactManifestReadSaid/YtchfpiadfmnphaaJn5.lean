/- What the products modulo m of both sides answer, for all numbers: one number. What the powers modulo m of both sides answer, for all numbers: one number, and that it is the power. What ModInv, GroupRight and GroupMul of both sides answer, for all numbers. -/
import Derived.Test.YtchfpiadfmnphaaInts
import Derived.Deep.QuietTactic
import Derived.BigQuiet
import Derived.WalkSmall
namespace Go.Proofs.Ytchfpiadfmnphaa
open Go.RowKit
set_option linter.unusedVariables false

theorem retN {k : IntKind} {a b : Int} (h : a = b) : Ending.returned (.int k a) = .returned (.int k b) := by rw [h]
theorem grownN {a w : World} (h : Grown a w) (n : Nat) : Grown a (w.drewN n) := h
/- the modulus is right -/
abbrev ModOk (m : Int) : Prop := 2 ≤ m ∧ m ≤ 2147483647
def mulN (x y k : Nat) : Nat := x % k * (y % k) % k
def mulM (a b m : Int) : Int := if 0 ≤ a ∧ 0 ≤ b ∧ ModOk m then (mulN a.toNat b.toNat m.toNat : Int) else 0
theorem mulM_no {a b m : Int} (h : ¬ (0 ≤ a ∧ 0 ≤ b ∧ ModOk m)) : mulM a b m = 0 := if_neg h
theorem mulM_yes {x y k : Nat} (h : ModOk k) : mulM x y k = (mulN x y k : Int) := by
  unfold mulM; rw [if_pos ⟨by omega, by omega, h⟩]; simp
theorem mulN_lt {x y k : Nat} (h : 2 ≤ k) : mulN x y k < k := Nat.mod_lt _ (by omega)
theorem prod_bd {p q k : Nat} (hp : p < k) (hq : q < k) (hk : k ≤ 2147483647) : p * q ≤ 4611686014132420609 := by
  have h := Nat.mul_le_mul (show p ≤ 2147483647 by omega) (show q ≤ 2147483647 by omega)
  omega

theorem modR_yes (m : Int) (w : World) (h1 : 2 ≤ m) (h2 : m ≤ 2147483647) :
    Calls Try.prog 173 #[.int .i64 m] w fun e w' => e = .returned (.bool true) ∧ w' = w := by
  have d1 : decide (2 ≤ m) = true := decide_eq_true h1
  have d2 : decide (m ≤ 2147483647) = true := decide_eq_true (by omega)
  go_enter Try.func173, Try.ntmps173
  go_wp2
  go_ret
  exact ⟨rfl, rfl⟩
theorem unitR_yes (m : Int) (w : World) (h1 : 1 ≤ m) (h2 : m < 2147483579) :
    Calls Try.prog 166 #[.int .i64 m] w fun e w' => e = .returned (.bool true) ∧ w' = w := by
  have d1 : decide (1 ≤ m) = true := decide_eq_true h1
  have d2 : decide (m < 2147483579) = true := decide_eq_true (by omega)
  go_enter Try.func166, Try.ntmps166
  go_wp2
  go_ret
  exact ⟨rfl, rfl⟩
theorem mul_parts {a b m : Int} (ha : 0 ≤ a) (hb : 0 ≤ b) (h2 : 2 ≤ m) (hm : m ≤ 2147483647) :
    ∃ p q z r : Int, a % m = p ∧ b % m = q ∧ p * q = z ∧ z % m = r ∧ Hid (mulM a b m = r) ∧ 0 ≤ p ∧ 0 ≤ q ∧ 0 ≤ z ∧ p ≤ 2147483647 ∧ q ≤ 2147483647 ∧ z ≤ 4611686014132420609 := by
  obtain ⟨x, rfl⟩ := Int.eq_ofNat_of_zero_le ha
  obtain ⟨y, rfl⟩ := Int.eq_ofNat_of_zero_le hb
  obtain ⟨k, rfl⟩ := Int.eq_ofNat_of_zero_le (show 0 ≤ m by omega)
  have h1 : x % k < k := Nat.mod_lt _ (by omega)
  have h3 : y % k < k := Nat.mod_lt _ (by omega)
  have hz := prod_bd h1 h3 (by omega)
  refine ⟨(x % k : Nat), (y % k : Nat), (x % k * (y % k) : Nat), (mulN x y k : Nat), by simp, by simp, by simp, by unfold mulN; norm_cast, mulM_yes ⟨h2, hm⟩, by omega, by omega, by omega, by omega, by omega, by omega⟩

end Go.Proofs.Ytchfpiadfmnphaa
namespace Go.Proofs.Ytchfpiadfmnphaa
open Go.RowKit
set_option linter.unusedVariables false

def powN (x n k : Nat) : Nat := x ^ n % k
def powM (a n m : Int) : Int := if 0 ≤ a ∧ 0 ≤ n ∧ ModOk m then (powN a.toNat n.toNat m.toNat : Int) else 0
theorem powM_no {a n m : Int} (h : ¬ (0 ≤ a ∧ 0 ≤ n ∧ ModOk m)) : powM a n m = 0 := if_neg h
theorem powM_yes {x n k : Nat} (h : ModOk k) : powM x n k = (powN x n k : Int) := by
  unfold powM; rw [if_pos ⟨by omega, by omega, h⟩]; simp
/- What holds at the head of a round: out times the square's power is what is asked for. -/
structure Pw (R m o s : Int) (n : Nat) : Prop where
  o0 : 0 ≤ o
  o1 : o ≤ 2147483647
  s0 : 0 ≤ s
  s1 : s ≤ 2147483647
  eq : (o * s ^ n) % m = R
theorem Pw.start {a m : Int} {n : Nat} (ha : 0 ≤ a) (h2 : 2 ≤ m) (hm : m ≤ 2147483647) : Pw (powM a n m) m 1 (a % m) n := by
  have h0 := Int.emod_nonneg a (show m ≠ 0 by omega)
  have h1 := Int.emod_lt_of_pos a (show 0 < m by omega)
  refine ⟨by omega, by omega, h0, by omega, ?_⟩
  obtain ⟨x, rfl⟩ := Int.eq_ofNat_of_zero_le ha
  obtain ⟨k, rfl⟩ := Int.eq_ofNat_of_zero_le (show 0 ≤ m by omega)
  rw [powM_yes ⟨h2, hm⟩, Int.one_mul]
  unfold powN
  rw [show ((x : Int) % (k : Int)) ^ n = (((x % k) ^ n : Nat) : Int) by simp, ← Int.natCast_emod, ← Nat.pow_mod]
theorem mul_bd {o s : Int} (o0 : 0 ≤ o) (o1 : o ≤ 2147483647) (s0 : 0 ≤ s) (s1 : s ≤ 2147483647) : 0 ≤ o * s ∧ o * s ≤ 4611686014132420609 := by
  refine ⟨Int.mul_nonneg o0 s0, ?_⟩
  have := Int.mul_le_mul o1 s1 s0 (by omega : (0 : Int) ≤ 2147483647)
  omega
theorem Pw.done {R m o s : Int} (h : Pw R m o s 0) (hlt : o < m) : o = R := by
  have := h.eq
  rw [Int.pow_zero, Int.mul_one, Int.emod_eq_of_lt h.o0 hlt] at this
  exact this
theorem emod_pow' (x m : Int) (n : Nat) : (x % m) ^ n % m = x ^ n % m := by
  induction n with
  | zero => simp
  | succ n ih => rw [Int.pow_succ, Int.pow_succ, Int.mul_emod, ih, Int.emod_emod_of_dvd _ (Int.dvd_refl m), ← Int.mul_emod]
theorem Pw.even {R m o s q : Int} {n : Nat} (h : Pw R m o s n) (h2 : 2 ≤ m) (hm : m ≤ 2147483647) (he : n % 2 = 0) (hq : (s * s) % m = q) : Pw R m o q (n / 2) := by
  have h0 := Int.emod_nonneg (s * s) (show m ≠ 0 by omega)
  have h1 := Int.emod_lt_of_pos (s * s) (show 0 < m by omega)
  refine ⟨h.o0, h.o1, by omega, by omega, ?_⟩
  rw [← hq, ← h.eq]
  have hn : n = 2 * (n / 2) := by omega
  conv => rhs; rw [hn, Int.pow_mul, show s ^ 2 = s * s by rw [Int.pow_succ, Int.pow_succ, Int.pow_zero, Int.one_mul]]
  rw [Int.mul_emod, emod_pow', ← Int.mul_emod]
theorem Pw.odd {R m o s p q : Int} {n : Nat} (h : Pw R m o s n) (h2 : 2 ≤ m) (hm : m ≤ 2147483647) (he : n % 2 = 1) (hp : (o * s) % m = p) (hq : (s * s) % m = q) : Pw R m p q (n / 2) := by
  have h0 := Int.emod_nonneg (s * s) (show m ≠ 0 by omega)
  have h1 := Int.emod_lt_of_pos (s * s) (show 0 < m by omega)
  have h3 := Int.emod_nonneg (o * s) (show m ≠ 0 by omega)
  have h4 := Int.emod_lt_of_pos (o * s) (show 0 < m by omega)
  refine ⟨by omega, by omega, by omega, by omega, ?_⟩
  rw [← hp, ← hq, ← h.eq]
  have hn : n = 2 * (n / 2) + 1 := by omega
  conv => rhs; rw [hn, Int.pow_succ, Int.pow_mul, show s ^ 2 = s * s by rw [Int.pow_succ, Int.pow_succ, Int.pow_zero, Int.one_mul], Int.mul_comm ((s * s) ^ (n / 2)) s, ← Int.mul_assoc]
  rw [Int.mul_emod, emod_pow', Int.emod_emod_of_dvd _ (Int.dvd_refl m), ← Int.mul_emod]

set_option maxRecDepth 100000 in
set_option maxHeartbeats 1000000 in
theorem specPow0 (a b m : Int) (w : World) (ha : I64 a) (hb : I64 b) (h1' : 0 ≤ a) (h2' : 0 ≤ b) (h3' : 2 ≤ m) (h4' : m ≤ 2147483647) :
    Calls Try.prog 153 #[.int .i64 a, .int .i64 b, .int .i64 m] w fun e w' => e = .returned (.int .i64 (powM a b m)) ∧ w' = w := by
  have ba := ha.bd.2
  have bb := hb.bd.2
  clear ha hb
  obtain ⟨n0, rfl⟩ := Int.eq_ofNat_of_zero_le h2'
  have hst : Pw (powM a n0 m) m 1 (a % m) n0 := Pw.start h1' h3' h4'
  have e1 : (1 : Int) % m = 1 := Int.emod_eq_of_lt (by omega) (by omega)
  obtain ⟨s0, hs0⟩ : ∃ s, a % m = s := ⟨_, rfl⟩
  rw [hs0] at hst
  have HS : Hid (Pw (powM a n0 m) m 1 s0 n0) := hst
  clear hst
  generalize powM a n0 m = R at *
  go_enter Try.func153, Try.ntmps153
  go_wp2
  go_loop [0, 1, 7] (fun vs vn vo => ∃ (o s : Int) (n : Nat), vo = .int .i64 o ∧ vs = .int .i64 s ∧ vn = .int .i64 n ∧ o < m ∧ n ≤ n0 ∧ Pw R m o s n) (fun vs vn vo => (intOf vn).toNat)
  case atStart => exact ⟨1, s0, n0, by rw [e1], by rw [hs0], rfl, by omega, Nat.le_refl _, HS.out⟩
  case round =>
    obtain ⟨o, s, n, rfl, rfl, rfl, hom, hnn, hpw⟩ := hrel
    have o0 := hpw.o0
    have o1 := hpw.o1
    have t0 := hpw.s0
    have t1 := hpw.s1
    obtain ⟨z0, z1⟩ := mul_bd o0 o1 t0 t1
    obtain ⟨y0, y1⟩ := mul_bd t0 t1 t0 t1
    obtain ⟨z, hz⟩ : ∃ z, o * s = z := ⟨_, rfl⟩
    obtain ⟨y, hy⟩ : ∃ y, s * s = y := ⟨_, rfl⟩
    rw [hz] at z0 z1
    rw [hy] at y0 y1
    have HP : Hid (Pw R m o s n) := hpw
    have HZ : Hid (o * s = z) := hz
    have HY : Hid (s * s = y) := hy
    clear hpw
    by_cases hn : 0 < n
    · by_cases hodd : n % 2 = 1
      · have d5 : ((n : Int) % 2 == 1) = true := beq_iff_eq.2 (by omega)
        have HQ : Hid (Pw R m (z % m) (y % m) (n / 2)) := HP.out.odd h3' h4' hodd (by rw [HZ.out]) (by rw [HY.out])
        have hlt : z % m < m := Int.emod_lt_of_pos z (by omega)
        clear hodd HP HZ HY
        go_wp2
        exact ⟨⟨_, _, n / 2, rfl, rfl, by go_num, hlt, by omega, HQ.out⟩, by simp [intOf]; omega⟩
      · have d5 : ((n : Int) % 2 == 1) = false := beq_eq_false_iff_ne.2 (by omega)
        have HQ : Hid (Pw R m o (y % m) (n / 2)) := HP.out.even h3' h4' (by omega) (by rw [HY.out])
        clear hodd HP HZ HY
        go_wp2
        exact ⟨⟨_, _, n / 2, rfl, rfl, by go_num, hom, by omega, HQ.out⟩, by simp [intOf]; omega⟩
    · obtain rfl : n = 0 := by omega
      go_wp2
      go_ret
      exact ⟨retN (HP.out.done hom), rfl⟩

set_option maxRecDepth 100000 in
set_option maxHeartbeats 1000000 in
theorem implPow (a b m : Int) (w : World) (ha : I64 a) (hb : I64 b) (hm : I64 m) :
    Calls Try.prog 167 #[.int .i64 a, .int .i64 b, .int .i64 m] w fun e w' => e = .returned (.int .i64 (powM a b m)) ∧ w' = w := by
  by_cases h1 : a < 0
  · have HR : Hid (powM a b m = 0) := powM_no (by omega)
    go_enter Try.func167, Try.ntmps167
    go_wp2
    go_ret
    exact ⟨retN HR.out.symm, rfl⟩
  have d1 : decide (a < 0) = false := decide_eq_false h1
  by_cases h2 : b < 0
  · have HR : Hid (powM a b m = 0) := powM_no (by omega)
    go_enter Try.func167, Try.ntmps167
    go_wp2
    go_ret
    exact ⟨retN HR.out.symm, rfl⟩
  have d2 : decide (b < 0) = false := decide_eq_false h2
  by_cases h3 : m < 2
  · have HR : Hid (powM a b m = 0) := powM_no (by unfold ModOk; omega)
    have d3 : decide (2 ≤ m) = false := decide_eq_false (by omega)
    go_enter Try.func167, Try.ntmps167
    go_wp2
    go_ret
    exact ⟨retN HR.out.symm, rfl⟩
  have d3 : decide (2 ≤ m) = true := decide_eq_true (by omega)
  by_cases h4 : 2147483648 ≤ m
  · have HR : Hid (powM a b m = 0) := powM_no (by unfold ModOk; omega)
    have d4 : decide (m ≤ 2147483647) = false := decide_eq_false (by omega)
    go_enter Try.func167, Try.ntmps167
    go_wp2
    go_ret
    exact ⟨retN HR.out.symm, rfl⟩
  have d4 : decide (m ≤ 2147483647) = true := decide_eq_true (by omega)
  have h1' : 0 ≤ a := by omega
  have h2' : 0 ≤ b := by omega
  have h3' : 2 ≤ m := by omega
  have h4' : m ≤ 2147483647 := by omega
  clear h1 h2 h3 h4
  have ba := ha.bd.2
  have bb := hb.bd.2
  clear ha hb
  obtain ⟨n0, rfl⟩ := Int.eq_ofNat_of_zero_le h2'
  have hst : Pw (powM a n0 m) m 1 (a % m) n0 := Pw.start h1' h3' h4'
  have e1 : (1 : Int) % m = 1 := Int.emod_eq_of_lt (by omega) (by omega)
  obtain ⟨s0, hs0⟩ : ∃ s, a % m = s := ⟨_, rfl⟩
  rw [hs0] at hst
  have HS : Hid (Pw (powM a n0 m) m 1 s0 n0) := hst
  clear hst
  generalize powM a n0 m = R at *
  go_enter Try.func167, Try.ntmps167
  go_wp2
  go_loop [1, 7, 8] (fun vn vo vs => ∃ (o s : Int) (n : Nat), vo = .int .i64 o ∧ vs = .int .i64 s ∧ vn = .int .i64 n ∧ o < m ∧ n ≤ n0 ∧ Pw R m o s n) (fun vn vo vs => (intOf vn).toNat)
  case atStart => exact ⟨1, s0, n0, rfl, by rw [hs0], rfl, by omega, Nat.le_refl _, HS.out⟩
  case round =>
    obtain ⟨o, s, n, rfl, rfl, rfl, hom, hnn, hpw⟩ := hrel
    have o0 := hpw.o0
    have o1 := hpw.o1
    have t0 := hpw.s0
    have t1 := hpw.s1
    obtain ⟨z0, z1⟩ := mul_bd o0 o1 t0 t1
    obtain ⟨y0, y1⟩ := mul_bd t0 t1 t0 t1
    obtain ⟨z, hz⟩ : ∃ z, o * s = z := ⟨_, rfl⟩
    obtain ⟨y, hy⟩ : ∃ y, s * s = y := ⟨_, rfl⟩
    rw [hz] at z0 z1
    rw [hy] at y0 y1
    have HP : Hid (Pw R m o s n) := hpw
    have HZ : Hid (o * s = z) := hz
    have HY : Hid (s * s = y) := hy
    clear hpw
    by_cases hn : 0 < n
    · by_cases hodd : n % 2 = 1
      · have d5 : ((n : Int) % 2 == 1) = true := beq_iff_eq.2 (by omega)
        have HQ : Hid (Pw R m (z % m) (y % m) (n / 2)) := HP.out.odd h3' h4' hodd (by rw [HZ.out]) (by rw [HY.out])
        have hlt : z % m < m := Int.emod_lt_of_pos z (by omega)
        clear hodd HP HZ HY
        go_wp2
        exact ⟨⟨_, _, n / 2, rfl, rfl, by go_num, hlt, by omega, HQ.out⟩, by simp [intOf]; omega⟩
      · have d5 : ((n : Int) % 2 == 1) = false := beq_eq_false_iff_ne.2 (by omega)
        have HQ : Hid (Pw R m o (y % m) (n / 2)) := HP.out.even h3' h4' (by omega) (by rw [HY.out])
        clear hodd HP HZ HY
        go_wp2
        exact ⟨⟨_, _, n / 2, rfl, rfl, by go_num, hom, by omega, HQ.out⟩, by simp [intOf]; omega⟩
    · obtain rfl : n = 0 := by omega
      go_wp2
      go_ret
      exact ⟨retN (HP.out.done hom), rfl⟩

end Go.Proofs.Ytchfpiadfmnphaa
namespace Go.Proofs.Ytchfpiadfmnphaa
open Go.RowKit
set_option linter.unusedVariables false

theorem retB {a b : Bool} (h : a = b) : Ending.returned (.bool a) = .returned (.bool b) := by rw [h]
def invM (a m : Int) : Int := if 1 ≤ a ∧ a < m ∧ ModOk m then powM a (m - 2) m else 0
abbrev InG (y : Int) : Prop := 1 ≤ y ∧ y < 2147483579
def grB (y : Int) : Bool := decide (1 < y ∧ y < 2147483579) && (powM y 1073741789 2147483579 == 1)
def gmulM (a b : Int) : Int := if InG a ∧ InG b then mulM a b 2147483579 else 0
theorem i64_of {n : Int} (h1 : -9223372036854775808 ≤ n) (h2 : n ≤ 9223372036854775807) : I64 n := by
  unfold I64; simp [Lit.wf, IntKind.min, IntKind.max, IntKind.signed, IntKind.bits]; omega
theorem powM_ge {a n m : Int} : 0 ≤ powM a n m := by unfold powM; split <;> omega

set_option maxRecDepth 100000 in
set_option maxHeartbeats 1000000 in
theorem specGRight (y : Int) (w : World) (hy : I64 y) :
    Calls Try.prog 151 #[.int .i64 y] w fun e w' => e = .returned (.bool (grB y)) ∧ w' = w := by
  by_cases h1 : y < 1
  · have HR : Hid (grB y = false) := by show _ = _; unfold grB; rw [decide_eq_false (by omega), Bool.false_and]
    have d1 : decide (1 < y) = false := decide_eq_false (by omega)
    have d2 : decide (1 ≤ y) = false := decide_eq_false (by omega)
    go_enter Try.func151, Try.ntmps151
    go_wp2
    go_ret
    exact ⟨retB HR.out.symm, rfl⟩
  have d2 : decide (1 ≤ y) = true := decide_eq_true (by omega)
  by_cases h5 : y = 1
  · have HR : Hid (grB y = false) := by show _ = _; unfold grB; rw [decide_eq_false (by omega), Bool.false_and]
    subst h5
    have HT : Hid (Ending.returned (.bool (grB 1)) = .returned (.bool false)) := by show _ = _; rw [HR.out]
    clear HR
    generalize Ending.returned (.bool (grB 1)) = E at *
    go_enter Try.func151, Try.ntmps151
    go_wp2
    go_ret
    exact ⟨HT.out.symm, rfl⟩
  have d1 : decide (1 < y) = true := decide_eq_true (by omega)
  have d5 : (y != 1) = true := bne_iff_ne.2 h5
  by_cases h2 : 2147483579 ≤ y
  · have HR : Hid (grB y = false) := by show _ = _; unfold grB; rw [decide_eq_false (by omega), Bool.false_and]
    have d3 : decide (y < 2147483579) = false := decide_eq_false (by omega)
    go_enter Try.func151, Try.ntmps151
    go_wp2
    go_ret
    exact ⟨retB HR.out.symm, rfl⟩
  have d3 : decide (y < 2147483579) = true := decide_eq_true (by omega)
  have HR : Hid (grB y = (powM y 1073741789 2147483579 == 1)) := by show _ = _; unfold grB; rw [decide_eq_true (by omega), Bool.true_and]
  go_enter Try.func151, Try.ntmps151
  go_wp2_with (go_at_call 153; refine (specPow0 y 1073741789 2147483579 _ hy (i64_of (by omega) (by omega)) (by omega) (by omega) (by omega) (by omega)).mono ?_; rintro e w' ⟨rfl, rfl⟩)
  obtain ⟨r, hr⟩ : ∃ r, powM y 1073741789 2147483579 = r := ⟨_, rfl⟩
  rw [hr]
  have HE : Hid (grB y = (r == 1)) := by show _ = _; rw [HR.out, hr]
  clear HR hr
  go_wp2
  go_ret
  exact ⟨retB HE.out.symm, rfl⟩

set_option maxRecDepth 100000 in
set_option maxHeartbeats 1000000 in
theorem implGRight (y : Int) (w : World) (hy : I64 y) :
    Calls Try.prog 149 #[.int .i64 y] w fun e w' => e = .returned (.bool (grB y)) ∧ w' = w := by
  by_cases h1 : y < 1
  · have HR : Hid (grB y = false) := by show _ = _; unfold grB; rw [decide_eq_false (by omega), Bool.false_and]
    have d1 : decide (1 < y) = false := decide_eq_false (by omega)
    have d2 : decide (1 ≤ y) = false := decide_eq_false (by omega)
    go_enter Try.func149, Try.ntmps149
    go_wp2
    go_ret
    exact ⟨retB HR.out.symm, rfl⟩
  have d2 : decide (1 ≤ y) = true := decide_eq_true (by omega)
  by_cases h5 : y = 1
  · have HR : Hid (grB y = false) := by show _ = _; unfold grB; rw [decide_eq_false (by omega), Bool.false_and]
    subst h5
    have HT : Hid (Ending.returned (.bool (grB 1)) = .returned (.bool false)) := by show _ = _; rw [HR.out]
    clear HR
    generalize Ending.returned (.bool (grB 1)) = E at *
    go_enter Try.func149, Try.ntmps149
    go_wp2
    go_ret
    exact ⟨HT.out.symm, rfl⟩
  have d1 : decide (1 < y) = true := decide_eq_true (by omega)
  have d5 : (y != 1) = true := bne_iff_ne.2 h5
  by_cases h2 : 2147483579 ≤ y
  · have HR : Hid (grB y = false) := by show _ = _; unfold grB; rw [decide_eq_false (by omega), Bool.false_and]
    have d3 : decide (y < 2147483579) = false := decide_eq_false (by omega)
    go_enter Try.func149, Try.ntmps149
    go_wp2
    go_ret
    exact ⟨retB HR.out.symm, rfl⟩
  have d3 : decide (y < 2147483579) = true := decide_eq_true (by omega)
  have HR : Hid (grB y = (powM y 1073741789 2147483579 == 1)) := by show _ = _; unfold grB; rw [decide_eq_true (by omega), Bool.true_and]
  go_enter Try.func149, Try.ntmps149
  go_wp2_with (first
    | (go_at_call 166; refine (unitR_yes y _ (by omega) (by omega)).mono ?_; rintro e w' ⟨rfl, rfl⟩)
    | (go_at_call 167; refine (implPow y 1073741789 2147483579 _ hy (i64_of (by omega) (by omega)) (i64_of (by omega) (by omega))).mono ?_; rintro e w' ⟨rfl, rfl⟩))
  obtain ⟨r, hr⟩ : ∃ r, powM y 1073741789 2147483579 = r := ⟨_, rfl⟩
  rw [hr]
  have HE : Hid (grB y = (r == 1)) := by show _ = _; rw [HR.out, hr]
  clear HR hr
  go_wp2
  go_ret
  exact ⟨retB HE.out.symm, rfl⟩

theorem mul_in {a b : Int} (h1 : 1 ≤ a) (h2 : a < 2147483579) (h3 : 1 ≤ b) (h4 : b < 2147483579) :
    ∃ z : Int, a * b = z ∧ 0 ≤ z ∧ z ≤ 4611686014132420609 ∧ Hid (mulM a b 2147483579 = z % 2147483579) := by
  obtain ⟨p, q, z, r, e1, e2, e3, e4, HM, p0, q0, z0, p1, q1, z1⟩ := mul_parts (a := a) (b := b) (m := 2147483579) (by omega) (by omega) (by omega) (by omega)
  rw [Int.emod_eq_of_lt (by omega) h2] at e1
  rw [Int.emod_eq_of_lt (by omega) h4] at e2
  subst e1 e2
  exact ⟨z, e3, z0, z1, HM.out.trans e4.symm⟩
end Go.Proofs.Ytchfpiadfmnphaa
