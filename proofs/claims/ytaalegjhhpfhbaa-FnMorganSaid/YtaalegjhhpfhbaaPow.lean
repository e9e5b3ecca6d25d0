/- What the powers modulo m of both sides answer, for all numbers: one number, and that it is the power. -/
import Derived.Test.YtaalegjhhpfhbaaMod
namespace Go.Proofs.Ytaalegjhhpfhbaa
open Go.RowKit
set_option linter.unusedVariables false

def powN (x n k : Nat) : Nat := x ^ n % k
def powM (a n m : Int) : Int := if 0 ≤ a ∧ 0 ≤ n ∧ ModOk m then (powN a.toNat n.toNat m.toNat : Int) else 0
theorem powM_no {a n m : Int} (h : ¬ (0 ≤ a ∧ 0 ≤ n ∧ ModOk m)) : powM a n m = 0 := if_neg h
theorem powM_yes {x n k : Nat} (h : ModOk k) : powM x n k = (powN x n k : Int) := by
  unfold powM; rw [if_pos ⟨by omega, by omega, h⟩]; simp
/- What holds at the head of a round: out times the square's power is what is asked for. -/
structure Pw (R m o s : Int) (n : Nat) : Prop where
  o0 : 0 ≤ o
  o1 : o ≤ 2147483647
  s0 : 0 ≤ s
  s1 : s ≤ 2147483647
  eq : (o * s ^ n) % m = R
theorem Pw.start {a m : Int} {n : Nat} (ha : 0 ≤ a) (h2 : 2 ≤ m) (hm : m ≤ 2147483647) : Pw (powM a n m) m 1 (a % m) n := by
  have h0 := Int.emod_nonneg a (show m ≠ 0 by omega)
  have h1 := Int.emod_lt_of_pos a (show 0 < m by omega)
  refine ⟨by omega, by omega, h0, by omega, ?_⟩
  obtain ⟨x, rfl⟩ := Int.eq_ofNat_of_zero_le ha
  obtain ⟨k, rfl⟩ := Int.eq_ofNat_of_zero_le (show 0 ≤ m by omega)
  rw [powM_yes ⟨h2, hm⟩, Int.one_mul]
  unfold powN
  rw [show ((x : Int) % (k : Int)) ^ n = (((x % k) ^ n : Nat) : Int) by simp, ← Int.natCast_emod, ← Nat.pow_mod]
theorem mul_bd {o s : Int} (o0 : 0 ≤ o) (o1 : o ≤ 2147483647) (s0 : 0 ≤ s) (s1 : s ≤ 2147483647) : 0 ≤ o * s ∧ o * s ≤ 4611686014132420609 := by
  refine ⟨Int.mul_nonneg o0 s0, ?_⟩
  have := Int.mul_le_mul o1 s1 s0 (by omega : (0 : Int) ≤ 2147483647)
  omega
theorem Pw.done {R m o s : Int} (h : Pw R m o s 0) (hlt : o < m) : o = R := by
  have := h.eq
  rw [Int.pow_zero, Int.mul_one, Int.emod_eq_of_lt h.o0 hlt] at this
  exact this
theorem emod_pow' (x m : Int) (n : Nat) : (x % m) ^ n % m = x ^ n % m := by
  induction n with
  | zero => simp
  | succ n ih => rw [Int.pow_succ, Int.pow_succ, Int.mul_emod, ih, Int.emod_emod_of_dvd _ (Int.dvd_refl m), ← Int.mul_emod]
theorem Pw.even {R m o s q : Int} {n : Nat} (h : Pw R m o s n) (h2 : 2 ≤ m) (hm : m ≤ 2147483647) (he : n % 2 = 0) (hq : (s * s) % m = q) : Pw R m o q (n / 2) := by
  have h0 := Int.emod_nonneg (s * s) (show m ≠ 0 by omega)
  have h1 := Int.emod_lt_of_pos (s * s) (show 0 < m by omega)
  refine ⟨h.o0, h.o1, by omega, by omega, ?_⟩
  rw [← hq, ← h.eq]
  have hn : n = 2 * (n / 2) := by omega
  conv => rhs; rw [hn, Int.pow_mul, show s ^ 2 = s * s by rw [Int.pow_succ, Int.pow_succ, Int.pow_zero, Int.one_mul]]
  rw [Int.mul_emod, emod_pow', ← Int.mul_emod]
theorem Pw.odd {R m o s p q : Int} {n : Nat} (h : Pw R m o s n) (h2 : 2 ≤ m) (hm : m ≤ 2147483647) (he : n % 2 = 1) (hp : (o * s) % m = p) (hq : (s * s) % m = q) : Pw R m p q (n / 2) := by
  have h0 := Int.emod_nonneg (s * s) (show m ≠ 0 by omega)
  have h1 := Int.emod_lt_of_pos (s * s) (show 0 < m by omega)
  have h3 := Int.emod_nonneg (o * s) (show m ≠ 0 by omega)
  have h4 := Int.emod_lt_of_pos (o * s) (show 0 < m by omega)
  refine ⟨by omega, by omega, by omega, by omega, ?_⟩
  rw [← hp, ← hq, ← h.eq]
  have hn : n = 2 * (n / 2) + 1 := by omega
  conv => rhs; rw [hn, Int.pow_succ, Int.pow_mul, show s ^ 2 = s * s by rw [Int.pow_succ, Int.pow_succ, Int.pow_zero, Int.one_mul], Int.mul_comm ((s * s) ^ (n / 2)) s, ← Int.mul_assoc]
  rw [Int.mul_emod, emod_pow', Int.emod_emod_of_dvd _ (Int.dvd_refl m), ← Int.mul_emod]

set_option maxRecDepth 100000 in
set_option maxHeartbeats 1000000 in
theorem specPow0 (a b m : Int) (w : World) (ha : I64 a) (hb : I64 b) (h1' : 0 ≤ a) (h2' : 0 ≤ b) (h3' : 2 ≤ m) (h4' : m ≤ 2147483647) :
    Calls Try.prog 159 #[.int .i64 a, .int .i64 b, .int .i64 m] w fun e w' => e = .returned (.int .i64 (powM a b m)) ∧ w' = w := by
  have ba := ha.bd.2
  have bb := hb.bd.2
  clear ha hb
  obtain ⟨n0, rfl⟩ := Int.eq_ofNat_of_zero_le h2'
  have hst : Pw (powM a n0 m) m 1 (a % m) n0 := Pw.start h1' h3' h4'
  have e1 : (1 : Int) % m = 1 := Int.emod_eq_of_lt (by omega) (by omega)
  obtain ⟨s0, hs0⟩ : ∃ s, a % m = s := ⟨_, rfl⟩
  rw [hs0] at hst
  have HS : Hid (Pw (powM a n0 m) m 1 s0 n0) := hst
  clear hst
  generalize powM a n0 m = R at *
  go_enter Try.func159, Try.ntmps159
  go_wp2
  go_loop [0, 1, 7] (fun vs vn vo => ∃ (o s : Int) (n : Nat), vo = .int .i64 o ∧ vs = .int .i64 s ∧ vn = .int .i64 n ∧ o < m ∧ n ≤ n0 ∧ Pw R m o s n) (fun vs vn vo => (intOf vn).toNat)
  case atStart => exact ⟨1, s0, n0, by rw [e1], by rw [hs0], rfl, by omega, Nat.le_refl _, HS.out⟩
  case round =>
    obtain ⟨o, s, n, rfl, rfl, rfl, hom, hnn, hpw⟩ := hrel
    have o0 := hpw.o0
    have o1 := hpw.o1
    have t0 := hpw.s0
    have t1 := hpw.s1
    obtain ⟨z0, z1⟩ := mul_bd o0 o1 t0 t1
    obtain ⟨y0, y1⟩ := mul_bd t0 t1 t0 t1
    obtain ⟨z, hz⟩ : ∃ z, o * s = z := ⟨_, rfl⟩
    obtain ⟨y, hy⟩ : ∃ y, s * s = y := ⟨_, rfl⟩
    rw [hz] at z0 z1
    rw [hy] at y0 y1
    have HP : Hid (Pw R m o s n) := hpw
    have HZ : Hid (o * s = z) := hz
    have HY : Hid (s * s = y) := hy
    clear hpw
    by_cases hn : 0 < n
    · by_cases hodd : n % 2 = 1
      · have d5 : ((n : Int) % 2 == 1) = true := beq_iff_eq.2 (by omega)
        have HQ : Hid (Pw R m (z % m) (y % m) (n / 2)) := HP.out.odd h3' h4' hodd (by rw [HZ.out]) (by rw [HY.out])
        have hlt : z % m < m := Int.emod_lt_of_pos z (by omega)
        clear hodd HP HZ HY
        go_wp2
        exact ⟨⟨_, _, n / 2, rfl, rfl, by go_num, hlt, by omega, HQ.out⟩, by simp [intOf]; omega⟩
      · have d5 : ((n : Int) % 2 == 1) = false := beq_eq_false_iff_ne.2 (by omega)
        have HQ : Hid (Pw R m o (y % m) (n / 2)) := HP.out.even h3' h4' (by omega) (by rw [HY.out])
        clear hodd HP HZ HY
        go_wp2
        exact ⟨⟨_, _, n / 2, rfl, rfl, by go_num, hom, by omega, HQ.out⟩, by simp [intOf]; omega⟩
    · obtain rfl : n = 0 := by omega
      go_wp2
      go_ret
      exact ⟨retN (HP.out.done hom), rfl⟩

set_option maxRecDepth 100000 in
set_option maxHeartbeats 1000000 in
theorem implPow (a b m : Int) (w : World) (ha : I64 a) (hb : I64 b) (hm : I64 m) :
    Calls Try.prog 173 #[.int .i64 a, .int .i64 b, .int .i64 m] w fun e w' => e = .returned (.int .i64 (powM a b m)) ∧ w' = w := by
  by_cases h1 : a < 0
  · have HR : Hid (powM a b m = 0) := powM_no (by omega)
    go_enter Try.func173, Try.ntmps173
    go_wp2
    go_ret
    exact ⟨retN HR.out.symm, rfl⟩
  have d1 : decide (a < 0) = false := decide_eq_false h1
  by_cases h2 : b < 0
  · have HR : Hid (powM a b m = 0) := powM_no (by omega)
    go_enter Try.func173, Try.ntmps173
    go_wp2
    go_ret
    exact ⟨retN HR.out.symm, rfl⟩
  have d2 : decide (b < 0) = false := decide_eq_false h2
  by_cases h3 : m < 2
  · have HR : Hid (powM a b m = 0) := powM_no (by unfold ModOk; omega)
    have d3 : decide (2 ≤ m) = false := decide_eq_false (by omega)
    go_enter Try.func173, Try.ntmps173
    go_wp2
    go_ret
    exact ⟨retN HR.out.symm, rfl⟩
  have d3 : decide (2 ≤ m) = true := decide_eq_true (by omega)
  by_cases h4 : 2147483648 ≤ m
  · have HR : Hid (powM a b m = 0) := powM_no (by unfold ModOk; omega)
    have d4 : decide (m ≤ 2147483647) = false := decide_eq_false (by omega)
    go_enter Try.func173, Try.ntmps173
    go_wp2
    go_ret
    exact ⟨retN HR.out.symm, rfl⟩
  have d4 : decide (m ≤ 2147483647) = true := decide_eq_true (by omega)
  have h1' : 0 ≤ a := by omega
  have h2' : 0 ≤ b := by omega
  have h3' : 2 ≤ m := by omega
  have h4' : m ≤ 2147483647 := by omega
  clear h1 h2 h3 h4
  have ba := ha.bd.2
  have bb := hb.bd.2
  clear ha hb
  obtain ⟨n0, rfl⟩ := Int.eq_ofNat_of_zero_le h2'
  have hst : Pw (powM a n0 m) m 1 (a % m) n0 := Pw.start h1' h3' h4'
  have e1 : (1 : Int) % m = 1 := Int.emod_eq_of_lt (by omega) (by omega)
  obtain ⟨s0, hs0⟩ : ∃ s, a % m = s := ⟨_, rfl⟩
  rw [hs0] at hst
  have HS : Hid (Pw (powM a n0 m) m 1 s0 n0) := hst
  clear hst
  generalize powM a n0 m = R at *
  go_enter Try.func173, Try.ntmps173
  go_wp2
  go_loop [1, 7, 8] (fun vn vo vs => ∃ (o s : Int) (n : Nat), vo = .int .i64 o ∧ vs = .int .i64 s ∧ vn = .int .i64 n ∧ o < m ∧ n ≤ n0 ∧ Pw R m o s n) (fun vn vo vs => (intOf vn).toNat)
  case atStart => exact ⟨1, s0, n0, rfl, by rw [hs0], rfl, by omega, Nat.le_refl _, HS.out⟩
  case round =>
    obtain ⟨o, s, n, rfl, rfl, rfl, hom, hnn, hpw⟩ := hrel
    have o0 := hpw.o0
    have o1 := hpw.o1
    have t0 := hpw.s0
    have t1 := hpw.s1
    obtain ⟨z0, z1⟩ := mul_bd o0 o1 t0 t1
    obtain ⟨y0, y1⟩ := mul_bd t0 t1 t0 t1
    obtain ⟨z, hz⟩ : ∃ z, o * s = z := ⟨_, rfl⟩
    obtain ⟨y, hy⟩ : ∃ y, s * s = y := ⟨_, rfl⟩
    rw [hz] at z0 z1
    rw [hy] at y0 y1
    have HP : Hid (Pw R m o s n) := hpw
    have HZ : Hid (o * s = z) := hz
    have HY : Hid (s * s = y) := hy
    clear hpw
    by_cases hn : 0 < n
    · by_cases hodd : n % 2 = 1
      · have d5 : ((n : Int) % 2 == 1) = true := beq_iff_eq.2 (by omega)
        have HQ : Hid (Pw R m (z % m) (y % m) (n / 2)) := HP.out.odd h3' h4' hodd (by rw [HZ.out]) (by rw [HY.out])
        have hlt : z % m < m := Int.emod_lt_of_pos z (by omega)
        clear hodd HP HZ HY
        go_wp2
        exact ⟨⟨_, _, n / 2, rfl, rfl, by go_num, hlt, by omega, HQ.out⟩, by simp [intOf]; omega⟩
      · have d5 : ((n : Int) % 2 == 1) = false := beq_eq_false_iff_ne.2 (by omega)
        have HQ : Hid (Pw R m o (y % m) (n / 2)) := HP.out.even h3' h4' (by omega) (by rw [HY.out])
        clear hodd HP HZ HY
        go_wp2
        exact ⟨⟨_, _, n / 2, rfl, rfl, by go_num, hom, by omega, HQ.out⟩, by simp [intOf]; omega⟩
    · obtain rfl : n = 0 := by omega
      go_wp2
      go_ret
      exact ⟨retN (HP.out.done hom), rfl⟩

end Go.Proofs.Ytaalegjhhpfhbaa
