/- What ModInv, GroupRight and GroupMul of both sides answer, for all numbers. -/
import Derived.Test.YtaalegjhhpfhbaaPow
namespace Go.Proofs.Ytaalegjhhpfhbaa
open Go.RowKit
set_option linter.unusedVariables false

theorem retB {a b : Bool} (h : a = b) : Ending.returned (.bool a) = .returned (.bool b) := by rw [h]
def invM (a m : Int) : Int := if 1 ≤ a ∧ a < m ∧ ModOk m then powM a (m - 2) m else 0
abbrev InG (y : Int) : Prop := 1 ≤ y ∧ y < 2147483579
def grB (y : Int) : Bool := decide (1 < y ∧ y < 2147483579) && (powM y 1073741789 2147483579 == 1)
def gmulM (a b : Int) : Int := if InG a ∧ InG b then mulM a b 2147483579 else 0
theorem i64_of {n : Int} (h1 : -9223372036854775808 ≤ n) (h2 : n ≤ 9223372036854775807) : I64 n := by
  unfold I64; simp [Lit.wf, IntKind.min, IntKind.max, IntKind.signed, IntKind.bits]; omega
theorem powM_ge {a n m : Int} : 0 ≤ powM a n m := by unfold powM; split <;> omega

set_option maxRecDepth 100000 in
set_option maxHeartbeats 1000000 in
theorem specGRight (y : Int) (w : World) (hy : I64 y) :
    Calls Try.prog 157 #[.int .i64 y] w fun e w' => e = .returned (.bool (grB y)) ∧ w' = w := by
  by_cases h1 : y < 1
  · have HR : Hid (grB y = false) := by show _ = _; unfold grB; rw [decide_eq_false (by omega), Bool.false_and]
    have d1 : decide (1 < y) = false := decide_eq_false (by omega)
    have d2 : decide (1 ≤ y) = false := decide_eq_false (by omega)
    go_enter Try.func157, Try.ntmps157
    go_wp2
    go_ret
    exact ⟨retB HR.out.symm, rfl⟩
  have d2 : decide (1 ≤ y) = true := decide_eq_true (by omega)
  by_cases h5 : y = 1
  · have HR : Hid (grB y = false) := by show _ = _; unfold grB; rw [decide_eq_false (by omega), Bool.false_and]
    subst h5
    have HT : Hid (Ending.returned (.bool (grB 1)) = .returned (.bool false)) := by show _ = _; rw [HR.out]
    clear HR
    generalize Ending.returned (.bool (grB 1)) = E at *
    go_enter Try.func157, Try.ntmps157
    go_wp2
    go_ret
    exact ⟨HT.out.symm, rfl⟩
  have d1 : decide (1 < y) = true := decide_eq_true (by omega)
  have d5 : (y != 1) = true := bne_iff_ne.2 h5
  by_cases h2 : 2147483579 ≤ y
  · have HR : Hid (grB y = false) := by show _ = _; unfold grB; rw [decide_eq_false (by omega), Bool.false_and]
    have d3 : decide (y < 2147483579) = false := decide_eq_false (by omega)
    go_enter Try.func157, Try.ntmps157
    go_wp2
    go_ret
    exact ⟨retB HR.out.symm, rfl⟩
  have d3 : decide (y < 2147483579) = true := decide_eq_true (by omega)
  have HR : Hid (grB y = (powM y 1073741789 2147483579 == 1)) := by show _ = _; unfold grB; rw [decide_eq_true (by omega), Bool.true_and]
  go_enter Try.func157, Try.ntmps157
  go_wp2_with (go_at_call 159; refine (specPow0 y 1073741789 2147483579 _ hy (i64_of (by omega) (by omega)) (by omega) (by omega) (by omega) (by omega)).mono ?_; rintro e w' ⟨rfl, rfl⟩)
  obtain ⟨r, hr⟩ : ∃ r, powM y 1073741789 2147483579 = r := ⟨_, rfl⟩
  rw [hr]
  have HE : Hid (grB y = (r == 1)) := by show _ = _; rw [HR.out, hr]
  clear HR hr
  go_wp2
  go_ret
  exact ⟨retB HE.out.symm, rfl⟩

set_option maxRecDepth 100000 in
set_option maxHeartbeats 1000000 in
theorem implGRight (y : Int) (w : World) (hy : I64 y) :
    Calls Try.prog 155 #[.int .i64 y] w fun e w' => e = .returned (.bool (grB y)) ∧ w' = w := by
  by_cases h1 : y < 1
  · have HR : Hid (grB y = false) := by show _ = _; unfold grB; rw [decide_eq_false (by omega), Bool.false_and]
    have d1 : decide (1 < y) = false := decide_eq_false (by omega)
    have d2 : decide (1 ≤ y) = false := decide_eq_false (by omega)
    go_enter Try.func155, Try.ntmps155
    go_wp2
    go_ret
    exact ⟨retB HR.out.symm, rfl⟩
  have d2 : decide (1 ≤ y) = true := decide_eq_true (by omega)
  by_cases h5 : y = 1
  · have HR : Hid (grB y = false) := by show _ = _; unfold grB; rw [decide_eq_false (by omega), Bool.false_and]
    subst h5
    have HT : Hid (Ending.returned (.bool (grB 1)) = .returned (.bool false)) := by show _ = _; rw [HR.out]
    clear HR
    generalize Ending.returned (.bool (grB 1)) = E at *
    go_enter Try.func155, Try.ntmps155
    go_wp2
    go_ret
    exact ⟨HT.out.symm, rfl⟩
  have d1 : decide (1 < y) = true := decide_eq_true (by omega)
  have d5 : (y != 1) = true := bne_iff_ne.2 h5
  by_cases h2 : 2147483579 ≤ y
  · have HR : Hid (grB y = false) := by show _ = _; unfold grB; rw [decide_eq_false (by omega), Bool.false_and]
    have d3 : decide (y < 2147483579) = false := decide_eq_false (by omega)
    go_enter Try.func155, Try.ntmps155
    go_wp2
    go_ret
    exact ⟨retB HR.out.symm, rfl⟩
  have d3 : decide (y < 2147483579) = true := decide_eq_true (by omega)
  have HR : Hid (grB y = (powM y 1073741789 2147483579 == 1)) := by show _ = _; unfold grB; rw [decide_eq_true (by omega), Bool.true_and]
  go_enter Try.func155, Try.ntmps155
  go_wp2_with (first
    | (go_at_call 172; refine (unitR_yes y _ (by omega) (by omega)).mono ?_; rintro e w' ⟨rfl, rfl⟩)
    | (go_at_call 173; refine (implPow y 1073741789 2147483579 _ hy (i64_of (by omega) (by omega)) (i64_of (by omega) (by omega))).mono ?_; rintro e w' ⟨rfl, rfl⟩))
  obtain ⟨r, hr⟩ : ∃ r, powM y 1073741789 2147483579 = r := ⟨_, rfl⟩
  rw [hr]
  have HE : Hid (grB y = (r == 1)) := by show _ = _; rw [HR.out, hr]
  clear HR hr
  go_wp2
  go_ret
  exact ⟨retB HE.out.symm, rfl⟩

theorem mul_in {a b : Int} (h1 : 1 ≤ a) (h2 : a < 2147483579) (h3 : 1 ≤ b) (h4 : b < 2147483579) :
    ∃ z : Int, a * b = z ∧ 0 ≤ z ∧ z ≤ 4611686014132420609 ∧ Hid (mulM a b 2147483579 = z % 2147483579) := by
  obtain ⟨p, q, z, r, e1, e2, e3, e4, HM, p0, q0, z0, p1, q1, z1⟩ := mul_parts (a := a) (b := b) (m := 2147483579) (by omega) (by omega) (by omega) (by omega)
  rw [Int.emod_eq_of_lt (by omega) h2] at e1
  rw [Int.emod_eq_of_lt (by omega) h4] at e2
  subst e1 e2
  exact ⟨z, e3, z0, z1, HM.out.trans e4.symm⟩
end Go.Proofs.Ytaalegjhhpfhbaa
