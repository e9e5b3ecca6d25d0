/- What SecretRight and PublicOf of both sides answer, for all numbers: the same; and the powers in the group that the program works out anew. -/
import Derived.Test.YtdfglpbappeoaabDoorGrp
namespace Go.Proofs.YtdfglpbappeoaabDoor
open Go.RowKit
set_option linter.unusedVariables false

abbrev IsSec (x : Int) : Prop := 1 ≤ x ∧ x < 1073741789
def secB (x : Int) : Bool := decide (IsSec x)
def pubM (x : Int) : Int := if IsSec x then powM 4 x 2147483579 else 0
theorem secB_yes {x : Int} (h : IsSec x) : secB x = true := decide_eq_true h
theorem secB_no {x : Int} (h : ¬ IsSec x) : secB x = false := decide_eq_false h
theorem specSec (x : Int) (w : World) (hx : I64 x) :
    Calls Tryd.prog 160 #[.int .i64 x] w fun e w' => e = .returned (.bool (secB x)) ∧ w' = w := by
  by_cases h1 : 1 ≤ x
  · by_cases h2 : x < 1073741789
    · have HR : Hid (secB x = true) := secB_yes ⟨h1, h2⟩
      go_enter Tryd.func160, Tryd.ntmps160
      go_wp2
      go_ret
      exact ⟨retB HR.out.symm, rfl⟩
    · have HR : Hid (secB x = false) := secB_no (by unfold IsSec; omega)
      have d2 : decide (x < 1073741789) = false := decide_eq_false h2
      go_enter Tryd.func160, Tryd.ntmps160
      go_wp2
      go_ret
      exact ⟨retB HR.out.symm, rfl⟩
  · have HR : Hid (secB x = false) := secB_no (by unfold IsSec; omega)
    have d1 : decide (1 ≤ x) = false := decide_eq_false h1
    go_enter Tryd.func160, Tryd.ntmps160
    go_wp2
    go_ret
    exact ⟨retB HR.out.symm, rfl⟩
/- A power in the group, by the exponent modulo the order. -/
def upow (y n : Int) : Int := powM y (n % 1073741789) 2147483579
theorem upow_small {y n : Int} (h0 : 0 ≤ n) (h1 : n < 1073741789) : upow y n = powM y n 2147483579 := by
  unfold upow; rw [Int.emod_eq_of_lt h0 h1]
set_option maxRecDepth 100000 in
theorem specPub (x : Int) (w : World) (hx : I64 x) :
    Calls Tryd.prog 162 #[.int .i64 x] w fun e w' => e = .returned (.int .i64 (pubM x)) ∧ w' = w := by
  by_cases hs : IsSec x
  · have HR : Hid (pubM x = powM 4 x 2147483579) := if_pos hs
    have hS : ∀ w0, Calls Tryd.prog 160 #[.int .i64 x] w0 fun e w' => e = .returned (.bool true) ∧ w' = w0 := fun w0 => by have := specSec x w0 hx; rw [secB_yes hs] at this; exact this
    have hP : ∀ w0, Calls Tryd.prog 166 #[.int .i64 4, .int .i64 x, .int .i64 2147483579] w0 fun e w' => e = .returned (.int .i64 (powM 4 x 2147483579)) ∧ w' = w0 := fun w0 =>
      specPow0 4 x 2147483579 w0 (i64_of (by omega) (by omega)) hx (by omega) (by have := hs.1; omega) (by omega) (by omega)
    generalize powM 4 x 2147483579 = R at *
    go_enter Tryd.func162, Tryd.ntmps162
    go_wp2_with (first
      | (go_at_call 160; refine (hS _).mono ?_; rintro e w' ⟨rfl, rfl⟩)
      | (go_at_call 166; refine (hP _).mono ?_; rintro e w' ⟨rfl, rfl⟩))
    go_ret
    exact ⟨retN HR.out.symm, rfl⟩
  · have HR : Hid (pubM x = 0) := if_neg hs
    have hS : ∀ w0, Calls Tryd.prog 160 #[.int .i64 x] w0 fun e w' => e = .returned (.bool false) ∧ w' = w0 := fun w0 => by have := specSec x w0 hx; rw [secB_no hs] at this; exact this
    clear hs
    go_enter Tryd.func162, Tryd.ntmps162
    go_wp2_with (go_at_call 160; refine (hS _).mono ?_; rintro e w' ⟨rfl, rfl⟩)
    go_ret
    exact ⟨retN HR.out.symm, rfl⟩
end Go.Proofs.YtdfglpbappeoaabDoor
