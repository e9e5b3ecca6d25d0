/- Right versions, times, kinds and links, on the program's side. -/
import Derived.Test.YtdfglpbappeoaabDoorMetL
namespace Go.Proofs.YtdfglpbappeoaabDoor
open Go.RowKit
set_option linter.unusedVariables false

theorem implVer (n : Int) (w : World) : Calls Tryd.prog 136 #[.int .i64 n] w fun e w' => e = .returned (.bool (verB n)) ∧ w = w' := by
  unfold verB
  by_cases h1 : 1 ≤ n
  · have d1 : decide (1 ≤ n) = true := decide_eq_true h1
    by_cases h2 : n ≤ 1000000
    · have d2 : decide (n ≤ 1000000) = true := decide_eq_true h2
      rw [decide_eq_true ⟨h1, h2⟩]
      go_enter Tryd.func136, Tryd.ntmps136
      go_wp2
      go_ret
      exact ⟨rfl, rfl⟩
    · have d2 : decide (n ≤ 1000000) = false := decide_eq_false h2
      rw [decide_eq_false (fun h => h2 h.2)]
      go_enter Tryd.func136, Tryd.ntmps136
      go_wp2
      go_ret
      exact ⟨rfl, rfl⟩
  · have d1 : decide (1 ≤ n) = false := decide_eq_false h1
    rw [decide_eq_false (fun h => h1 h.1)]
    go_enter Tryd.func136, Tryd.ntmps136
    go_wp2
    go_ret
    exact ⟨rfl, rfl⟩
theorem implTim (n : Int) (w : World) : Calls Tryd.prog 76 #[.int .i64 n] w fun e w' => e = .returned (.bool (timB n)) ∧ w = w' := by
  unfold timB
  by_cases h1 : 0 ≤ n
  · have d1 : decide (0 ≤ n) = true := decide_eq_true h1
    by_cases h2 : n ≤ 1000000000
    · have d2 : decide (n ≤ 1000000000) = true := decide_eq_true h2
      rw [decide_eq_true ⟨h1, h2⟩]
      go_enter Tryd.func76, Tryd.ntmps76
      go_wp2
      go_ret
      exact ⟨rfl, rfl⟩
    · have d2 : decide (n ≤ 1000000000) = false := decide_eq_false h2
      rw [decide_eq_false (fun h => h2 h.2)]
      go_enter Tryd.func76, Tryd.ntmps76
      go_wp2
      go_ret
      exact ⟨rfl, rfl⟩
  · have d1 : decide (0 ≤ n) = false := decide_eq_false h1
    rw [decide_eq_false (fun h => h1 h.1)]
    go_enter Tryd.func76, Tryd.ntmps76
    go_wp2
    go_ret
    exact ⟨rfl, rfl⟩
set_option maxHeartbeats 1000000 in
theorem implLink (v e x : Int) (w : World) : Calls Tryd.prog 112 #[.agg #[.int .i64 v, .int .i64 e, .int .i64 x]] w fun r w' => r = .returned (.bool (linkB v e x)) ∧ Below w.heap.size w w' := by
  have hV : ∀ w0, Calls Tryd.prog 136 #[.int .i64 v] w0 fun r w' => r = .returned (.bool (verB v)) ∧ w0 = w' := fun w0 => implVer v w0
  have hT : ∀ w0, Calls Tryd.prog 76 #[.int .i64 e] w0 fun r w' => r = .returned (.bool (timB e)) ∧ w0 = w' := fun w0 => implTim e w0
  have hX : ∀ w0, Calls Tryd.prog 136 #[.int .i64 x] w0 fun r w' => r = .returned (.bool (verB x)) ∧ w0 = w' := fun w0 => implVer x w0
  unfold linkB
  generalize verB v = bv at *
  generalize timB e = be at *
  generalize verB x = bx at *
  cases bv <;> cases be <;> cases bx
  all_goals
    go_enter Tryd.func112, Tryd.ntmps112
    go_wp2_with (first
      | (with_reducible refine wpList_boxV (w := w) (by with_unfolding_all rfl) 60 (.tmp 0) (by with_unfolding_all rfl) (lkv v e x) (by with_unfolding_all rfl) ?_; intro w1 hA1 hB1 hS1; obtain ⟨p0, p1, p2⟩ := hA1.lk; clear hS1)
      | (go_at_call 136; with_reducible refine (hV _).mono ?_; rintro r w' ⟨rfl, rfl⟩)
      | (go_at_call 76; with_reducible refine (hT _).mono ?_; rintro r w' ⟨rfl, rfl⟩)
      | (go_at_call 136; with_reducible refine (hX _).mono ?_; rintro r w' ⟨rfl, rfl⟩))
    go_ret
    exact ⟨rfl, hB1⟩
end Go.Proofs.YtdfglpbappeoaabDoor
