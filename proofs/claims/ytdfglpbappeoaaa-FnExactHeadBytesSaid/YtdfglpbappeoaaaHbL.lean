/- The law FnExactHeadBytes, walked. -/
import Derived.Test.YtdfglpbappeoaaaHbR
namespace Go.Proofs.Ytdfglpbappeoaaa
open Go.RowKit
set_option linter.unusedVariables false

set_option maxRecDepth 100000 in
set_option maxHeartbeats 2000000 in
theorem lawHeadBytes (s : Int) (q : ByteArray) (t : Int) (w : World) (hs : I64 s) (ht : I64 t) (hr : q.size ≤ maxLen) :
    Calls Try.prog 6 #[.agg #[.int .i64 s, .string q, .int .i64 t]] w fun r w' => r = .returned (.bool true) ∧ Below w.heap.size w w' := by
  have hC1 : ∀ w0, Calls Try.prog 27 #[.agg #[.int .i64 s, .string q, .int .i64 t], .int .i64 1048576] w0 fun r w' => ∃ (z : Int), r = .returned (.int .i64 z) ∧ Below w0.heap.size w0 w' := fun w0 => (szHd_any s q t _ w0 hr (by omega) (by omega)).mono fun r w' ⟨⟨z, h, _, _⟩, hb⟩ => ⟨z, h, hb⟩
  have hC2 : ∀ w0, Calls Try.prog 29 #[.agg #[.int .i64 s, .string q, .int .i64 t]] w0 fun r w' => r = .returned (.agg #[.int .i64 s, .string q, .int .i64 t]) ∧ Below w0.heap.size w0 w' := fun w0 => toHd_any s q t w0
  have hC3 : ∀ w0, Calls Try.prog 28 #[.agg #[.int .i64 s, .string q, .int .i64 t]] w0 fun r w' => r = .returned (.string (headBy s q t)) ∧ Below w0.heap.size w0 w' := fun w0 => specHeadBy s q t w0 hs ht hr
  have hC4 : ∀ w0, Calls Try.prog 30 #[.agg #[.int .i64 s, .string q, .int .i64 t]] w0 fun r w' => r = .returned (.string (headBy s q t)) ∧ Below w0.heap.size w0 w' := fun w0 => implHeadBy s q t w0 hs ht hr
  generalize headBy s q t = R at *
  have hrr := txt_eq R
  have HS0 : Hid (Sta [] w [] [] w) := Sta.start w
  clear hs ht hr
  go_enter Try.func6, Try.ntmps6
  go_wp2_with (first
    | ((with_reducible refine wpList_boxV (w := w) (by with_unfolding_all rfl) 53 (.tmp 0) (by with_unfolding_all rfl) [.int .i64 s, .string q, .int .i64 t] (by with_unfolding_all rfl) ?_); intro w1 hA1 hB1 hS1; clear hS1; have HS1 := Sta.new HS0 hA1 hB1 (by simp); clear hA1 hB1)
    | ((with_reducible refine wpList_loadV (w := w1) (by with_unfolding_all rfl) 53 (.tmp 1) (by with_unfolding_all rfl) w.heap.size [.int .i64 s, .string q, .int .i64 t] (by with_unfolding_all rfl) (Sta.r (i := 0) HS1 (by with_unfolding_all rfl)) Try.uT_lawsHead 3 Try.sT_lawsHead (by with_unfolding_all rfl) ?_)))
  refine (hC1 w1).mono ?_
  rintro r w2 ⟨z, rfl, hB2⟩
  have HS2 := Sta.call HS1 hB2
  clear hB2
  by_cases hneg : z < 0
  · skip
    go_wp2_with fail
    go_ret
    exact ⟨rfl, Sta.fin HS2⟩
  go_wp2_with (first
    | ((with_reducible refine wpList_loadV (w := w2) (by with_unfolding_all rfl) 53 (.tmp 1) (by with_unfolding_all rfl) w.heap.size [.int .i64 s, .string q, .int .i64 t] (by with_unfolding_all rfl) (Sta.r (i := 0) HS2 (by with_unfolding_all rfl)) Try.uT_lawsHead 3 Try.sT_lawsHead (by with_unfolding_all rfl) ?_))
    | (go_at_call 29; (with_reducible refine (hC2 w2).mono ?_); rintro r w3 ⟨rfl, hB3⟩; have HS3 := Sta.call HS2 hB3; clear hB3)
    | (go_at_call 28; (with_reducible refine (hC3 w3).mono ?_); rintro r w4 ⟨rfl, hB4⟩; have HS4 := Sta.call HS3 hB4; clear hB4)
    | ((with_reducible refine wpList_loadV (w := w4) (by with_unfolding_all rfl) 53 (.tmp 1) (by with_unfolding_all rfl) w.heap.size [.int .i64 s, .string q, .int .i64 t] (by with_unfolding_all rfl) (Sta.r (i := 0) HS4 (by with_unfolding_all rfl)) Try.uT_lawsHead 3 Try.sT_lawsHead (by with_unfolding_all rfl) ?_))
    | (go_at_call 29; (with_reducible refine (hC2 w4).mono ?_); rintro r w5 ⟨rfl, hB5⟩; have HS5 := Sta.call HS4 hB5; clear hB5)
    | (go_at_call 30; (with_reducible refine (hC4 w5).mono ?_); rintro r w6 ⟨rfl, hB6⟩; have HS6 := Sta.call HS5 hB6; clear hB6))
  go_ret
  exact ⟨rfl, Sta.fin HS6⟩
end Go.Proofs.Ytdfglpbappeoaaa
