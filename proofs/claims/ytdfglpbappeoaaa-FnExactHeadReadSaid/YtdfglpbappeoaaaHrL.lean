/- The law FnExactHeadRead, walked. -/
import Derived.Test.YtdfglpbappeoaaaSpH
import Derived.Test.YtdfglpbappeoaaaTy
namespace Go.Proofs.Ytdfglpbappeoaaa
open Go.RowKit
set_option linter.unusedVariables false

set_option maxRecDepth 100000 in
set_option maxHeartbeats 2000000 in
theorem eqHo_any (s : Int) (q : ByteArray) (x c : Int) (w : World) :
    Calls Try.prog 33 #[.agg #[.int .i64 s, .string q, .int .i64 x, .int .i64 c], .agg #[.int .i64 s, .string q, .int .i64 x, .int .i64 c]] w fun r w' => r = .returned (.bool true) ∧ Below w.heap.size w w' := by
  have hcc : (c != c) = false := by simp
  have hC1 : ∀ w0, Calls Try.prog 50 #[.agg #[.int .i64 s, .string q, .int .i64 x], .agg #[.int .i64 s, .string q, .int .i64 x]] w0 fun r w' => r = .returned (.bool true) ∧ Below w0.heap.size w0 w' := fun w0 => eqHd_any s x q w0
  have HS0 : Hid (Sta [] w [] [] w) := Sta.start w
  go_enter Try.func33, Try.ntmps33
  go_wp2_with (first
    | ((with_reducible refine wpList_boxV (w := w) (by with_unfolding_all rfl) 59 (.tmp 0) (by with_unfolding_all rfl) [.int .i64 s, .string q, .int .i64 x, .int .i64 c] (by with_unfolding_all rfl) ?_); intro w1 hA1 hB1 hS1; clear hS1; have HS1 := Sta.new HS0 hA1 hB1 (by simp); clear hA1 hB1)
    | ((with_reducible refine wpList_boxV (w := w1) (by with_unfolding_all rfl) 59 (.tmp 1) (by with_unfolding_all rfl) [.int .i64 s, .string q, .int .i64 x, .int .i64 c] (by with_unfolding_all rfl) ?_); intro w2 hA2 hB2 hS2; clear hS2; have HS2 := Sta.new HS1 hA2 hB2 (by simp); clear hA2 hB2)
    | ((with_reducible refine wpList_ldS (w := w2) (by with_unfolding_all rfl) 35 (.tmp 5) (by with_unfolding_all rfl) w.heap.size 0 [.int .i64 s, .string q, .int .i64 x, .int .i64 c] [.int .i64 s, .string q, .int .i64 x] (by with_unfolding_all rfl) (Sta.r (i := 1) HS2 (by with_unfolding_all rfl)) Try.uT_implHead 3 Try.sT_implHead (by with_unfolding_all rfl) (by with_unfolding_all rfl) ?_))
    | ((with_reducible refine wpList_ldS (w := w2) (by with_unfolding_all rfl) 35 (.tmp 7) (by with_unfolding_all rfl) w1.heap.size 0 [.int .i64 s, .string q, .int .i64 x, .int .i64 c] [.int .i64 s, .string q, .int .i64 x] (by with_unfolding_all rfl) (Sta.r (i := 0) HS2 (by with_unfolding_all rfl)) Try.uT_implHead 3 Try.sT_implHead (by with_unfolding_all rfl) (by with_unfolding_all rfl) ?_))
    | (go_at_call 50; (with_reducible refine (hC1 w2).mono ?_); rintro r w3 ⟨rfl, hB3⟩; have HS3 := Sta.call HS2 hB3; clear hB3; have cHS3_1_3 : w3.cell? ⟨w.heap.size, 3, none⟩ = some (.int .i64 c) := Sta.c (i := 1) HS3 rfl rfl; have cHS3_0_3 : w3.cell? ⟨w1.heap.size, 3, none⟩ = some (.int .i64 c) := Sta.c (i := 0) HS3 rfl rfl))
  go_ret
  exact ⟨rfl, Sta.fin HS3⟩
set_option maxRecDepth 100000 in
set_option maxHeartbeats 2000000 in
theorem lawHeadRead_big (t : ByteArray) (w : World) (hs : t.size ≤ maxLen) (hb : 1048576 < t.size) :
    Calls Try.prog 7 #[.string t] w fun r w' => r = .returned (.bool true) ∧ Below w.heap.size w w' := by
  have d1 : decide ((1048576 : Int) < (t.size : Int)) = true := decide_eq_true (by omega)
  have HS0 : Hid (Sta [] w [] [] w) := Sta.start w
  clear hs
  go_enter Try.func7, Try.ntmps7
  go_wp2_with fail
  go_ret
  exact ⟨rfl, Sta.fin HS0⟩
set_option maxRecDepth 100000 in
set_option maxHeartbeats 2000000 in
theorem lawHeadRead_small (t : ByteArray) (w : World) (hs : t.size ≤ maxLen) (hb : ¬ 1048576 < t.size) :
    Calls Try.prog 7 #[.string t] w fun r w' => r = .returned (.bool true) ∧ Below w.heap.size w w' := by
  have d1 : decide ((1048576 : Int) < (t.size : Int)) = false := decide_eq_false (by omega)
  have hC1 : ∀ w0, Calls Try.prog 31 #[.string t] w0 fun r w' => ∃ (s1 : Int) (q1 : ByteArray) (x1 : Int) (c1 : Int), r = .returned (.agg #[.int .i64 s1, .string q1, .int .i64 x1, .int .i64 c1]) ∧ HdAns t s1 q1 x1 c1 ∧ Below w0.heap.size w0 w' := fun w0 => specHeadRd t w0 hs
  have hC2 : ∀ w0 (s1 : Int) (q1 : ByteArray) (x1 : Int) (c1 : Int), (HdAns t s1 q1 x1 c1) → Calls Try.prog 32 #[.string t] w0 fun r w' => r = .returned (.agg #[.int .i64 s1, .string q1, .int .i64 x1, .int .i64 c1]) ∧ Below w0.heap.size w0 w' := fun w0 s1 q1 x1 c1 n0 => (implHeadRd t w0 hs).mono fun r w' ⟨s2, q2, x2, c2, h1, h2, h3⟩ => by obtain ⟨rfl, rfl, rfl, rfl⟩ := hdAns_one n0 h2; exact ⟨h1, h3⟩
  have hC3 : ∀ w0 (s1 : Int) (q1 : ByteArray) (x1 : Int) (c1 : Int), Calls Try.prog 33 #[.agg #[.int .i64 s1, .string q1, .int .i64 x1, .int .i64 c1], .agg #[.int .i64 s1, .string q1, .int .i64 x1, .int .i64 c1]] w0 fun r w' => r = .returned (.bool true) ∧ Below w0.heap.size w0 w' := fun w0 s1 q1 x1 c1 => eqHo_any s1 q1 x1 c1 w0
  have HS0 : Hid (Sta [] w [] [] w) := Sta.start w
  clear hs
  go_enter Try.func7, Try.ntmps7
  go_wp2_with (first
    | (go_at_call 31; (with_reducible refine (hC1 w).mono ?_); rintro r w1 ⟨s1, q1, x1, c1, rfl, a1, hB1⟩; have Ha1 := hidP a1; clear a1; have HS1 := Sta.call HS0 hB1; clear hB1)
    | ((with_reducible refine wpList_allocV (w := w1) (by with_unfolding_all rfl) 59 (by with_unfolding_all rfl) [.int .i64 0, .string ⟨#[]⟩, .int .i64 0, .int .i64 0] Try.zT_implHeadOut ?_); intro w2 hA2 hB2 hS2; clear hS2; have HS2 := Sta.new HS1 hA2 hB2 (by simp); clear hA2 hB2)
    | ((with_reducible refine wpList_storeS (w := w2) (by with_unfolding_all rfl) 59 (.tmp 3) (.tmp 9) (by with_unfolding_all rfl) w1.heap.size [.int .i64 0, .string ⟨#[]⟩, .int .i64 0, .int .i64 0] [.int .i64 s1, .string q1, .int .i64 x1, .int .i64 c1] (by with_unfolding_all rfl) (by with_unfolding_all rfl) (Sta.r (i := 0) HS2 (by with_unfolding_all rfl)) 4 Try.sT_implHeadOut (by with_unfolding_all rfl) (by with_unfolding_all rfl) (by with_unfolding_all rfl) ?_); intro w3 hA3 hO3; have HS3 := Sta.put 0 HS2 rfl hA3 (by simp) hO3; clear hA3 hO3)
    | (go_at_call 32; (with_reducible refine (hC2 w3 s1 q1 x1 c1 Ha1.out).mono ?_); rintro r w4 ⟨rfl, hB4⟩; have HS4 := Sta.call HS3 hB4; clear hB4)
    | ((with_reducible refine wpList_allocV (w := w4) (by with_unfolding_all rfl) 59 (by with_unfolding_all rfl) [.int .i64 0, .string ⟨#[]⟩, .int .i64 0, .int .i64 0] Try.zT_implHeadOut ?_); intro w5 hA5 hB5 hS5; clear hS5; have HS5 := Sta.new HS4 hA5 hB5 (by simp); clear hA5 hB5)
    | ((with_reducible refine wpList_storeS (w := w5) (by with_unfolding_all rfl) 59 (.tmp 4) (.tmp 11) (by with_unfolding_all rfl) w4.heap.size [.int .i64 0, .string ⟨#[]⟩, .int .i64 0, .int .i64 0] [.int .i64 s1, .string q1, .int .i64 x1, .int .i64 c1] (by with_unfolding_all rfl) (by with_unfolding_all rfl) (Sta.r (i := 0) HS5 (by with_unfolding_all rfl)) 4 Try.sT_implHeadOut (by with_unfolding_all rfl) (by with_unfolding_all rfl) (by with_unfolding_all rfl) ?_); intro w6 hA6 hO6; have HS6 := Sta.put 0 HS5 rfl hA6 (by simp) hO6; clear hA6 hO6)
    | ((with_reducible refine wpList_loadV (w := w6) (by with_unfolding_all rfl) 59 (.tmp 4) (by with_unfolding_all rfl) w4.heap.size [.int .i64 s1, .string q1, .int .i64 x1, .int .i64 c1] (by with_unfolding_all rfl) (Sta.r (i := 0) HS6 (by with_unfolding_all rfl)) Try.uT_implHeadOut 4 Try.sT_implHeadOut (by with_unfolding_all rfl) ?_))
    | ((with_reducible refine wpList_loadV (w := w6) (by with_unfolding_all rfl) 59 (.tmp 3) (by with_unfolding_all rfl) w1.heap.size [.int .i64 s1, .string q1, .int .i64 x1, .int .i64 c1] (by with_unfolding_all rfl) (Sta.r (i := 1) HS6 (by with_unfolding_all rfl)) Try.uT_implHeadOut 4 Try.sT_implHeadOut (by with_unfolding_all rfl) ?_))
    | (go_at_call 33; (with_reducible refine (hC3 w6 s1 q1 x1 c1).mono ?_); rintro r w7 ⟨rfl, hB7⟩; have HS7 := Sta.call HS6 hB7; clear hB7))
  go_ret
  exact ⟨rfl, Sta.fin HS7⟩
theorem lawHeadRead (t : ByteArray) (w : World) (hs : t.size ≤ maxLen) :
    Calls Try.prog 7 #[.string t] w fun r w' => r = .returned (.bool true) ∧ Below w.heap.size w w' := by
  by_cases hb : 1048576 < t.size
  · exact lawHeadRead_big t w hs hb
  · exact lawHeadRead_small t w hs hb
end Go.Proofs.Ytdfglpbappeoaaa
