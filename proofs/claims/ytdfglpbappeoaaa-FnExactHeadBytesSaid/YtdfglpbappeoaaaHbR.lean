/- The bytes of heads, on both sides. -/
import Derived.Test.YtdfglpbappeoaaaHdR
import Derived.Test.YtdfglpbappeoaaaTy
import Derived.Test.YtdfglpbappeoaaaPutT
import Derived.Deep.RegionHeld3
namespace Go.Proofs.Ytdfglpbappeoaaa
open Go.RowKit
set_option linter.unusedVariables false

def headBy (s : Int) (r : ByteArray) (t : Int) : ByteArray := if headB s r t then ((⟨#[72]⟩ ++ putS s) ++ r) ++ putS t else ⟨#[]⟩
theorem headB_size {s : Int} {r : ByteArray} {t : Int} (h : headB s r t = true) : r.size = 32 := by
  unfold headB at h
  simp only [Bool.and_eq_true, decide_eq_true_eq] at h
  exact h.2.1
set_option maxRecDepth 100000 in
set_option maxHeartbeats 2000000 in
theorem specHeadBy_no (s : Int) (q : ByteArray) (t : Int) (w : World) (hs : I64 s) (ht : I64 t) (hr : q.size ≤ maxLen) (hb : headB s q t = false) :
    Calls Try.prog 28 #[.agg #[.int .i64 s, .string q, .int .i64 t]] w fun r w' => r = .returned (.string (headBy s q t)) ∧ Below w.heap.size w w' := by
  have HF : Hid (headBy s q t = ⟨#[]⟩) := by show _ = _; unfold headBy; rw [if_neg (by rw [hb]; simp)]
  have hC1 : ∀ w0, Calls Try.prog 69 #[.agg #[.int .i64 s, .string q, .int .i64 t]] w0 fun r w' => r = .returned (.bool false) ∧ Below w0.heap.size w0 w' := fun w0 => by rw [← hb]; exact specHead s q t w0 hr
  generalize headBy s q t = R at *
  have HS0 : Hid (Sta [] w [] [] w) := Sta.start w
  clear hb hs ht hr
  go_enter Try.func28, Try.ntmps28
  go_wp2_with (first
    | ((with_reducible refine wpList_boxV (w := w) (by with_unfolding_all rfl) 35 (.tmp 0) (by with_unfolding_all rfl) [.int .i64 s, .string q, .int .i64 t] (by with_unfolding_all rfl) ?_); intro w1 hA1 hB1 hS1; clear hS1; have HS1 := Sta.new HS0 hA1 hB1 (by simp); clear hA1 hB1)
    | ((with_reducible refine wpList_loadV (w := w1) (by with_unfolding_all rfl) 35 (.tmp 1) (by with_unfolding_all rfl) w.heap.size [.int .i64 s, .string q, .int .i64 t] (by with_unfolding_all rfl) (Sta.r (i := 0) HS1 (by with_unfolding_all rfl)) Try.uT_implHead 3 Try.sT_implHead (by with_unfolding_all rfl) ?_))
    | (go_at_call 69; (with_reducible refine (hC1 w1).mono ?_); rintro r w2 ⟨rfl, hB2⟩; have HS2 := Sta.call HS1 hB2; clear hB2))
  go_ret
  exact ⟨by rw [HF.out]; rfl, Sta.fin HS2⟩
set_option maxRecDepth 100000 in
set_option maxHeartbeats 2000000 in
theorem specHeadBy_yes (s : Int) (q : ByteArray) (t : Int) (w : World) (hs : I64 s) (ht : I64 t) (hr : q.size ≤ maxLen) (hb : headB s q t = true) :
    Calls Try.prog 28 #[.agg #[.int .i64 s, .string q, .int .i64 t]] w fun r w' => r = .returned (.string (headBy s q t)) ∧ Below w.heap.size w w' := by
  have hq := headB_size hb
  have HF : Hid (headBy s q t = ((⟨#[72]⟩ ++ putS s) ++ q) ++ putS t) := by show _ = _; unfold headBy; rw [if_pos hb]
  have z1 := putS_size s
  have z2 := putS_size t
  have hC1 : ∀ w0, Calls Try.prog 69 #[.agg #[.int .i64 s, .string q, .int .i64 t]] w0 fun r w' => r = .returned (.bool true) ∧ Below w0.heap.size w0 w' := fun w0 => by rw [← hb]; exact specHead s q t w0 hr
  have hC2 : ∀ w0, Calls Try.prog 70 #[.int .i64 s] w0 fun r w' => r = .returned (.string (putS s)) ∧ Below w0.heap.size w0 w' := fun w0 => specPut s w0 hs
  have hC3 : ∀ w0, Calls Try.prog 70 #[.int .i64 t] w0 fun r w' => r = .returned (.string (putS t)) ∧ Below w0.heap.size w0 w' := fun w0 => specPut t w0 ht
  clear hb
  obtain ⟨X, hX⟩ : ∃ X, (⟨#[72]⟩ : ByteArray) ++ putS s = X := ⟨_, rfl⟩
  have hXs : X.size ≤ 11 := by rw [← hX, ByteArray.size_append]; show 1 + _ ≤ _; omega
  obtain ⟨Y, hY⟩ : ∃ Y, X ++ q = Y := ⟨_, rfl⟩
  have hYs : Y.size ≤ 43 := by rw [← hY, ByteArray.size_append]; omega
  rw [hX, hY] at HF
  generalize putS s = ps at *
  generalize putS t = pt at *
  generalize headBy s q t = R at *
  have y1 : ¬ 9223372036854775807 < 1 + ps.size := by omega
  have y2 : ¬ 9223372036854775807 < X.size + q.size := by omega
  have y3 : ¬ 9223372036854775807 < Y.size + pt.size := by omega
  have HS0 : Hid (Sta [] w [] [] w) := Sta.start w
  clear hs ht hr hq z1 z2
  go_enter Try.func28, Try.ntmps28
  go_wp2_with (first
    | ((with_reducible refine wpList_boxV (w := w) (by with_unfolding_all rfl) 35 (.tmp 0) (by with_unfolding_all rfl) [.int .i64 s, .string q, .int .i64 t] (by with_unfolding_all rfl) ?_); intro w1 hA1 hB1 hS1; clear hS1; have HS1 := Sta.new HS0 hA1 hB1 (by simp); clear hA1 hB1)
    | ((with_reducible refine wpList_loadV (w := w1) (by with_unfolding_all rfl) 35 (.tmp 1) (by with_unfolding_all rfl) w.heap.size [.int .i64 s, .string q, .int .i64 t] (by with_unfolding_all rfl) (Sta.r (i := 0) HS1 (by with_unfolding_all rfl)) Try.uT_implHead 3 Try.sT_implHead (by with_unfolding_all rfl) ?_))
    | (go_at_call 69; (with_reducible refine (hC1 w1).mono ?_); rintro r w2 ⟨rfl, hB2⟩; have HS2 := Sta.call HS1 hB2; clear hB2))
  have HS3 := Sta.drew HS2
  go_region_held3 (fun w' => w'.cell? ⟨w.heap.size, 0, none⟩ = some (.int .i64 s) ∧ w'.cell? ⟨w.heap.size, 1, none⟩ = some (.string q) ∧ w'.cell? ⟨w.heap.size, 2, none⟩ = some (.int .i64 t) ∧ Hid (Sta [] w [(w.heap.size, [.int .i64 s, .string q, .int .i64 t])] [] w'))
    (first | exact ⟨Sta.c (i := 0) (HS3) rfl rfl, Sta.c (i := 0) (HS3) rfl rfl, Sta.c (i := 0) (HS3) rfl rfl, (HS3)⟩ | exact ⟨Sta.c (i := 0) (Sta.call (HS3) hB4) rfl rfl, Sta.c (i := 0) (Sta.call (HS3) hB4) rfl rfl, Sta.c (i := 0) (Sta.call (HS3) hB4) rfl rfl, (Sta.call (HS3) hB4)⟩ | exact ⟨Sta.c (i := 0) (Sta.call (Sta.call (HS3) hB4) hB5) rfl rfl, Sta.c (i := 0) (Sta.call (Sta.call (HS3) hB4) hB5) rfl rfl, Sta.c (i := 0) (Sta.call (Sta.call (HS3) hB4) hB5) rfl rfl, (Sta.call (Sta.call (HS3) hB4) hB5)⟩)
    (first
      | (go_at_call 70; (with_reducible refine (hC2 _).mono ?_); rintro r w4 ⟨rfl, hB4⟩)
      | (go_at_call 70; (with_reducible refine (hC3 _).mono ?_); rintro r w5 ⟨rfl, hB5⟩))
  all_goals
    have HS6 := Sta.call (Sta.call (HS3) hB4) hB5
    go_wp2_with fail
    go_ret
    exact ⟨by rw [HF.out]; rfl, Sta.fin HS6⟩
theorem specHeadBy (s : Int) (q : ByteArray) (t : Int) (w : World) (hs : I64 s) (ht : I64 t) (hr : q.size ≤ maxLen) :
    Calls Try.prog 28 #[.agg #[.int .i64 s, .string q, .int .i64 t]] w fun r w' => r = .returned (.string (headBy s q t)) ∧ Below w.heap.size w w' := by
  cases hb : headB s q t with
  | false => exact specHeadBy_no s q t w hs ht hr hb
  | true => exact specHeadBy_yes s q t w hs ht hr hb
set_option maxRecDepth 100000 in
set_option maxHeartbeats 2000000 in
theorem implHeadBy_no (s : Int) (q : ByteArray) (t : Int) (w : World) (hs : I64 s) (ht : I64 t) (hr : q.size ≤ maxLen) (hb : headB s q t = false) :
    Calls Try.prog 30 #[.agg #[.int .i64 s, .string q, .int .i64 t]] w fun r w' => r = .returned (.string (headBy s q t)) ∧ Below w.heap.size w w' := by
  have HF : Hid (headBy s q t = ⟨#[]⟩) := by show _ = _; unfold headBy; rw [if_neg (by rw [hb]; simp)]
  have hC1 : ∀ w0, Calls Try.prog 71 #[.agg #[.int .i64 s, .string q, .int .i64 t]] w0 fun r w' => r = .returned (.bool false) ∧ Below w0.heap.size w0 w' := fun w0 => by rw [← hb]; exact implHead s q t w0 hr
  generalize headBy s q t = R at *
  have HS0 : Hid (Sta [] w [] [] w) := Sta.start w
  clear hb hs ht hr
  go_enter Try.func30, Try.ntmps30
  go_wp2_with (first
    | ((with_reducible refine wpList_boxV (w := w) (by with_unfolding_all rfl) 35 (.tmp 0) (by with_unfolding_all rfl) [.int .i64 s, .string q, .int .i64 t] (by with_unfolding_all rfl) ?_); intro w1 hA1 hB1 hS1; clear hS1; have HS1 := Sta.new HS0 hA1 hB1 (by simp); clear hA1 hB1)
    | ((with_reducible refine wpList_loadV (w := w1) (by with_unfolding_all rfl) 35 (.tmp 1) (by with_unfolding_all rfl) w.heap.size [.int .i64 s, .string q, .int .i64 t] (by with_unfolding_all rfl) (Sta.r (i := 0) HS1 (by with_unfolding_all rfl)) Try.uT_implHead 3 Try.sT_implHead (by with_unfolding_all rfl) ?_))
    | (go_at_call 71; (with_reducible refine (hC1 w1).mono ?_); rintro r w2 ⟨rfl, hB2⟩; have HS2 := Sta.call HS1 hB2; clear hB2))
  go_ret
  exact ⟨by rw [HF.out]; rfl, Sta.fin HS2⟩
set_option maxRecDepth 100000 in
set_option maxHeartbeats 2000000 in
theorem implHeadBy_yes (s : Int) (q : ByteArray) (t : Int) (w : World) (hs : I64 s) (ht : I64 t) (hr : q.size ≤ maxLen) (hb : headB s q t = true) :
    Calls Try.prog 30 #[.agg #[.int .i64 s, .string q, .int .i64 t]] w fun r w' => r = .returned (.string (headBy s q t)) ∧ Below w.heap.size w w' := by
  have hq := headB_size hb
  have HF : Hid (headBy s q t = ((⟨#[72]⟩ ++ putS s) ++ q) ++ putS t) := by show _ = _; unfold headBy; rw [if_pos hb]
  have z1 := putS_size s
  have z2 := putS_size t
  have hC1 : ∀ w0, Calls Try.prog 71 #[.agg #[.int .i64 s, .string q, .int .i64 t]] w0 fun r w' => r = .returned (.bool true) ∧ Below w0.heap.size w0 w' := fun w0 => by rw [← hb]; exact implHead s q t w0 hr
  have hC2 : ∀ w0, Calls Try.prog 72 #[.int .i64 s] w0 fun r w' => r = .returned (.string (putS s)) ∧ Below w0.heap.size w0 w' := fun w0 => implPut s w0 hs
  have hC3 : ∀ w0, Calls Try.prog 72 #[.int .i64 t] w0 fun r w' => r = .returned (.string (putS t)) ∧ Below w0.heap.size w0 w' := fun w0 => implPut t w0 ht
  clear hb
  obtain ⟨X, hX⟩ : ∃ X, (⟨#[72]⟩ : ByteArray) ++ putS s = X := ⟨_, rfl⟩
  have hXs : X.size ≤ 11 := by rw [← hX, ByteArray.size_append]; show 1 + _ ≤ _; omega
  obtain ⟨Y, hY⟩ : ∃ Y, X ++ q = Y := ⟨_, rfl⟩
  have hYs : Y.size ≤ 43 := by rw [← hY, ByteArray.size_append]; omega
  rw [hX, hY] at HF
  generalize putS s = ps at *
  generalize putS t = pt at *
  generalize headBy s q t = R at *
  have y1 : ¬ 9223372036854775807 < 1 + ps.size := by omega
  have y2 : ¬ 9223372036854775807 < X.size + q.size := by omega
  have y3 : ¬ 9223372036854775807 < Y.size + pt.size := by omega
  have HS0 : Hid (Sta [] w [] [] w) := Sta.start w
  clear hs ht hr hq z1 z2
  go_enter Try.func30, Try.ntmps30
  go_wp2_with (first
    | ((with_reducible refine wpList_boxV (w := w) (by with_unfolding_all rfl) 35 (.tmp 0) (by with_unfolding_all rfl) [.int .i64 s, .string q, .int .i64 t] (by with_unfolding_all rfl) ?_); intro w1 hA1 hB1 hS1; clear hS1; have HS1 := Sta.new HS0 hA1 hB1 (by simp); clear hA1 hB1)
    | ((with_reducible refine wpList_loadV (w := w1) (by with_unfolding_all rfl) 35 (.tmp 1) (by with_unfolding_all rfl) w.heap.size [.int .i64 s, .string q, .int .i64 t] (by with_unfolding_all rfl) (Sta.r (i := 0) HS1 (by with_unfolding_all rfl)) Try.uT_implHead 3 Try.sT_implHead (by with_unfolding_all rfl) ?_))
    | (go_at_call 71; (with_reducible refine (hC1 w1).mono ?_); rintro r w2 ⟨rfl, hB2⟩; have HS2 := Sta.call HS1 hB2; clear hB2))
  have HS3 := Sta.drew HS2
  go_region_held3 (fun w' => w'.cell? ⟨w.heap.size, 0, none⟩ = some (.int .i64 s) ∧ w'.cell? ⟨w.heap.size, 1, none⟩ = some (.string q) ∧ w'.cell? ⟨w.heap.size, 2, none⟩ = some (.int .i64 t) ∧ Hid (Sta [] w [(w.heap.size, [.int .i64 s, .string q, .int .i64 t])] [] w'))
    (first | exact ⟨Sta.c (i := 0) (HS3) rfl rfl, Sta.c (i := 0) (HS3) rfl rfl, Sta.c (i := 0) (HS3) rfl rfl, (HS3)⟩ | exact ⟨Sta.c (i := 0) (Sta.call (HS3) hB4) rfl rfl, Sta.c (i := 0) (Sta.call (HS3) hB4) rfl rfl, Sta.c (i := 0) (Sta.call (HS3) hB4) rfl rfl, (Sta.call (HS3) hB4)⟩ | exact ⟨Sta.c (i := 0) (Sta.call (Sta.call (HS3) hB4) hB5) rfl rfl, Sta.c (i := 0) (Sta.call (Sta.call (HS3) hB4) hB5) rfl rfl, Sta.c (i := 0) (Sta.call (Sta.call (HS3) hB4) hB5) rfl rfl, (Sta.call (Sta.call (HS3) hB4) hB5)⟩)
    (first
      | (go_at_call 72; (with_reducible refine (hC2 _).mono ?_); rintro r w4 ⟨rfl, hB4⟩)
      | (go_at_call 72; (with_reducible refine (hC3 _).mono ?_); rintro r w5 ⟨rfl, hB5⟩))
  all_goals
    have HS6 := Sta.call (Sta.call (HS3) hB4) hB5
    go_wp2_with fail
    go_ret
    exact ⟨by rw [HF.out]; rfl, Sta.fin HS6⟩
theorem implHeadBy (s : Int) (q : ByteArray) (t : Int) (w : World) (hs : I64 s) (ht : I64 t) (hr : q.size ≤ maxLen) :
    Calls Try.prog 30 #[.agg #[.int .i64 s, .string q, .int .i64 t]] w fun r w' => r = .returned (.string (headBy s q t)) ∧ Below w.heap.size w w' := by
  cases hb : headB s q t with
  | false => exact implHeadBy_no s q t w hs ht hr hb
  | true => exact implHeadBy_yes s q t w hs ht hr hb
end Go.Proofs.Ytdfglpbappeoaaa
