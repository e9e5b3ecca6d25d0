/- LogHead, on both sides. -/
import Derived.Test.YtdfglpbappeoaaaDoorTreI
import Derived.Test.YtdfglpbappeoaaaDoorHdR
import Derived.Test.YtdfglpbappeoaaaDoorTy
import Derived.Deep.RegionHeld3
namespace Go.Proofs.YtdfglpbappeoaaaDoor
open Go.RowKit
set_option linter.unusedVariables false

def logB (l : List ByteArray) (t : Int) : Bool := okLv l && (decide (1 ≤ l.length) && timB t)
theorem logB_head {l : List ByteArray} {t : Int} : headB (l.length : Int) (rootA l) t = logB l t := by
  unfold headB logB rootA
  cases h : okLv l with
  | false =>
    rw [if_neg (by simp)]
    have : ((⟨#[]⟩ : ByteArray).size = 32) = False := by simp; decide
    simp [this]
  | true =>
    have h64 := (okLv_of h).1
    rw [if_pos rfl]
    have e1 : decide ((l.length : Int) ≤ 1000000) = true := decide_eq_true (by omega)
    have e2 : decide ((rtT l).size = 32) = true := decide_eq_true (rtT_size l)
    have e3 : decide (1 ≤ (l.length : Int)) = decide (1 ≤ l.length) := by
      by_cases hl : 1 ≤ l.length
      · rw [decide_eq_true hl, decide_eq_true (by omega)]
      · rw [decide_eq_false hl, decide_eq_false (by omega)]
    rw [e1, e2, e3]
    simp
theorem rootA_yes {l : List ByteArray} (h : okLv l = true) : rootA l = rtT l := if_pos h
theorem logB_ok {l : List ByteArray} {t : Int} (h : logB l t = true) : okLv l = true ∧ 1 ≤ l.length ∧ timB t = true := by
  unfold logB at h
  simp only [Bool.and_eq_true, decide_eq_true_eq] at h
  exact h
theorem rootA_le (l : List ByteArray) : (rootA l).size ≤ maxLen := by
  unfold rootA
  split
  · rw [rtT_size]; decide
  · exact Nat.zero_le _
set_option maxRecDepth 100000 in
set_option maxHeartbeats 2000000 in
theorem implLogHead_yes (a : Option Addr) (c n : Nat) (l : List ByteArray) (t : Int) (w : World) (hn : l.length = n) (hc : n ≤ c) (h : SA w a l) (hM : n ≤ 1048576) (hcM : c ≤ 9223372036854775807) (hx : ∀ x ∈ l, x.size ≤ maxLen) (hk : ArrU w 0 keys) (h0 : 0 < w.heap.size) (hb : logB l t = true) :
    Calls Tryd.prog 9 #[.slice a n c, .int .i64 t] w fun r w' => r = .returned (.agg #[.int .i64 (n : Int), .string (rtT l), .int .i64 t]) ∧ Below w.heap.size w w' := by
  have hT' : ∃ T, rootA l = T := ⟨_, rfl⟩
  obtain ⟨T, hT⟩ := hT'
  have HT : Hid (T = rtT l) := hT.symm.trans (rootA_yes (logB_ok hb).1)
  have hC1 : ∀ w0, (SA w0 a l ∧ ArrU w0 0 keys ∧ 0 < w0.heap.size) → Calls Tryd.prog 19 #[.slice a n c] w0 fun r w' => r = .returned (.string T) ∧ Below w0.heap.size w0 w' := fun w0 n0 => hT ▸ treeI a c n l w0 hn hc n0.1 hM hcM hx n0.2.1 n0.2.2
  have hC2 : ∀ w0, Calls Tryd.prog 20 #[.agg #[.int .i64 (n : Int), .string T, .int .i64 t]] w0 fun r w' => r = .returned (.bool true) ∧ Below w0.heap.size w0 w' := fun w0 => by rw [← hb, ← logB_head, hn, ← hT]; exact implHead (n : Int) (rootA l) t w0 (rootA_le l)
  skip
  have HS0 : Hid (Sta [] w [] [⟨fun k => k < w.heap.size, fun w' => SA w' a l ∧ ArrU w' 0 keys ∧ 0 < w'.heap.size⟩] w) := Sta.arg (fun w' => SA w' a l ∧ ArrU w' 0 keys ∧ 0 < w'.heap.size) (fun w' hb => ⟨h.below hb, hk.below hb h0, Nat.lt_of_lt_of_le h0 hb.size⟩)
  clear hT hb hn hc h hM hcM hx hk h0
  go_enter Tryd.func9, Tryd.ntmps9
  go_wp2_with (first
    | ((with_reducible refine wpList_allocV (w := w) (by with_unfolding_all rfl) 25 (by with_unfolding_all rfl) [.int .i64 0, .string ⟨#[]⟩, .int .i64 0] Tryd.zT_implHead ?_); intro w1 hA1 hB1 hS1; clear hS1; have HS1 := Sta.new HS0 hA1 hB1 (by simp); clear hA1 hB1)
    | (go_at_call 19; have n2_0 : SA w1 a l ∧ ArrU w1 0 keys ∧ 0 < w1.heap.size := (Sta.t (i := 0) HS1 rfl :); (with_reducible refine (hC1 w1 n2_0).mono ?_); rintro r w2 ⟨rfl, hB2⟩; have HS2 := Sta.call HS1 hB2; clear hB2)
    | ((with_reducible refine wpList_allocV (w := w2) (by with_unfolding_all rfl) 25 (by with_unfolding_all rfl) [.int .i64 0, .string ⟨#[]⟩, .int .i64 0] Tryd.zT_implHead ?_); intro w3 hA3 hB3 hS3; clear hS3; have HS3 := Sta.new HS2 hA3 hB3 (by simp); clear hA3 hB3)
    | ((with_reducible refine wpList_storeS (w := w3) (by with_unfolding_all rfl) 25 (.tmp 5) (.tmp 11) (by with_unfolding_all rfl) w2.heap.size [.int .i64 0, .string ⟨#[]⟩, .int .i64 0] [.int .i64 (n : Int), .string T, .int .i64 t] (by with_unfolding_all rfl) (by with_unfolding_all rfl) (Sta.r (i := 0) HS3 (by with_unfolding_all rfl)) 3 Tryd.sT_implHead (by with_unfolding_all rfl) (by with_unfolding_all rfl) (by with_unfolding_all rfl) ?_); intro w4 hA4 hO4; have HS4 := Sta.put 0 HS3 rfl hA4 (by simp) hO4; clear hA4 hO4)
    | ((with_reducible refine wpList_loadV (w := w4) (by with_unfolding_all rfl) 25 (.tmp 5) (by with_unfolding_all rfl) w2.heap.size [.int .i64 (n : Int), .string T, .int .i64 t] (by with_unfolding_all rfl) (Sta.r (i := 0) HS4 (by with_unfolding_all rfl)) Tryd.uT_implHead 3 Tryd.sT_implHead (by with_unfolding_all rfl) ?_))
    | (go_at_call 20; (with_reducible refine (hC2 w4).mono ?_); rintro r w5 ⟨rfl, hB5⟩; have HS5 := Sta.call HS4 hB5; clear hB5)
    | ((with_reducible refine wpList_loadV (w := w5) (by with_unfolding_all rfl) 25 (.tmp 5) (by with_unfolding_all rfl) w2.heap.size [.int .i64 (n : Int), .string T, .int .i64 t] (by with_unfolding_all rfl) (Sta.r (i := 0) HS5 (by with_unfolding_all rfl)) Tryd.uT_implHead 3 Tryd.sT_implHead (by with_unfolding_all rfl) ?_))
    | ((with_reducible refine wpList_storeS (w := w5) (by with_unfolding_all rfl) 25 (.tmp 4) (.tmp 16) (by with_unfolding_all rfl) w.heap.size [.int .i64 0, .string ⟨#[]⟩, .int .i64 0] [.int .i64 (n : Int), .string T, .int .i64 t] (by with_unfolding_all rfl) (by with_unfolding_all rfl) (Sta.r (i := 1) HS5 (by with_unfolding_all rfl)) 3 Tryd.sT_implHead (by with_unfolding_all rfl) (by with_unfolding_all rfl) (by with_unfolding_all rfl) ?_); intro w6 hA6 hO6; have HS6 := Sta.put 1 HS5 rfl hA6 (by simp) hO6; clear hA6 hO6))
  exact bodyPost_ret (results_V (t := 25) rfl _ w.heap.size [.int .i64 (n : Int), .string T, .int .i64 t] rfl (Sta.r (i := 1) HS6 (by with_unfolding_all rfl)) Tryd.uT_implHead 3 Tryd.sT_implHead rfl) rfl ⟨by rw [HT.out], Sta.fin HS6⟩
set_option maxRecDepth 100000 in
set_option maxHeartbeats 2000000 in
theorem implLogHead_no (a : Option Addr) (c n : Nat) (l : List ByteArray) (t : Int) (w : World) (hn : l.length = n) (hc : n ≤ c) (h : SA w a l) (hM : n ≤ 1048576) (hcM : c ≤ 9223372036854775807) (hx : ∀ x ∈ l, x.size ≤ maxLen) (hk : ArrU w 0 keys) (h0 : 0 < w.heap.size) (hb : logB l t = false) :
    Calls Tryd.prog 9 #[.slice a n c, .int .i64 t] w fun r w' => r = .returned (.agg #[.int .i64 0, .string ⟨#[]⟩, .int .i64 0]) ∧ Below w.heap.size w w' := by
  have hT' : ∃ T, rootA l = T := ⟨_, rfl⟩
  obtain ⟨T, hT⟩ := hT'
  have hC1 : ∀ w0, (SA w0 a l ∧ ArrU w0 0 keys ∧ 0 < w0.heap.size) → Calls Tryd.prog 19 #[.slice a n c] w0 fun r w' => r = .returned (.string T) ∧ Below w0.heap.size w0 w' := fun w0 n0 => hT ▸ treeI a c n l w0 hn hc n0.1 hM hcM hx n0.2.1 n0.2.2
  have hC2 : ∀ w0, Calls Tryd.prog 20 #[.agg #[.int .i64 (n : Int), .string T, .int .i64 t]] w0 fun r w' => r = .returned (.bool false) ∧ Below w0.heap.size w0 w' := fun w0 => by rw [← hb, ← logB_head, hn, ← hT]; exact implHead (n : Int) (rootA l) t w0 (rootA_le l)
  skip
  have HS0 : Hid (Sta [] w [] [⟨fun k => k < w.heap.size, fun w' => SA w' a l ∧ ArrU w' 0 keys ∧ 0 < w'.heap.size⟩] w) := Sta.arg (fun w' => SA w' a l ∧ ArrU w' 0 keys ∧ 0 < w'.heap.size) (fun w' hb => ⟨h.below hb, hk.below hb h0, Nat.lt_of_lt_of_le h0 hb.size⟩)
  clear hT hb hn hc h hM hcM hx hk h0
  go_enter Tryd.func9, Tryd.ntmps9
  go_wp2_with (first
    | ((with_reducible refine wpList_allocV (w := w) (by with_unfolding_all rfl) 25 (by with_unfolding_all rfl) [.int .i64 0, .string ⟨#[]⟩, .int .i64 0] Tryd.zT_implHead ?_); intro w1 hA1 hB1 hS1; clear hS1; have HS1 := Sta.new HS0 hA1 hB1 (by simp); clear hA1 hB1)
    | (go_at_call 19; have n2_0 : SA w1 a l ∧ ArrU w1 0 keys ∧ 0 < w1.heap.size := (Sta.t (i := 0) HS1 rfl :); (with_reducible refine (hC1 w1 n2_0).mono ?_); rintro r w2 ⟨rfl, hB2⟩; have HS2 := Sta.call HS1 hB2; clear hB2)
    | ((with_reducible refine wpList_allocV (w := w2) (by with_unfolding_all rfl) 25 (by with_unfolding_all rfl) [.int .i64 0, .string ⟨#[]⟩, .int .i64 0] Tryd.zT_implHead ?_); intro w3 hA3 hB3 hS3; clear hS3; have HS3 := Sta.new HS2 hA3 hB3 (by simp); clear hA3 hB3)
    | ((with_reducible refine wpList_storeS (w := w3) (by with_unfolding_all rfl) 25 (.tmp 5) (.tmp 11) (by with_unfolding_all rfl) w2.heap.size [.int .i64 0, .string ⟨#[]⟩, .int .i64 0] [.int .i64 (n : Int), .string T, .int .i64 t] (by with_unfolding_all rfl) (by with_unfolding_all rfl) (Sta.r (i := 0) HS3 (by with_unfolding_all rfl)) 3 Tryd.sT_implHead (by with_unfolding_all rfl) (by with_unfolding_all rfl) (by with_unfolding_all rfl) ?_); intro w4 hA4 hO4; have HS4 := Sta.put 0 HS3 rfl hA4 (by simp) hO4; clear hA4 hO4)
    | ((with_reducible refine wpList_loadV (w := w4) (by with_unfolding_all rfl) 25 (.tmp 5) (by with_unfolding_all rfl) w2.heap.size [.int .i64 (n : Int), .string T, .int .i64 t] (by with_unfolding_all rfl) (Sta.r (i := 0) HS4 (by with_unfolding_all rfl)) Tryd.uT_implHead 3 Tryd.sT_implHead (by with_unfolding_all rfl) ?_))
    | (go_at_call 20; (with_reducible refine (hC2 w4).mono ?_); rintro r w5 ⟨rfl, hB5⟩; have HS5 := Sta.call HS4 hB5; clear hB5)
    | ((with_reducible refine wpList_storeS (w := w5) (by with_unfolding_all rfl) 25 (.tmp 4) (.tmp 15) (by with_unfolding_all rfl) w.heap.size [.int .i64 0, .string ⟨#[]⟩, .int .i64 0] [.int .i64 0, .string ⟨#[]⟩, .int .i64 0] (by with_unfolding_all rfl) (by with_unfolding_all rfl) (Sta.r (i := 1) HS5 (by with_unfolding_all rfl)) 3 Tryd.sT_implHead (by with_unfolding_all rfl) (by with_unfolding_all rfl) (by with_unfolding_all rfl) ?_); intro w6 hA6 hO6; have HS6 := Sta.put 1 HS5 rfl hA6 (by simp) hO6; clear hA6 hO6))
  exact bodyPost_ret (results_V (t := 25) rfl _ w.heap.size [.int .i64 0, .string ⟨#[]⟩, .int .i64 0] rfl (Sta.r (i := 1) HS6 (by with_unfolding_all rfl)) Tryd.uT_implHead 3 Tryd.sT_implHead rfl) rfl ⟨rfl, Sta.fin HS6⟩
set_option maxRecDepth 100000 in
set_option maxHeartbeats 2000000 in
theorem specLog_a (a : Option Addr) (c n : Nat) (l : List ByteArray) (t : Int) (w : World) (hn : l.length = n) (hc : n ≤ c) (h : SA w a l) (hM : n ≤ 1048576) (hcM : c ≤ 9223372036854775807) (hx : ∀ x ∈ l, x.size ≤ maxLen) (g1 : 400 < n) :
    Calls Tryd.prog 7 #[.slice a n c, .int .i64 t] w fun r w' => r = .returned (.agg #[.int .i64 0, .string ⟨#[]⟩, .int .i64 0]) ∧ Below w.heap.size w w' := by
  have d1 : decide ((400 : Int) < (n : Int)) = true := decide_eq_true (by omega)
  have HS0 : Hid (Sta [] w [] [⟨fun k => k < w.heap.size, fun w' => SA w' a l⟩] w) := Sta.arg (fun w' => SA w' a l) (fun w' hb => h.below hb)
  clear hn hc h hM hcM hx g1
  go_enter Tryd.func7, Tryd.ntmps7
  go_wp2_with (first
    | ((with_reducible refine wpList_allocV (w := w) (by with_unfolding_all rfl) 25 (by with_unfolding_all rfl) [.int .i64 0, .string ⟨#[]⟩, .int .i64 0] Tryd.zT_implHead ?_); intro w1 hA1 hB1 hS1; clear hS1; have HS1 := Sta.new HS0 hA1 hB1 (by simp); clear hA1 hB1)
    | ((with_reducible refine wpList_storeS (w := w1) (by with_unfolding_all rfl) 25 (.tmp 4) (.tmp 23) (by with_unfolding_all rfl) w.heap.size [.int .i64 0, .string ⟨#[]⟩, .int .i64 0] [.int .i64 0, .string ⟨#[]⟩, .int .i64 0] (by with_unfolding_all rfl) (by with_unfolding_all rfl) (Sta.r (i := 0) HS1 (by with_unfolding_all rfl)) 3 Tryd.sT_implHead (by with_unfolding_all rfl) (by with_unfolding_all rfl) (by with_unfolding_all rfl) ?_); intro w2 hA2 hO2; have HS2 := Sta.put 0 HS1 rfl hA2 (by simp) hO2; clear hA2 hO2))
  exact bodyPost_ret (results_V (t := 25) rfl _ w.heap.size [.int .i64 0, .string ⟨#[]⟩, .int .i64 0] rfl (Sta.r (i := 0) HS2 (by with_unfolding_all rfl)) Tryd.uT_implHead 3 Tryd.sT_implHead rfl) rfl ⟨rfl, Sta.fin HS2⟩
set_option maxRecDepth 100000 in
set_option maxHeartbeats 2000000 in
theorem specLog_b (a : Option Addr) (c n : Nat) (l : List ByteArray) (t : Int) (w : World) (hn : l.length = n) (hc : n ≤ c) (h : SA w a l) (hM : n ≤ 1048576) (hcM : c ≤ 9223372036854775807) (hx : ∀ x ∈ l, x.size ≤ maxLen) (g1 : ¬ 400 < n) (g2 : n < 1) :
    Calls Tryd.prog 7 #[.slice a n c, .int .i64 t] w fun r w' => r = .returned (.agg #[.int .i64 0, .string ⟨#[]⟩, .int .i64 0]) ∧ Below w.heap.size w w' := by
  have d1 : decide ((400 : Int) < (n : Int)) = false := decide_eq_false (by omega)
  have d2 : decide ((n : Int) < 1) = true := decide_eq_true (by omega)
  have HS0 : Hid (Sta [] w [] [⟨fun k => k < w.heap.size, fun w' => SA w' a l⟩] w) := Sta.arg (fun w' => SA w' a l) (fun w' hb => h.below hb)
  clear hn hc h hM hcM hx g1 g2
  go_enter Tryd.func7, Tryd.ntmps7
  go_wp2_with (first
    | ((with_reducible refine wpList_allocV (w := w) (by with_unfolding_all rfl) 25 (by with_unfolding_all rfl) [.int .i64 0, .string ⟨#[]⟩, .int .i64 0] Tryd.zT_implHead ?_); intro w1 hA1 hB1 hS1; clear hS1; have HS1 := Sta.new HS0 hA1 hB1 (by simp); clear hA1 hB1)
    | ((with_reducible refine wpList_storeS (w := w1) (by with_unfolding_all rfl) 25 (.tmp 4) (.tmp 23) (by with_unfolding_all rfl) w.heap.size [.int .i64 0, .string ⟨#[]⟩, .int .i64 0] [.int .i64 0, .string ⟨#[]⟩, .int .i64 0] (by with_unfolding_all rfl) (by with_unfolding_all rfl) (Sta.r (i := 0) HS1 (by with_unfolding_all rfl)) 3 Tryd.sT_implHead (by with_unfolding_all rfl) (by with_unfolding_all rfl) (by with_unfolding_all rfl) ?_); intro w2 hA2 hO2; have HS2 := Sta.put 0 HS1 rfl hA2 (by simp) hO2; clear hA2 hO2))
  exact bodyPost_ret (results_V (t := 25) rfl _ w.heap.size [.int .i64 0, .string ⟨#[]⟩, .int .i64 0] rfl (Sta.r (i := 0) HS2 (by with_unfolding_all rfl)) Tryd.uT_implHead 3 Tryd.sT_implHead rfl) rfl ⟨rfl, Sta.fin HS2⟩
set_option maxRecDepth 100000 in
set_option maxHeartbeats 2000000 in
theorem specLog_c (a : Option Addr) (c n : Nat) (l : List ByteArray) (t : Int) (w : World) (hn : l.length = n) (hc : n ≤ c) (h : SA w a l) (hM : n ≤ 1048576) (hcM : c ≤ 9223372036854775807) (hx : ∀ x ∈ l, x.size ≤ maxLen) (g1 : ¬ 400 < n) (g2 : ¬ n < 1) (h1 : okLv l = false) :
    Calls Tryd.prog 7 #[.slice a n c, .int .i64 t] w fun r w' => r = .returned (.agg #[.int .i64 0, .string ⟨#[]⟩, .int .i64 0]) ∧ Below w.heap.size w w' := by
  have d1 : decide ((400 : Int) < (n : Int)) = false := decide_eq_false (by omega)
  have d2 : decide ((n : Int) < 1) = false := decide_eq_false (by omega)
  have hC1 : ∀ w0, (SA w0 a l) → Calls Tryd.prog 16 #[.slice a n c] w0 fun r w' => r = .returned (.bool false) ∧ w0 = w' := fun w0 n0 => by rw [← h1]; exact (specRight a c n l w0 hn n0 (by omega) hx).mono fun _ _ h => ⟨h.1, h.2.symm⟩
  have HS0 : Hid (Sta [] w [] [⟨fun k => k < w.heap.size, fun w' => SA w' a l⟩] w) := Sta.arg (fun w' => SA w' a l) (fun w' hb => h.below hb)
  clear hn hc h hM hcM hx g1 g2 h1
  go_enter Tryd.func7, Tryd.ntmps7
  go_wp2_with (first
    | ((with_reducible refine wpList_allocV (w := w) (by with_unfolding_all rfl) 25 (by with_unfolding_all rfl) [.int .i64 0, .string ⟨#[]⟩, .int .i64 0] Tryd.zT_implHead ?_); intro w1 hA1 hB1 hS1; clear hS1; have HS1 := Sta.new HS0 hA1 hB1 (by simp); clear hA1 hB1)
    | (go_at_call 16; have n2_0 : SA w1 a l := (Sta.t (i := 0) HS1 rfl :); (with_reducible refine (hC1 w1 n2_0).mono ?_); rintro r w' ⟨rfl, rfl⟩)
    | ((with_reducible refine wpList_storeS (w := w1) (by with_unfolding_all rfl) 25 (.tmp 4) (.tmp 23) (by with_unfolding_all rfl) w.heap.size [.int .i64 0, .string ⟨#[]⟩, .int .i64 0] [.int .i64 0, .string ⟨#[]⟩, .int .i64 0] (by with_unfolding_all rfl) (by with_unfolding_all rfl) (Sta.r (i := 0) HS1 (by with_unfolding_all rfl)) 3 Tryd.sT_implHead (by with_unfolding_all rfl) (by with_unfolding_all rfl) (by with_unfolding_all rfl) ?_); intro w3 hA3 hO3; have HS3 := Sta.put 0 HS1 rfl hA3 (by simp) hO3; clear hA3 hO3))
  exact bodyPost_ret (results_V (t := 25) rfl _ w.heap.size [.int .i64 0, .string ⟨#[]⟩, .int .i64 0] rfl (Sta.r (i := 0) HS3 (by with_unfolding_all rfl)) Tryd.uT_implHead 3 Tryd.sT_implHead rfl) rfl ⟨rfl, Sta.fin HS3⟩
set_option maxRecDepth 100000 in
set_option maxHeartbeats 2000000 in
theorem specLog_d (a : Option Addr) (c n : Nat) (l : List ByteArray) (t : Int) (w : World) (hn : l.length = n) (hc : n ≤ c) (h : SA w a l) (hM : n ≤ 1048576) (hcM : c ≤ 9223372036854775807) (hx : ∀ x ∈ l, x.size ≤ maxLen) (g1 : ¬ 400 < n) (g2 : ¬ n < 1) (h1 : okLv l = true) (h2 : timB t = false) :
    Calls Tryd.prog 7 #[.slice a n c, .int .i64 t] w fun r w' => r = .returned (.agg #[.int .i64 0, .string ⟨#[]⟩, .int .i64 0]) ∧ Below w.heap.size w w' := by
  have d1 : decide ((400 : Int) < (n : Int)) = false := decide_eq_false (by omega)
  have d2 : decide ((n : Int) < 1) = false := decide_eq_false (by omega)
  have hC1 : ∀ w0, (SA w0 a l) → Calls Tryd.prog 16 #[.slice a n c] w0 fun r w' => r = .returned (.bool true) ∧ w0 = w' := fun w0 n0 => by rw [← h1]; exact (specRight a c n l w0 hn n0 (by omega) hx).mono fun _ _ h => ⟨h.1, h.2.symm⟩
  have hC2 : ∀ w0, Calls Tryd.prog 17 #[.int .i64 t] w0 fun r w' => r = .returned (.bool false) ∧ w0 = w' := fun w0 => by rw [← h2]; exact specTim t w0
  have HS0 : Hid (Sta [] w [] [⟨fun k => k < w.heap.size, fun w' => SA w' a l⟩] w) := Sta.arg (fun w' => SA w' a l) (fun w' hb => h.below hb)
  clear hn hc h hM hcM hx g1 g2 h1 h2
  go_enter Tryd.func7, Tryd.ntmps7
  go_wp2_with (first
    | ((with_reducible refine wpList_allocV (w := w) (by with_unfolding_all rfl) 25 (by with_unfolding_all rfl) [.int .i64 0, .string ⟨#[]⟩, .int .i64 0] Tryd.zT_implHead ?_); intro w1 hA1 hB1 hS1; clear hS1; have HS1 := Sta.new HS0 hA1 hB1 (by simp); clear hA1 hB1)
    | (go_at_call 16; have n2_0 : SA w1 a l := (Sta.t (i := 0) HS1 rfl :); (with_reducible refine (hC1 w1 n2_0).mono ?_); rintro r w' ⟨rfl, rfl⟩)
    | (go_at_call 17; (with_reducible refine (hC2 w1).mono ?_); rintro r w' ⟨rfl, rfl⟩)
    | ((with_reducible refine wpList_storeS (w := w1) (by with_unfolding_all rfl) 25 (.tmp 4) (.tmp 23) (by with_unfolding_all rfl) w.heap.size [.int .i64 0, .string ⟨#[]⟩, .int .i64 0] [.int .i64 0, .string ⟨#[]⟩, .int .i64 0] (by with_unfolding_all rfl) (by with_unfolding_all rfl) (Sta.r (i := 0) HS1 (by with_unfolding_all rfl)) 3 Tryd.sT_implHead (by with_unfolding_all rfl) (by with_unfolding_all rfl) (by with_unfolding_all rfl) ?_); intro w4 hA4 hO4; have HS4 := Sta.put 0 HS1 rfl hA4 (by simp) hO4; clear hA4 hO4))
  exact bodyPost_ret (results_V (t := 25) rfl _ w.heap.size [.int .i64 0, .string ⟨#[]⟩, .int .i64 0] rfl (Sta.r (i := 0) HS4 (by with_unfolding_all rfl)) Tryd.uT_implHead 3 Tryd.sT_implHead rfl) rfl ⟨rfl, Sta.fin HS4⟩
set_option maxRecDepth 100000 in
set_option maxHeartbeats 2000000 in
theorem specLog_e (a : Option Addr) (c n : Nat) (l : List ByteArray) (t : Int) (w : World) (hn : l.length = n) (hc : n ≤ c) (h : SA w a l) (hM : n ≤ 1048576) (hcM : c ≤ 9223372036854775807) (hx : ∀ x ∈ l, x.size ≤ maxLen) (g1 : ¬ 400 < n) (g2 : ¬ n < 1) (h1 : okLv l = true) (h2 : timB t = true) :
    Calls Tryd.prog 7 #[.slice a n c, .int .i64 t] w fun r w' => r = .returned (.agg #[.int .i64 (n : Int), .string (rtT l), .int .i64 t]) ∧ Below w.heap.size w w' := by
  have d1 : decide ((400 : Int) < (n : Int)) = false := decide_eq_false (by omega)
  have d2 : decide ((n : Int) < 1) = false := decide_eq_false (by omega)
  have hC1 : ∀ w0, (SA w0 a l) → Calls Tryd.prog 16 #[.slice a n c] w0 fun r w' => r = .returned (.bool true) ∧ w0 = w' := fun w0 n0 => by rw [← h1]; exact (specRight a c n l w0 hn n0 (by omega) hx).mono fun _ _ h => ⟨h.1, h.2.symm⟩
  have hC2 : ∀ w0, Calls Tryd.prog 17 #[.int .i64 t] w0 fun r w' => r = .returned (.bool true) ∧ w0 = w' := fun w0 => by rw [← h2]; exact specTim t w0
  have hC3 : ∀ w0, (SA w0 a l) → Calls Tryd.prog 18 #[.slice a n c] w0 fun r w' => r = .returned (.string (rtT l)) ∧ Below w0.heap.size w0 w' := fun w0 n0 => specRoot _ a c n l w0 (Nat.le_refl _) hn hc n0 (by omega) hcM (okLv_of h1).2
  have HS0 : Hid (Sta [] w [] [⟨fun k => k < w.heap.size, fun w' => SA w' a l⟩] w) := Sta.arg (fun w' => SA w' a l) (fun w' hb => h.below hb)
  clear hn hc h hM hcM hx g1 g2 h1 h2
  go_enter Tryd.func7, Tryd.ntmps7
  go_wp2_with (first
    | ((with_reducible refine wpList_allocV (w := w) (by with_unfolding_all rfl) 25 (by with_unfolding_all rfl) [.int .i64 0, .string ⟨#[]⟩, .int .i64 0] Tryd.zT_implHead ?_); intro w1 hA1 hB1 hS1; clear hS1; have HS1 := Sta.new HS0 hA1 hB1 (by simp); clear hA1 hB1)
    | (go_at_call 16; have n2_0 : SA w1 a l := (Sta.t (i := 0) HS1 rfl :); (with_reducible refine (hC1 w1 n2_0).mono ?_); rintro r w' ⟨rfl, rfl⟩)
    | (go_at_call 17; (with_reducible refine (hC2 w1).mono ?_); rintro r w' ⟨rfl, rfl⟩)
    | (go_at_call 18; have n4_0 : SA w1 a l := (Sta.t (i := 0) HS1 rfl :); (with_reducible refine (hC3 w1 n4_0).mono ?_); rintro r w4 ⟨rfl, hB4⟩; have HS4 := Sta.call HS1 hB4; clear hB4)
    | ((with_reducible refine wpList_storeS (w := w4) (by with_unfolding_all rfl) 25 (.tmp 4) (.tmp 29) (by with_unfolding_all rfl) w.heap.size [.int .i64 0, .string ⟨#[]⟩, .int .i64 0] [.int .i64 (n : Int), .string (rtT l), .int .i64 t] (by with_unfolding_all rfl) (by with_unfolding_all rfl) (Sta.r (i := 0) HS4 (by with_unfolding_all rfl)) 3 Tryd.sT_implHead (by with_unfolding_all rfl) (by with_unfolding_all rfl) (by with_unfolding_all rfl) ?_); intro w5 hA5 hO5; have HS5 := Sta.put 0 HS4 rfl hA5 (by simp) hO5; clear hA5 hO5))
  exact bodyPost_ret (results_V (t := 25) rfl _ w.heap.size [.int .i64 (n : Int), .string (rtT l), .int .i64 t] rfl (Sta.r (i := 0) HS5 (by with_unfolding_all rfl)) Tryd.uT_implHead 3 Tryd.sT_implHead rfl) rfl ⟨rfl, Sta.fin HS5⟩
theorem specLogHead_yes (a : Option Addr) (c n : Nat) (l : List ByteArray) (t : Int) (w : World) (hn : l.length = n) (hc : n ≤ c) (h : SA w a l) (hM : n ≤ 1048576) (hcM : c ≤ 9223372036854775807) (hx : ∀ x ∈ l, x.size ≤ maxLen) (hb : logB l t = true) :
    Calls Tryd.prog 7 #[.slice a n c, .int .i64 t] w fun r w' => r = .returned (.agg #[.int .i64 (n : Int), .string (rtT l), .int .i64 t]) ∧ Below w.heap.size w w' := by
  obtain ⟨h1, h2, h3⟩ := logB_ok hb
  have := (okLv_of h1).1
  exact specLog_e a c n l t w hn hc h hM hcM hx (by omega) (by omega) h1 h3
theorem specLogHead_no (a : Option Addr) (c n : Nat) (l : List ByteArray) (t : Int) (w : World) (hn : l.length = n) (hc : n ≤ c) (h : SA w a l) (hM : n ≤ 1048576) (hcM : c ≤ 9223372036854775807) (hx : ∀ x ∈ l, x.size ≤ maxLen) (hb : logB l t = false) :
    Calls Tryd.prog 7 #[.slice a n c, .int .i64 t] w fun r w' => r = .returned (.agg #[.int .i64 0, .string ⟨#[]⟩, .int .i64 0]) ∧ Below w.heap.size w w' := by
  by_cases g1 : 400 < n
  · exact specLog_a a c n l t w hn hc h hM hcM hx g1
  by_cases g2 : n < 1
  · exact specLog_b a c n l t w hn hc h hM hcM hx g1 g2
  cases h1 : okLv l with
  | false => exact specLog_c a c n l t w hn hc h hM hcM hx g1 g2 h1
  | true =>
    cases h2 : timB t with
    | false => exact specLog_d a c n l t w hn hc h hM hcM hx g1 g2 h1 h2
    | true =>
      unfold logB at hb
      rw [h1, h2, decide_eq_true (by omega)] at hb
      cases hb
end Go.Proofs.YtdfglpbappeoaaaDoor
