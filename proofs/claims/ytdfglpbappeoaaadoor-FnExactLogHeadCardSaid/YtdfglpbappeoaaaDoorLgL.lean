/- The law FnExactLogHead, walked. -/
import Derived.Test.YtdfglpbappeoaaaDoorLgH
import Derived.Test.YtdfglpbappeoaaaDoorToM
import Derived.Test.YtdfglpbappeoaaaDoorLaid
import Derived.Deep.RegionHeld3
namespace Go.Proofs.YtdfglpbappeoaaaDoor
open Go.RowKit
set_option linter.unusedVariables false

set_option maxRecDepth 100000 in
set_option maxHeartbeats 2000000 in
theorem lawLogHead_yes (a : Option Addr) (c n : Nat) (l : List ByteArray) (t : Int) (w : World) (hn : l.length = n) (h : SA w a l) (hM : n ≤ maxLen) (hx : ∀ x ∈ l, x.size ≤ maxLen) (hk : ArrU w 0 keys) (h0 : 0 < w.heap.size) (hr : 0 ≤ roomL l) (hb : logB l t = true) :
    Calls Tryd.prog 3 #[.slice a n c, .int .i64 t] w fun r w' => r = .returned (.bool true) ∧ Below w.heap.size w w' := by
  have hbd := (roomL_bd hr).1
  have hC1 : ∀ w0, (SA w0 a l ∧ ArrU w0 0 keys ∧ 0 < w0.heap.size) → Calls Tryd.prog 6 #[.slice a n c, .int .i64 1048576] w0 fun r w' => r = .returned (.int .i64 (roomL l)) ∧ w0 = w' := fun w0 n0 => (szS_any a c n l w0 hn n0.1 hM hx).mono fun _ _ h => ⟨h.1, h.2.symm⟩
  have hC2 : ∀ w0, (SA w0 a l ∧ ArrU w0 0 keys ∧ 0 < w0.heap.size) → Calls Tryd.prog 8 #[.slice a n c] w0 fun r w' => ∃ (g_s : Nat), r = .returned (.slice (some ⟨g_s, 0, none⟩) n n) ∧ (w0.heap.size ≤ g_s ∧ g_s < w'.heap.size) ∧ Made w0 w' (fun w2 => RowV w2 g_s (svl l)) ∧ Below w0.heap.size w0 w' := fun w0 n0 => toSM a c n l w0 hn n0.1 (by omega)
  have hC3 : ∀ w0 (g_s : Nat), (RowV w0 g_s (svl l)) → Calls Tryd.prog 7 #[.slice (some ⟨g_s, 0, none⟩) n n, .int .i64 t] w0 fun r w' => r = .returned (.agg #[.int .i64 (n : Int), .string (rtT l), .int .i64 t]) ∧ Below w0.heap.size w0 w' := fun w0 g_s n0 => specLogHead_yes (some ⟨g_s, 0, none⟩) n n l t w0 hn (Nat.le_refl _) n0.sa (by omega) (by omega) hx hb
  have hC4 : ∀ w0, (SA w0 a l ∧ ArrU w0 0 keys ∧ 0 < w0.heap.size) → Calls Tryd.prog 8 #[.slice a n c] w0 fun r w' => ∃ (g_x : Nat), r = .returned (.slice (some ⟨g_x, 0, none⟩) n n) ∧ (w0.heap.size ≤ g_x ∧ g_x < w'.heap.size) ∧ Made w0 w' (fun w2 => RowV w2 g_x (svl l)) ∧ Below w0.heap.size w0 w' := fun w0 n0 => toSM a c n l w0 hn n0.1 (by omega)
  have hC5 : ∀ w0 (g_x : Nat), (RowV w0 g_x (svl l)) → (SA w0 a l ∧ ArrU w0 0 keys ∧ 0 < w0.heap.size) → Calls Tryd.prog 9 #[.slice (some ⟨g_x, 0, none⟩) n n, .int .i64 t] w0 fun r w' => r = .returned (.agg #[.int .i64 (n : Int), .string (rtT l), .int .i64 t]) ∧ Below w0.heap.size w0 w' := fun w0 g_x n0 n1 => implLogHead_yes (some ⟨g_x, 0, none⟩) n n l t w0 hn (Nat.le_refl _) n0.sa (by omega) (by omega) hx n1.2.1 n1.2.2 hb
  have hC6 : ∀ w0, Calls Tryd.prog 10 #[.agg #[.int .i64 (n : Int), .string (rtT l), .int .i64 t], .agg #[.int .i64 (n : Int), .string (rtT l), .int .i64 t]] w0 fun r w' => r = .returned (.bool true) ∧ Below w0.heap.size w0 w' := fun w0 => eqHd_any (n : Int) t (rtT l) w0
  have hC7 : ∀ w0, (SA w0 a l ∧ ArrU w0 0 keys ∧ 0 < w0.heap.size) → Calls Tryd.prog 8 #[.slice a n c] w0 fun r w' => ∃ (g_y : Nat), r = .returned (.slice (some ⟨g_y, 0, none⟩) n n) ∧ (w0.heap.size ≤ g_y ∧ g_y < w'.heap.size) ∧ Made w0 w' (fun w2 => RowV w2 g_y (svl l)) ∧ Below w0.heap.size w0 w' := fun w0 n0 => toSM a c n l w0 hn n0.1 (by omega)
  have hC8 : ∀ w0 (g_x : Nat) (g_y : Nat), (RowV w0 g_x (svl l)) → (RowV w0 g_y (svl l)) → Calls Tryd.prog 11 #[.slice (some ⟨g_x, 0, none⟩) n n, .slice (some ⟨g_y, 0, none⟩) n n] w0 fun r w' => r = .returned (.bool true) ∧ Below w0.heap.size w0 w' := fun w0 g_x g_y n0 n1 => by have := eqS_any (some ⟨g_x, 0, none⟩) (some ⟨g_y, 0, none⟩) n n l l w0 n0.sa n1.sa (by omega) (by omega); rw [hn, decide_eq_true rfl] at this; exact this
  generalize roomL l = q at *
  have dq : decide (q < 0) = false := decide_eq_false (by omega)
  generalize rtT l = T at *
  have HS0 : Hid (Sta [] w [] [⟨fun k => k < w.heap.size, fun w' => SA w' a l ∧ ArrU w' 0 keys ∧ 0 < w'.heap.size⟩] w) := Sta.arg (fun w' => SA w' a l ∧ ArrU w' 0 keys ∧ 0 < w'.heap.size) (fun w' hb => ⟨h.below hb, hk.below hb h0, Nat.lt_of_lt_of_le h0 hb.size⟩)
  clear hn h hM hx hk h0 hb hr
  go_enter Tryd.func3, Tryd.ntmps3
  go_wp2_with (first
    | (go_at_call 6; have n1_0 : SA w a l ∧ ArrU w 0 keys ∧ 0 < w.heap.size := (Sta.t (i := 0) HS0 rfl :); (with_reducible refine (hC1 w n1_0).mono ?_); rintro r w' ⟨rfl, rfl⟩)
    | (go_at_call 8; have n2_0 : SA w a l ∧ ArrU w 0 keys ∧ 0 < w.heap.size := (Sta.t (i := 0) HS0 rfl :); (with_reducible refine (hC2 w n2_0).mono ?_); rintro r w2 ⟨g_s, rfl, q_s, hP2, hB2⟩; have Hq_s := hidP q_s; clear q_s; have HS2 := Sta.made HS0 hB2 hP2; clear hB2 hP2)
    | (go_at_call 7; have n3_0 : RowV w2 g_s (svl l) := (Sta.t (i := 0) HS2 rfl :); (with_reducible refine (hC3 w2 g_s n3_0).mono ?_); rintro r w3 ⟨rfl, hB3⟩; have HS3 := Sta.call HS2 hB3; clear hB3)
    | ((with_reducible refine wpList_allocV (w := w3) (by with_unfolding_all rfl) 25 (by with_unfolding_all rfl) [.int .i64 0, .string ⟨#[]⟩, .int .i64 0] Tryd.zT_implHead ?_); intro w4 hA4 hB4 hS4; clear hS4; have HS4 := Sta.new HS3 hA4 hB4 (by simp); clear hA4 hB4)
    | ((with_reducible refine wpList_storeS (w := w4) (by with_unfolding_all rfl) 25 (.tmp 6) (.tmp 17) (by with_unfolding_all rfl) w3.heap.size [.int .i64 0, .string ⟨#[]⟩, .int .i64 0] [.int .i64 (n : Int), .string T, .int .i64 t] (by with_unfolding_all rfl) (by with_unfolding_all rfl) (Sta.r (i := 0) HS4 (by with_unfolding_all rfl)) 3 Tryd.sT_implHead (by with_unfolding_all rfl) (by with_unfolding_all rfl) (by with_unfolding_all rfl) ?_); intro w5 hA5 hO5; have HS5 := Sta.put 0 HS4 rfl hA5 (by simp) hO5; clear hA5 hO5)
    | (go_at_call 8; have n6_0 : SA w5 a l ∧ ArrU w5 0 keys ∧ 0 < w5.heap.size := (Sta.t (i := 1) HS5 rfl :); (with_reducible refine (hC4 w5 n6_0).mono ?_); rintro r w6 ⟨g_x, rfl, q_x, hP6, hB6⟩; have Hq_x := hidP q_x; clear q_x; have HS6 := Sta.made HS5 hB6 hP6; clear hB6 hP6)
    | (go_at_call 9; have n7_0 : RowV w6 g_x (svl l) := (Sta.t (i := 0) HS6 rfl :); have n7_1 : SA w6 a l ∧ ArrU w6 0 keys ∧ 0 < w6.heap.size := (Sta.t (i := 2) HS6 rfl :); (with_reducible refine (hC5 w6 g_x n7_0 n7_1).mono ?_); rintro r w7 ⟨rfl, hB7⟩; have HS7 := Sta.call HS6 hB7; clear hB7)
    | ((with_reducible refine wpList_allocV (w := w7) (by with_unfolding_all rfl) 25 (by with_unfolding_all rfl) [.int .i64 0, .string ⟨#[]⟩, .int .i64 0] Tryd.zT_implHead ?_); intro w8 hA8 hB8 hS8; clear hS8; have HS8 := Sta.new HS7 hA8 hB8 (by simp); clear hA8 hB8)
    | ((with_reducible refine wpList_storeS (w := w8) (by with_unfolding_all rfl) 25 (.tmp 8) (.tmp 22) (by with_unfolding_all rfl) w7.heap.size [.int .i64 0, .string ⟨#[]⟩, .int .i64 0] [.int .i64 (n : Int), .string T, .int .i64 t] (by with_unfolding_all rfl) (by with_unfolding_all rfl) (Sta.r (i := 0) HS8 (by with_unfolding_all rfl)) 3 Tryd.sT_implHead (by with_unfolding_all rfl) (by with_unfolding_all rfl) (by with_unfolding_all rfl) ?_); intro w9 hA9 hO9; have HS9 := Sta.put 0 HS8 rfl hA9 (by simp) hO9; clear hA9 hO9)
    | ((with_reducible refine wpList_loadV (w := w9) (by with_unfolding_all rfl) 25 (.tmp 8) (by with_unfolding_all rfl) w7.heap.size [.int .i64 (n : Int), .string T, .int .i64 t] (by with_unfolding_all rfl) (Sta.r (i := 0) HS9 (by with_unfolding_all rfl)) Tryd.uT_implHead 3 Tryd.sT_implHead (by with_unfolding_all rfl) ?_))
    | ((with_reducible refine wpList_loadV (w := w9) (by with_unfolding_all rfl) 25 (.tmp 6) (by with_unfolding_all rfl) w3.heap.size [.int .i64 (n : Int), .string T, .int .i64 t] (by with_unfolding_all rfl) (Sta.r (i := 1) HS9 (by with_unfolding_all rfl)) Tryd.uT_implHead 3 Tryd.sT_implHead (by with_unfolding_all rfl) ?_))
    | (go_at_call 10; (with_reducible refine (hC6 w9).mono ?_); rintro r w10 ⟨rfl, hB10⟩; have HS10 := Sta.call HS9 hB10; clear hB10)
    | (go_at_call 8; have n11_0 : SA w10 a l ∧ ArrU w10 0 keys ∧ 0 < w10.heap.size := (Sta.t (i := 2) HS10 rfl :); (with_reducible refine (hC7 w10 n11_0).mono ?_); rintro r w11 ⟨g_y, rfl, q_y, hP11, hB11⟩; have Hq_y := hidP q_y; clear q_y; have HS11 := Sta.made HS10 hB11 hP11; clear hB11 hP11)
    | (go_at_call 11; have n12_0 : RowV w11 g_x (svl l) := (Sta.t (i := 1) HS11 rfl :); have n12_1 : RowV w11 g_y (svl l) := (Sta.t (i := 0) HS11 rfl :); (with_reducible refine (hC8 w11 g_x g_y n12_0 n12_1).mono ?_); rintro r w12 ⟨rfl, hB12⟩; have HS12 := Sta.call HS11 hB12; clear hB12))
  go_ret
  exact ⟨rfl, Sta.fin HS12⟩
set_option maxRecDepth 100000 in
set_option maxHeartbeats 2000000 in
theorem lawLogHead_no (a : Option Addr) (c n : Nat) (l : List ByteArray) (t : Int) (w : World) (hn : l.length = n) (h : SA w a l) (hM : n ≤ maxLen) (hx : ∀ x ∈ l, x.size ≤ maxLen) (hk : ArrU w 0 keys) (h0 : 0 < w.heap.size) (hr : 0 ≤ roomL l) (hb : logB l t = false) :
    Calls Tryd.prog 3 #[.slice a n c, .int .i64 t] w fun r w' => r = .returned (.bool true) ∧ Below w.heap.size w w' := by
  have hbd := (roomL_bd hr).1
  have hC1 : ∀ w0, (SA w0 a l ∧ ArrU w0 0 keys ∧ 0 < w0.heap.size) → Calls Tryd.prog 6 #[.slice a n c, .int .i64 1048576] w0 fun r w' => r = .returned (.int .i64 (roomL l)) ∧ w0 = w' := fun w0 n0 => (szS_any a c n l w0 hn n0.1 hM hx).mono fun _ _ h => ⟨h.1, h.2.symm⟩
  have hC2 : ∀ w0, (SA w0 a l ∧ ArrU w0 0 keys ∧ 0 < w0.heap.size) → Calls Tryd.prog 8 #[.slice a n c] w0 fun r w' => ∃ (g_s : Nat), r = .returned (.slice (some ⟨g_s, 0, none⟩) n n) ∧ (w0.heap.size ≤ g_s ∧ g_s < w'.heap.size) ∧ Made w0 w' (fun w2 => RowV w2 g_s (svl l)) ∧ Below w0.heap.size w0 w' := fun w0 n0 => toSM a c n l w0 hn n0.1 (by omega)
  have hC3 : ∀ w0 (g_s : Nat), (RowV w0 g_s (svl l)) → Calls Tryd.prog 7 #[.slice (some ⟨g_s, 0, none⟩) n n, .int .i64 t] w0 fun r w' => r = .returned (.agg #[.int .i64 0, .string ⟨#[]⟩, .int .i64 0]) ∧ Below w0.heap.size w0 w' := fun w0 g_s n0 => specLogHead_no (some ⟨g_s, 0, none⟩) n n l t w0 hn (Nat.le_refl _) n0.sa (by omega) (by omega) hx hb
  have hC4 : ∀ w0, (SA w0 a l ∧ ArrU w0 0 keys ∧ 0 < w0.heap.size) → Calls Tryd.prog 8 #[.slice a n c] w0 fun r w' => ∃ (g_x : Nat), r = .returned (.slice (some ⟨g_x, 0, none⟩) n n) ∧ (w0.heap.size ≤ g_x ∧ g_x < w'.heap.size) ∧ Made w0 w' (fun w2 => RowV w2 g_x (svl l)) ∧ Below w0.heap.size w0 w' := fun w0 n0 => toSM a c n l w0 hn n0.1 (by omega)
  have hC5 : ∀ w0 (g_x : Nat), (RowV w0 g_x (svl l)) → (SA w0 a l ∧ ArrU w0 0 keys ∧ 0 < w0.heap.size) → Calls Tryd.prog 9 #[.slice (some ⟨g_x, 0, none⟩) n n, .int .i64 t] w0 fun r w' => r = .returned (.agg #[.int .i64 0, .string ⟨#[]⟩, .int .i64 0]) ∧ Below w0.heap.size w0 w' := fun w0 g_x n0 n1 => implLogHead_no (some ⟨g_x, 0, none⟩) n n l t w0 hn (Nat.le_refl _) n0.sa (by omega) (by omega) hx n1.2.1 n1.2.2 hb
  have hC6 : ∀ w0, Calls Tryd.prog 10 #[.agg #[.int .i64 0, .string ⟨#[]⟩, .int .i64 0], .agg #[.int .i64 0, .string ⟨#[]⟩, .int .i64 0]] w0 fun r w' => r = .returned (.bool true) ∧ Below w0.heap.size w0 w' := fun w0 => eqHd_any 0 0 ⟨#[]⟩ w0
  have hC7 : ∀ w0, (SA w0 a l ∧ ArrU w0 0 keys ∧ 0 < w0.heap.size) → Calls Tryd.prog 8 #[.slice a n c] w0 fun r w' => ∃ (g_y : Nat), r = .returned (.slice (some ⟨g_y, 0, none⟩) n n) ∧ (w0.heap.size ≤ g_y ∧ g_y < w'.heap.size) ∧ Made w0 w' (fun w2 => RowV w2 g_y (svl l)) ∧ Below w0.heap.size w0 w' := fun w0 n0 => toSM a c n l w0 hn n0.1 (by omega)
  have hC8 : ∀ w0 (g_x : Nat) (g_y : Nat), (RowV w0 g_x (svl l)) → (RowV w0 g_y (svl l)) → Calls Tryd.prog 11 #[.slice (some ⟨g_x, 0, none⟩) n n, .slice (some ⟨g_y, 0, none⟩) n n] w0 fun r w' => r = .returned (.bool true) ∧ Below w0.heap.size w0 w' := fun w0 g_x g_y n0 n1 => by have := eqS_any (some ⟨g_x, 0, none⟩) (some ⟨g_y, 0, none⟩) n n l l w0 n0.sa n1.sa (by omega) (by omega); rw [hn, decide_eq_true rfl] at this; exact this
  generalize roomL l = q at *
  have dq : decide (q < 0) = false := decide_eq_false (by omega)
  have HS0 : Hid (Sta [] w [] [⟨fun k => k < w.heap.size, fun w' => SA w' a l ∧ ArrU w' 0 keys ∧ 0 < w'.heap.size⟩] w) := Sta.arg (fun w' => SA w' a l ∧ ArrU w' 0 keys ∧ 0 < w'.heap.size) (fun w' hb => ⟨h.below hb, hk.below hb h0, Nat.lt_of_lt_of_le h0 hb.size⟩)
  clear hn h hM hx hk h0 hb hr
  go_enter Tryd.func3, Tryd.ntmps3
  go_wp2_with (first
    | (go_at_call 6; have n1_0 : SA w a l ∧ ArrU w 0 keys ∧ 0 < w.heap.size := (Sta.t (i := 0) HS0 rfl :); (with_reducible refine (hC1 w n1_0).mono ?_); rintro r w' ⟨rfl, rfl⟩)
    | (go_at_call 8; have n2_0 : SA w a l ∧ ArrU w 0 keys ∧ 0 < w.heap.size := (Sta.t (i := 0) HS0 rfl :); (with_reducible refine (hC2 w n2_0).mono ?_); rintro r w2 ⟨g_s, rfl, q_s, hP2, hB2⟩; have Hq_s := hidP q_s; clear q_s; have HS2 := Sta.made HS0 hB2 hP2; clear hB2 hP2)
    | (go_at_call 7; have n3_0 : RowV w2 g_s (svl l) := (Sta.t (i := 0) HS2 rfl :); (with_reducible refine (hC3 w2 g_s n3_0).mono ?_); rintro r w3 ⟨rfl, hB3⟩; have HS3 := Sta.call HS2 hB3; clear hB3)
    | ((with_reducible refine wpList_allocV (w := w3) (by with_unfolding_all rfl) 25 (by with_unfolding_all rfl) [.int .i64 0, .string ⟨#[]⟩, .int .i64 0] Tryd.zT_implHead ?_); intro w4 hA4 hB4 hS4; clear hS4; have HS4 := Sta.new HS3 hA4 hB4 (by simp); clear hA4 hB4)
    | ((with_reducible refine wpList_storeS (w := w4) (by with_unfolding_all rfl) 25 (.tmp 6) (.tmp 17) (by with_unfolding_all rfl) w3.heap.size [.int .i64 0, .string ⟨#[]⟩, .int .i64 0] [.int .i64 0, .string ⟨#[]⟩, .int .i64 0] (by with_unfolding_all rfl) (by with_unfolding_all rfl) (Sta.r (i := 0) HS4 (by with_unfolding_all rfl)) 3 Tryd.sT_implHead (by with_unfolding_all rfl) (by with_unfolding_all rfl) (by with_unfolding_all rfl) ?_); intro w5 hA5 hO5; have HS5 := Sta.put 0 HS4 rfl hA5 (by simp) hO5; clear hA5 hO5)
    | (go_at_call 8; have n6_0 : SA w5 a l ∧ ArrU w5 0 keys ∧ 0 < w5.heap.size := (Sta.t (i := 1) HS5 rfl :); (with_reducible refine (hC4 w5 n6_0).mono ?_); rintro r w6 ⟨g_x, rfl, q_x, hP6, hB6⟩; have Hq_x := hidP q_x; clear q_x; have HS6 := Sta.made HS5 hB6 hP6; clear hB6 hP6)
    | (go_at_call 9; have n7_0 : RowV w6 g_x (svl l) := (Sta.t (i := 0) HS6 rfl :); have n7_1 : SA w6 a l ∧ ArrU w6 0 keys ∧ 0 < w6.heap.size := (Sta.t (i := 2) HS6 rfl :); (with_reducible refine (hC5 w6 g_x n7_0 n7_1).mono ?_); rintro r w7 ⟨rfl, hB7⟩; have HS7 := Sta.call HS6 hB7; clear hB7)
    | ((with_reducible refine wpList_allocV (w := w7) (by with_unfolding_all rfl) 25 (by with_unfolding_all rfl) [.int .i64 0, .string ⟨#[]⟩, .int .i64 0] Tryd.zT_implHead ?_); intro w8 hA8 hB8 hS8; clear hS8; have HS8 := Sta.new HS7 hA8 hB8 (by simp); clear hA8 hB8)
    | ((with_reducible refine wpList_storeS (w := w8) (by with_unfolding_all rfl) 25 (.tmp 8) (.tmp 22) (by with_unfolding_all rfl) w7.heap.size [.int .i64 0, .string ⟨#[]⟩, .int .i64 0] [.int .i64 0, .string ⟨#[]⟩, .int .i64 0] (by with_unfolding_all rfl) (by with_unfolding_all rfl) (Sta.r (i := 0) HS8 (by with_unfolding_all rfl)) 3 Tryd.sT_implHead (by with_unfolding_all rfl) (by with_unfolding_all rfl) (by with_unfolding_all rfl) ?_); intro w9 hA9 hO9; have HS9 := Sta.put 0 HS8 rfl hA9 (by simp) hO9; clear hA9 hO9)
    | ((with_reducible refine wpList_loadV (w := w9) (by with_unfolding_all rfl) 25 (.tmp 8) (by with_unfolding_all rfl) w7.heap.size [.int .i64 0, .string ⟨#[]⟩, .int .i64 0] (by with_unfolding_all rfl) (Sta.r (i := 0) HS9 (by with_unfolding_all rfl)) Tryd.uT_implHead 3 Tryd.sT_implHead (by with_unfolding_all rfl) ?_))
    | ((with_reducible refine wpList_loadV (w := w9) (by with_unfolding_all rfl) 25 (.tmp 6) (by with_unfolding_all rfl) w3.heap.size [.int .i64 0, .string ⟨#[]⟩, .int .i64 0] (by with_unfolding_all rfl) (Sta.r (i := 1) HS9 (by with_unfolding_all rfl)) Tryd.uT_implHead 3 Tryd.sT_implHead (by with_unfolding_all rfl) ?_))
    | (go_at_call 10; (with_reducible refine (hC6 w9).mono ?_); rintro r w10 ⟨rfl, hB10⟩; have HS10 := Sta.call HS9 hB10; clear hB10)
    | (go_at_call 8; have n11_0 : SA w10 a l ∧ ArrU w10 0 keys ∧ 0 < w10.heap.size := (Sta.t (i := 2) HS10 rfl :); (with_reducible refine (hC7 w10 n11_0).mono ?_); rintro r w11 ⟨g_y, rfl, q_y, hP11, hB11⟩; have Hq_y := hidP q_y; clear q_y; have HS11 := Sta.made HS10 hB11 hP11; clear hB11 hP11)
    | (go_at_call 11; have n12_0 : RowV w11 g_x (svl l) := (Sta.t (i := 1) HS11 rfl :); have n12_1 : RowV w11 g_y (svl l) := (Sta.t (i := 0) HS11 rfl :); (with_reducible refine (hC8 w11 g_x g_y n12_0 n12_1).mono ?_); rintro r w12 ⟨rfl, hB12⟩; have HS12 := Sta.call HS11 hB12; clear hB12))
  go_ret
  exact ⟨rfl, Sta.fin HS12⟩
set_option maxRecDepth 100000 in
set_option maxHeartbeats 2000000 in
theorem lawLogHead_big (a : Option Addr) (c n : Nat) (l : List ByteArray) (t : Int) (w : World) (hn : l.length = n) (h : SA w a l) (hM : n ≤ maxLen) (hx : ∀ x ∈ l, x.size ≤ maxLen) (hk : ArrU w 0 keys) (h0 : 0 < w.heap.size) (hr : roomL l < 0) :
    Calls Tryd.prog 3 #[.slice a n c, .int .i64 t] w fun r w' => r = .returned (.bool true) ∧ Below w.heap.size w w' := by
  have hC1 : ∀ w0, (SA w0 a l ∧ ArrU w0 0 keys ∧ 0 < w0.heap.size) → Calls Tryd.prog 6 #[.slice a n c, .int .i64 1048576] w0 fun r w' => r = .returned (.int .i64 (roomL l)) ∧ w0 = w' := fun w0 n0 => (szS_any a c n l w0 hn n0.1 hM hx).mono fun _ _ h => ⟨h.1, h.2.symm⟩
  generalize roomL l = q at *
  have HS0 : Hid (Sta [] w [] [⟨fun k => k < w.heap.size, fun w' => SA w' a l ∧ ArrU w' 0 keys ∧ 0 < w'.heap.size⟩] w) := Sta.arg (fun w' => SA w' a l ∧ ArrU w' 0 keys ∧ 0 < w'.heap.size) (fun w' hb => ⟨h.below hb, hk.below hb h0, Nat.lt_of_lt_of_le h0 hb.size⟩)
  clear hn h hM hx hk h0
  go_enter Tryd.func3, Tryd.ntmps3
  go_wp2_with (first
    | (go_at_call 6; have n1_0 : SA w a l ∧ ArrU w 0 keys ∧ 0 < w.heap.size := (Sta.t (i := 0) HS0 rfl :); (with_reducible refine (hC1 w n1_0).mono ?_); rintro r w' ⟨rfl, rfl⟩))
  go_ret
  exact ⟨rfl, Sta.fin HS0⟩
theorem lawLogHead (a : Option Addr) (c n : Nat) (l : List ByteArray) (t : Int) (w : World) (hn : l.length = n) (h : SA w a l) (hM : n ≤ maxLen) (hx : ∀ x ∈ l, x.size ≤ maxLen) (hk : ArrU w 0 keys) (h0 : 0 < w.heap.size) :
    Calls Tryd.prog 3 #[.slice a n c, .int .i64 t] w fun r w' => r = .returned (.bool true) ∧ Below w.heap.size w w' := by
  by_cases hr : 0 ≤ roomL l
  · cases hb : logB l t with
    | false => exact lawLogHead_no a c n l t w hn h hM hx hk h0 hr hb
    | true => exact lawLogHead_yes a c n l t w hn h hM hx hk h0 hr hb
  · exact lawLogHead_big a c n l t w hn h hM hx hk h0 (by omega)
end Go.Proofs.YtdfglpbappeoaaaDoor
