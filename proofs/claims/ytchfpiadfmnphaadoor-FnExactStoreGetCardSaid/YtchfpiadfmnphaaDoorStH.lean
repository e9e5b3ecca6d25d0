/- Stores in the laws' helpers: their room, turned to the program's, held against others. -/
import Derived.Test.YtchfpiadfmnphaaDoorToM
import Derived.Test.YtchfpiadfmnphaaDoorTy
namespace Go.Proofs.YtchfpiadfmnphaaDoor
open Go.RowKit
set_option linter.unusedVariables false

set_option maxRecDepth 100000 in
set_option maxHeartbeats 4000000 in
theorem szSto (a : Option Addr) (c n : Nat) (l : List ByteArray) (w : World) (hn : l.length = n) (h : SA w a l) (hm : n ≤ maxLen) (hx : ∀ x ∈ l, x.size ≤ maxLen) :
    Calls Tryd.prog 7 #[.agg #[.slice a n c], .int .i64 1048576] w fun r w' => ∃ z : Int, r = .returned (.int .i64 z) ∧ (0 ≤ z → n ≤ 1048576) ∧ Below w.heap.size w w' := by
  have hC1 : ∀ w0, (SA w0 a l) → Calls Tryd.prog 25 #[.slice a n c, .int .i64 1048576] w0 fun r w' => ∃ (q : Int), r = .returned (.int .i64 q) ∧ (0 ≤ q → n ≤ 1048576) ∧ w0 = w' := fun w0 n0 => (szS_any a c n l w0 hn n0 hm hx).mono fun r w' ⟨e1, e2⟩ => ⟨_, e1, fun g => by have := (roomL_bd g).1; omega, e2.symm⟩
  have HS0 : Hid (Sta [] w [] [⟨fun k => k < w.heap.size, fun w' => SA w' a l⟩] w) := Sta.arg (fun w' => SA w' a l) (fun w' hb => h.below hb)
  clear hn h hx hm
  go_enter Tryd.func7, Tryd.ntmps7
  go_wp2_with (first
    | ((with_reducible refine wpList_boxV (w := w) (by with_unfolding_all rfl) 24 (.tmp 0) (by with_unfolding_all rfl) [.slice a n c] (by with_unfolding_all rfl) ?_); intro w1 hA1 hB1 hS1; clear hS1; have HS1 := Sta.new HS0 hA1 hB1 (by simp); clear hA1 hB1; have cHS1_0_0 : w1.cell? ⟨w.heap.size, 0, none⟩ = some (.slice a n c) := Sta.c (i := 0) HS1 rfl rfl))
  have n2_0 : SA w1 a l := (Sta.t (i := 0) HS1 rfl :)
  refine (hC1 w1 n2_0).mono ?_
  rintro r w' ⟨q, rfl, p, rfl⟩
  have Hp := hidP p
  clear p
  clear cHS1_0_0
  by_cases hq : q < 0
  · as_aux_lemma =>
    go_wp2_with fail
    go_ret
    exact ⟨_, rfl, fun h => absurd h (by omega), Sta.fin HS1⟩
  have hq' : 0 ≤ q := by omega
  go_wp2_with fail
  go_ret
  exact ⟨_, rfl, fun h => Hp.out hq', Sta.fin HS1⟩
set_option maxRecDepth 100000 in
set_option maxHeartbeats 4000000 in
theorem toSto (a : Option Addr) (c n : Nat) (l : List ByteArray) (w : World) (hn : l.length = n) (h : SA w a l) (hb : n ≤ 1048576) :
    Calls Tryd.prog 9 #[.agg #[.slice a n c]] w fun r w' => ∃ (g : Nat), r = .returned (.agg #[.slice (some ⟨g, 0, none⟩) n n]) ∧ (w.heap.size ≤ g ∧ g < w'.heap.size) ∧ Made w w' (fun w2 => RowV w2 g (svl l)) ∧ Below w.heap.size w w' := by
  have hC1 : ∀ w0, (SA w0 a l) → Calls Tryd.prog 27 #[.slice a n c] w0 fun r w' => ∃ (g : Nat), r = .returned (.slice (some ⟨g, 0, none⟩) n n) ∧ (w0.heap.size ≤ g ∧ g < w'.heap.size) ∧ Made w0 w' (fun w2 => RowV w2 g (svl l)) ∧ Below w0.heap.size w0 w' := fun w0 n0 => toSM a c n l w0 hn n0 hb
  have HS0 : Hid (Sta [] w [] [⟨fun k => k < w.heap.size, fun w' => SA w' a l⟩] w) := Sta.arg (fun w' => SA w' a l) (fun w' hb => h.below hb)
  clear hn h hb
  go_enter Tryd.func9, Tryd.ntmps9
  go_wp2_with (first
    | ((with_reducible refine wpList_boxV (w := w) (by with_unfolding_all rfl) 24 (.tmp 0) (by with_unfolding_all rfl) [.slice a n c] (by with_unfolding_all rfl) ?_); intro w1 hA1 hB1 hS1; clear hS1; have HS1 := Sta.new HS0 hA1 hB1 (by simp); clear hA1 hB1)
    | ((with_reducible refine wpList_allocV (w := w1) (by with_unfolding_all rfl) 27 (by with_unfolding_all rfl) [.slice none 0 0] Tryd.zT_implStore ?_); intro w2 hA2 hB2 hS2; clear hS2; have HS2 := Sta.new HS1 hA2 hB2 (by simp); clear hA2 hB2)
    | ((with_reducible refine wpList_allocV (w := w2) (by with_unfolding_all rfl) 27 (by with_unfolding_all rfl) [.slice none 0 0] Tryd.zT_implStore ?_); intro w3 hA3 hB3 hS3; clear hS3; have HS3 := Sta.new HS2 hA3 hB3 (by simp); clear hA3 hB3; have cHS3_2_0 : w3.cell? ⟨w.heap.size, 0, none⟩ = some (.slice a n c) := Sta.c (i := 2) HS3 rfl rfl)
    | (go_at_call 27; have n4_0 : SA w3 a l := (Sta.t (i := 0) HS3 rfl :); (with_reducible refine (hC1 w3 n4_0).mono ?_); rintro r w4 ⟨g, rfl, q, hP4, hB4⟩; have Hq := hidP q; clear q; have HS4 := Sta.made HS3 hB4 hP4; clear hB4 hP4; clear cHS3_2_0)
    | ((with_reducible refine wpList_cellS (w := w4) (by with_unfolding_all rfl) 22 (.tmp 7) (.tmp 6) (by with_unfolding_all rfl) w2.heap.size 0 [.slice none 0 0] [.slice (some ⟨g, 0, none⟩) n n] (.slice (some ⟨g, 0, none⟩) n n) (by with_unfolding_all rfl) (by with_unfolding_all rfl) (by with_unfolding_all rfl) Tryd.s1_slstring (Sta.r (i := 0) HS4 (by with_unfolding_all rfl)) (by simp) (by with_unfolding_all rfl) ?_); intro w5 hA5 hO5; have HS5 := Sta.put 0 HS4 rfl hA5 (by simp) hO5; clear hA5 hO5)
    | ((with_reducible refine wpList_loadV (w := w5) (by with_unfolding_all rfl) 27 (.tmp 3) (by with_unfolding_all rfl) w2.heap.size [.slice (some ⟨g, 0, none⟩) n n] (by with_unfolding_all rfl) (Sta.r (i := 0) HS5 (by with_unfolding_all rfl)) Tryd.uT_implStore 1 Tryd.sT_implStore (by with_unfolding_all rfl) ?_))
    | ((with_reducible refine wpList_storeS (w := w5) (by with_unfolding_all rfl) 27 (.tmp 2) (.tmp 8) (by with_unfolding_all rfl) w1.heap.size [.slice none 0 0] [.slice (some ⟨g, 0, none⟩) n n] (by with_unfolding_all rfl) (by with_unfolding_all rfl) (Sta.r (i := 1) HS5 (by with_unfolding_all rfl)) 1 Tryd.sT_implStore (by with_unfolding_all rfl) (by with_unfolding_all rfl) (by with_unfolding_all rfl) ?_); intro w6 hA6 hO6; have HS6 := Sta.put 1 HS5 rfl hA6 (by simp) hO6; clear hA6 hO6))
  exact bodyPost_ret (results_V (t := 27) rfl _ w1.heap.size [.slice (some ⟨g, 0, none⟩) n n] rfl (Sta.r (i := 1) HS6 (by with_unfolding_all rfl)) Tryd.uT_implStore 1 Tryd.sT_implStore rfl) rfl ⟨g, rfl, ⟨Nat.le_trans (Sta.size HS3) Hq.out.1, Sta.lt (i := 0) HS6 rfl g Hq.out⟩, Sta.made_of (i := 0) HS6 rfl (fun k hk => Nat.le_trans (Sta.size HS3) hk.1), Sta.fin HS6⟩
set_option maxRecDepth 100000 in
set_option maxHeartbeats 4000000 in
theorem eqSto (a b : Option Addr) (c d : Nat) (l : List ByteArray) (w : World) (h : SA w a l) (h2 : SA w b l) (hb : l.length ≤ 1048576) :
    Calls Tryd.prog 11 #[.agg #[.slice a l.length c], .agg #[.slice b l.length d]] w fun r w' => r = .returned (.bool true) ∧ Below w.heap.size w w' := by
  have hC1 : ∀ w0, (SA w0 a l ∧ SA w0 b l) → Calls Tryd.prog 29 #[.slice a l.length c, .slice b l.length d] w0 fun r w' => r = .returned (.bool true) ∧ Below w0.heap.size w0 w' := fun w0 n0 => by have := eqS_any a b c d l l w0 n0.1 n0.2 (by omega) (by omega); rw [decide_eq_true rfl] at this; exact this
  have HS0 : Hid (Sta [] w [] [⟨fun k => k < w.heap.size, fun w' => SA w' a l ∧ SA w' b l⟩] w) := Sta.arg (fun w' => SA w' a l ∧ SA w' b l) (fun w' hb => ⟨h.below hb, h2.below hb⟩)
  clear h h2 hb
  go_enter Tryd.func11, Tryd.ntmps11
  go_wp2_with (first
    | ((with_reducible refine wpList_boxV (w := w) (by with_unfolding_all rfl) 27 (.tmp 0) (by with_unfolding_all rfl) [.slice a l.length c] (by with_unfolding_all rfl) ?_); intro w1 hA1 hB1 hS1; clear hS1; have HS1 := Sta.new HS0 hA1 hB1 (by simp); clear hA1 hB1)
    | ((with_reducible refine wpList_boxV (w := w1) (by with_unfolding_all rfl) 27 (.tmp 1) (by with_unfolding_all rfl) [.slice b l.length d] (by with_unfolding_all rfl) ?_); intro w2 hA2 hB2 hS2; clear hS2; have HS2 := Sta.new HS1 hA2 hB2 (by simp); clear hA2 hB2; have cHS2_1_0 : w2.cell? ⟨w.heap.size, 0, none⟩ = some (.slice a l.length c) := Sta.c (i := 1) HS2 rfl rfl; have cHS2_0_0 : w2.cell? ⟨w1.heap.size, 0, none⟩ = some (.slice b l.length d) := Sta.c (i := 0) HS2 rfl rfl)
    | (go_at_call 29; have n3_0 : SA w2 a l ∧ SA w2 b l := (Sta.t (i := 0) HS2 rfl :); (with_reducible refine (hC1 w2 n3_0).mono ?_); rintro r w3 ⟨rfl, hB3⟩; have HS3 := Sta.call HS2 hB3; clear hB3; clear cHS2_1_0 cHS2_0_0))
  go_ret
  exact ⟨rfl, Sta.fin HS3⟩
end Go.Proofs.YtchfpiadfmnphaaDoor
