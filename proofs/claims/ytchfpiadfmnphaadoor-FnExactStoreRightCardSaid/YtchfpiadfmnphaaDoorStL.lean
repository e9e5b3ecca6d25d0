/- The law FnExactStoreRight, walked. -/
import Derived.Test.YtchfpiadfmnphaaDoorStR
import Derived.Test.YtchfpiadfmnphaaDoorStS
import Derived.Test.YtchfpiadfmnphaaDoorStH
import Derived.Deep.RegionHeld3
namespace Go.Proofs.YtchfpiadfmnphaaDoor
open Go.RowKit
set_option linter.unusedVariables false

set_option maxRecDepth 100000 in
set_option maxHeartbeats 8000000 in
theorem lawStR (a : Option Addr) (c n : Nat) (l : List ByteArray) (w : World) (hn : l.length = n) (h : SA w a l) (hm : n ≤ maxLen) (hx : ∀ x ∈ l, x.size ≤ maxLen) (hk : ArrU w 0 keys) (h0 : 0 < w.heap.size) :
    Calls Tryd.prog 3 #[.agg #[.slice a n c]] w fun r w' => r = .returned (.bool true) ∧ Below w.heap.size w w' := by
  have hbb : ∀ b : Bool, (b != b) = false := fun b => by simp
  have hC1 : ∀ w0, (SA w0 a l ∧ ArrU w0 0 keys ∧ 0 < w0.heap.size) → Calls Tryd.prog 7 #[.agg #[.slice a n c], .int .i64 1048576] w0 fun r w' => ∃ (z : Int), r = .returned (.int .i64 z) ∧ (0 ≤ z → n ≤ 1048576) ∧ Below w0.heap.size w0 w' := fun w0 n0 => (szSto a c n l w0 hn n0.1 hm hx)
  have hC2 : ∀ w0 (z : Int), (SA w0 a l ∧ ArrU w0 0 keys ∧ 0 < w0.heap.size) → (0 ≤ z) → (0 ≤ z → n ≤ 1048576) → Calls Tryd.prog 9 #[.agg #[.slice a n c]] w0 fun r w' => ∃ (g0 : Nat), r = .returned (.agg #[.slice (some ⟨g0, 0, none⟩) n n]) ∧ Made w0 w' (fun w2 => RowV w2 g0 (svl l)) ∧ Below w0.heap.size w0 w' := fun w0 z n0 n1 n2 => toSto a c n l w0 hn n0.1 (n2 n1)
  have hC3 : ∀ w0 (g0 : Nat), (RowV w0 g0 (svl l)) → Calls Tryd.prog 8 #[.agg #[.slice (some ⟨g0, 0, none⟩) n n]] w0 fun r w' => r = .returned (.bool (boolP (StOk l))) ∧ Below w0.heap.size w0 w' := fun w0 g0 n0 => specStRight (some ⟨g0, 0, none⟩) n n l w0 hn n0.sa hm hx
  have hC4 : ∀ w0 (z : Int), (SA w0 a l ∧ ArrU w0 0 keys ∧ 0 < w0.heap.size) → (0 ≤ z) → (0 ≤ z → n ≤ 1048576) → Calls Tryd.prog 9 #[.agg #[.slice a n c]] w0 fun r w' => ∃ (g1 : Nat), r = .returned (.agg #[.slice (some ⟨g1, 0, none⟩) n n]) ∧ Made w0 w' (fun w2 => RowV w2 g1 (svl l)) ∧ Below w0.heap.size w0 w' := fun w0 z n0 n1 n2 => toSto a c n l w0 hn n0.1 (n2 n1)
  have hC5 : ∀ w0 (g1 : Nat), (RowV w0 g1 (svl l)) → (SA w0 a l ∧ ArrU w0 0 keys ∧ 0 < w0.heap.size) → Calls Tryd.prog 10 #[.agg #[.slice (some ⟨g1, 0, none⟩) n n]] w0 fun r w' => r = .returned (.bool (boolP (StOk l))) ∧ Below w0.heap.size w0 w' := fun w0 g1 n0 n1 => implStRight (some ⟨g1, 0, none⟩) n n l w0 hn n0.sa hm hx n1.2.1 n1.2.2
  have hC6 : ∀ w0 (z : Int), (SA w0 a l ∧ ArrU w0 0 keys ∧ 0 < w0.heap.size) → (0 ≤ z) → (0 ≤ z → n ≤ 1048576) → Calls Tryd.prog 9 #[.agg #[.slice a n c]] w0 fun r w' => ∃ (g2 : Nat), r = .returned (.agg #[.slice (some ⟨g2, 0, none⟩) n n]) ∧ Made w0 w' (fun w2 => RowV w2 g2 (svl l)) ∧ Below w0.heap.size w0 w' := fun w0 z n0 n1 n2 => toSto a c n l w0 hn n0.1 (n2 n1)
  have hC7 : ∀ w0 (z : Int) (g1 : Nat) (g2 : Nat), (RowV w0 g1 (svl l)) → (RowV w0 g2 (svl l)) → (0 ≤ z) → (0 ≤ z → n ≤ 1048576) → Calls Tryd.prog 11 #[.agg #[.slice (some ⟨g1, 0, none⟩) n n], .agg #[.slice (some ⟨g2, 0, none⟩) n n]] w0 fun r w' => r = .returned (.bool true) ∧ Below w0.heap.size w0 w' := fun w0 z g1 g2 n0 n1 n2 n3 => by have := eqSto (some ⟨g1, 0, none⟩) (some ⟨g2, 0, none⟩) n n l w0 n0.sa n1.sa (by have := n3 n2; omega); rw [hn] at this; exact this
  have HS0 : Hid (Sta [] w [] [⟨fun k => k < w.heap.size, fun w' => SA w' a l ∧ ArrU w' 0 keys ∧ 0 < w'.heap.size⟩] w) := Sta.arg (fun w' => SA w' a l ∧ ArrU w' 0 keys ∧ 0 < w'.heap.size) (fun w' hb => ⟨h.below hb, hk.below hb h0, Nat.lt_of_lt_of_le h0 hb.size⟩)
  clear hn h hx hk h0
  go_enter Tryd.func3, Tryd.ntmps3
  go_wp2_with (first
    | ((with_reducible refine wpList_boxV (w := w) (by with_unfolding_all rfl) 24 (.tmp 0) (by with_unfolding_all rfl) [.slice a n c] (by with_unfolding_all rfl) ?_); intro w1 hA1 hB1 hS1; clear hS1; have HS1 := Sta.new HS0 hA1 hB1 (by simp); clear hA1 hB1)
    | ((with_reducible refine wpList_loadV (w := w1) (by with_unfolding_all rfl) 24 (.tmp 1) (by with_unfolding_all rfl) w.heap.size [.slice a n c] (by with_unfolding_all rfl) (Sta.r (i := 0) HS1 (by with_unfolding_all rfl)) Tryd.uT_lawsStore 1 Tryd.sT_lawsStore (by with_unfolding_all rfl) ?_)))
  have n2_0 : SA w1 a l ∧ ArrU w1 0 keys ∧ 0 < w1.heap.size := (Sta.t (i := 0) HS1 rfl :)
  refine (hC1 w1 n2_0).mono ?_
  rintro r w2 ⟨z, rfl, p, hB2⟩
  have Hp := hidP p
  clear p
  have HS2 := Sta.call HS1 hB2
  clear hB2
  by_cases hz : z < 0
  · as_aux_lemma =>
    go_wp2_with fail
    go_ret
    exact ⟨rfl, Sta.fin HS2⟩
  have hz' : 0 ≤ z := by omega
  go_wp2_with (first
    | ((with_reducible refine wpList_loadV (w := w2) (by with_unfolding_all rfl) 24 (.tmp 1) (by with_unfolding_all rfl) w.heap.size [.slice a n c] (by with_unfolding_all rfl) (Sta.r (i := 0) HS2 (by with_unfolding_all rfl)) Tryd.uT_lawsStore 1 Tryd.sT_lawsStore (by with_unfolding_all rfl) ?_))
    | (go_at_call 9; have n3_0 : SA w2 a l ∧ ArrU w2 0 keys ∧ 0 < w2.heap.size := (Sta.t (i := 0) HS2 rfl :); (with_reducible refine (hC2 w2 z n3_0 hz' Hp.out).mono ?_); rintro r w3 ⟨g0, rfl, hP3, hB3⟩; have HS3 := Sta.made HS2 hB3 hP3; clear hB3 hP3)
    | (go_at_call 8; have n4_0 : RowV w3 g0 (svl l) := (Sta.t (i := 0) HS3 rfl :); (with_reducible refine (hC3 w3 g0 n4_0).mono ?_); rintro r w4 ⟨rfl, hB4⟩; have HS4 := Sta.call HS3 hB4; clear hB4)
    | ((with_reducible refine wpList_loadV (w := w4) (by with_unfolding_all rfl) 24 (.tmp 1) (by with_unfolding_all rfl) w.heap.size [.slice a n c] (by with_unfolding_all rfl) (Sta.r (i := 0) HS4 (by with_unfolding_all rfl)) Tryd.uT_lawsStore 1 Tryd.sT_lawsStore (by with_unfolding_all rfl) ?_))
    | (go_at_call 9; have n5_0 : SA w4 a l ∧ ArrU w4 0 keys ∧ 0 < w4.heap.size := (Sta.t (i := 1) HS4 rfl :); (with_reducible refine (hC4 w4 z n5_0 hz' Hp.out).mono ?_); rintro r w5 ⟨g1, rfl, hP5, hB5⟩; have HS5 := Sta.made HS4 hB5 hP5; clear hB5 hP5)
    | ((with_reducible refine wpList_allocV (w := w5) (by with_unfolding_all rfl) 27 (by with_unfolding_all rfl) [.slice none 0 0] Tryd.zT_implStore ?_); intro w6 hA6 hB6 hS6; clear hS6; have HS6 := Sta.new HS5 hA6 hB6 (by simp); clear hA6 hB6)
    | ((with_reducible refine wpList_storeS (w := w6) (by with_unfolding_all rfl) 27 (.tmp 5) (.tmp 16) (by with_unfolding_all rfl) w5.heap.size [.slice none 0 0] [.slice (some ⟨g1, 0, none⟩) n n] (by with_unfolding_all rfl) (by with_unfolding_all rfl) (Sta.r (i := 0) HS6 (by with_unfolding_all rfl)) 1 Tryd.sT_implStore (by with_unfolding_all rfl) (by with_unfolding_all rfl) (by with_unfolding_all rfl) ?_); intro w7 hA7 hO7; have HS7 := Sta.put 0 HS6 rfl hA7 (by simp) hO7; clear hA7 hO7)
    | ((with_reducible refine wpList_loadV (w := w7) (by with_unfolding_all rfl) 27 (.tmp 5) (by with_unfolding_all rfl) w5.heap.size [.slice (some ⟨g1, 0, none⟩) n n] (by with_unfolding_all rfl) (Sta.r (i := 0) HS7 (by with_unfolding_all rfl)) Tryd.uT_implStore 1 Tryd.sT_implStore (by with_unfolding_all rfl) ?_))
    | (go_at_call 10; have n8_0 : RowV w7 g1 (svl l) := (Sta.t (i := 0) HS7 rfl :); have n8_1 : SA w7 a l ∧ ArrU w7 0 keys ∧ 0 < w7.heap.size := (Sta.t (i := 2) HS7 rfl :); (with_reducible refine (hC5 w7 g1 n8_0 n8_1).mono ?_); rintro r w8 ⟨rfl, hB8⟩; have HS8 := Sta.call HS7 hB8; clear hB8))
  have HS9 := Sta.drew HS8
  go_region_held3 (fun w' => w'.cell? ⟨w5.heap.size, 0, none⟩ = some (.slice (some ⟨g1, 0, none⟩) n n) ∧ w'.cell? ⟨w.heap.size, 0, none⟩ = some (.slice a n c) ∧ Hid (Sta [] w [(w5.heap.size, [.slice (some ⟨g1, 0, none⟩) n n]), (w.heap.size, [.slice a n c])] [⟨fun k => w4.heap.size ≤ k ∧ k < w5.heap.size, fun w2 => RowV w2 g1 (svl l)⟩, ⟨fun k => w2.heap.size ≤ k ∧ k < w3.heap.size, fun w2 => RowV w2 g0 (svl l)⟩, ⟨fun k => k < w.heap.size, fun w' => SA w' a l ∧ ArrU w' 0 keys ∧ 0 < w'.heap.size⟩] w'))
    (first | exact ⟨Sta.c (i := 0) (HS9) rfl rfl, Sta.c (i := 1) (HS9) rfl rfl, (HS9)⟩ | exact ⟨Sta.c (i := 0) (Sta.call (HS9) hB10) rfl rfl, Sta.c (i := 1) (Sta.call (HS9) hB10) rfl rfl, (Sta.call (HS9) hB10)⟩ | exact ⟨Sta.c (i := 0) (Sta.call (Sta.call (HS9) hB10) hB11) rfl rfl, Sta.c (i := 1) (Sta.call (Sta.call (HS9) hB10) hB11) rfl rfl, (Sta.call (Sta.call (HS9) hB10) hB11)⟩)
    (first
      | (go_at_call 9; have n10_0 : SA w8.drew a l ∧ ArrU w8.drew 0 keys ∧ 0 < w8.drew.heap.size := (Sta.t (i := 2) (HS9) rfl :); (with_reducible refine (hC6 _ z n10_0 hz' Hp.out).mono ?_); rintro r w10 ⟨g2, rfl, hP10, hB10⟩)
      | (go_at_call 11; have n11_0 : RowV w10 g1 (svl l) := (Sta.t (i := 1) (Sta.made (HS9) hB10 hP10) rfl :); have n11_1 : RowV w10 g2 (svl l) := (Sta.t (i := 0) (Sta.made (HS9) hB10 hP10) rfl :); (with_reducible refine (hC7 _ z g1 g2 n11_0 n11_1 hz' Hp.out).mono ?_); rintro r w11 ⟨rfl, hB11⟩))
  all_goals
    have HS12 := Sta.call (Sta.made (HS9) hB10 hP10) hB11
    go_wp2_with fail
    go_ret
    exact ⟨rfl, Sta.fin HS12⟩
end Go.Proofs.YtchfpiadfmnphaaDoor
