/- The law FnExactStoreGet, walked. -/
import Derived.Test.YtchfpiadfmnphaaDoorStV
import Derived.Test.YtchfpiadfmnphaaDoorStJ
import Derived.Deep.RegionHeld3
namespace Go.Proofs.YtchfpiadfmnphaaDoor
open Go.RowKit
set_option linter.unusedVariables false

set_option maxRecDepth 100000 in
set_option maxHeartbeats 16000000 in
theorem lawStG (a : Option Addr) (c n : Nat) (l : List ByteArray) (t : ByteArray) (w : World) (hn : l.length = n) (h : SA w a l) (hm : n ≤ maxLen) (hx : ∀ x ∈ l, x.size ≤ maxLen) (hk : ArrU w 0 keys) (h0 : 0 < w.heap.size) (ht : t.size ≤ maxLen) :
    Calls Tryd.prog 4 #[.agg #[.slice a n c], .string t] w fun r w' => r = .returned (.bool true) ∧ Below w.heap.size w w' := by
  have hbb : ∀ b : Bool, (b != b) = false := fun b => by simp
  have hkk : ∀ k : Nat, decide ((k : Int) < 0) = false := fun k => decide_eq_false (by omega)
  have ht' := ht
  unfold maxLen at ht'
  obtain ⟨Y, hy⟩ : ∃ Y, getY l t = Y := ⟨_, rfl⟩
  obtain ⟨C, hc⟩ : ∃ C, getC l t = C := ⟨_, rfl⟩
  have HA := hidP (show getY l t = Y ∧ getC l t = C from ⟨hy, hc⟩)
  clear hy hc
  have hC1 : ∀ w0, (SA w0 a l ∧ ArrU w0 0 keys ∧ 0 < w0.heap.size) → Calls Tryd.prog 7 #[.agg #[.slice a n c], .int .i64 1048576] w0 fun r w' => ∃ (z : Int), r = .returned (.int .i64 z) ∧ (0 ≤ z → n ≤ 1048576) ∧ Below w0.heap.size w0 w' := fun w0 n0 => (szSto a c n l w0 hn n0.1 hm hx)
  have hC2 : ∀ w0 (z : Int), (SA w0 a l ∧ ArrU w0 0 keys ∧ 0 < w0.heap.size) → (0 ≤ z) → (0 ≤ z → n ≤ 1048576) → Calls Tryd.prog 9 #[.agg #[.slice a n c]] w0 fun r w' => ∃ (g0 : Nat), r = .returned (.agg #[.slice (some ⟨g0, 0, none⟩) n n]) ∧ (w0.heap.size ≤ g0 ∧ g0 < w'.heap.size) ∧ Made w0 w' (fun w2 => RowV w2 g0 (svl l)) ∧ Below w0.heap.size w0 w' := fun w0 z n0 n1 n2 => toSto a c n l w0 hn n0.1 (n2 n1)
  have hC3 : ∀ w0 (g0 : Nat), (RowV w0 g0 (svl l)) → (getY l t = Y ∧ getC l t = C) → Calls Tryd.prog 12 #[.agg #[.slice (some ⟨g0, 0, none⟩) n n], .string t] w0 fun r w' => r = .returned (.agg #[.slice none 0 0, .string Y, .int .i64 C]) ∧ Below w0.heap.size w0 w' := fun w0 g0 n0 n1 => by rw [← n1.1, ← n1.2]; exact specStGet (some ⟨g0, 0, none⟩) n n l t w0 hn n0.sa hm hx ht
  have hC4 : ∀ w0 (z : Int), (SA w0 a l ∧ ArrU w0 0 keys ∧ 0 < w0.heap.size) → (0 ≤ z) → (0 ≤ z → n ≤ 1048576) → Calls Tryd.prog 9 #[.agg #[.slice a n c]] w0 fun r w' => ∃ (g1 : Nat), r = .returned (.agg #[.slice (some ⟨g1, 0, none⟩) n n]) ∧ (w0.heap.size ≤ g1 ∧ g1 < w'.heap.size) ∧ Made w0 w' (fun w2 => RowV w2 g1 (svl l)) ∧ Below w0.heap.size w0 w' := fun w0 z n0 n1 n2 => toSto a c n l w0 hn n0.1 (n2 n1)
  have hC5 : ∀ w0 (g1 : Nat), (RowV w0 g1 (svl l)) → (SA w0 a l ∧ ArrU w0 0 keys ∧ 0 < w0.heap.size) → (getY l t = Y ∧ getC l t = C) → Calls Tryd.prog 13 #[.agg #[.slice (some ⟨g1, 0, none⟩) n n], .string t] w0 fun r w' => r = .returned (.agg #[.slice none 0 0, .string Y, .int .i64 C]) ∧ Below w0.heap.size w0 w' := fun w0 g1 n0 n1 n2 => by rw [← n2.1, ← n2.2]; exact implStGet (some ⟨g1, 0, none⟩) n n l t w0 hn n0.sa hm hx n1.2.1 n1.2.2 ht
  have hC6 : ∀ w0, Calls Tryd.prog 14 #[.agg #[.slice none 0 0, .string Y, .int .i64 C], .agg #[.slice none 0 0, .string Y, .int .i64 C]] w0 fun r w' => r = .returned (.bool true) ∧ Below w0.heap.size w0 w' := fun w0 => eqStO Y C w0
  have hC7 : ∀ w0 (z : Int), (SA w0 a l ∧ ArrU w0 0 keys ∧ 0 < w0.heap.size) → (0 ≤ z) → (0 ≤ z → n ≤ 1048576) → Calls Tryd.prog 9 #[.agg #[.slice a n c]] w0 fun r w' => ∃ (g2 : Nat), r = .returned (.agg #[.slice (some ⟨g2, 0, none⟩) n n]) ∧ (w0.heap.size ≤ g2 ∧ g2 < w'.heap.size) ∧ Made w0 w' (fun w2 => RowV w2 g2 (svl l)) ∧ Below w0.heap.size w0 w' := fun w0 z n0 n1 n2 => toSto a c n l w0 hn n0.1 (n2 n1)
  have hC8 : ∀ w0 (z : Int) (g1 : Nat) (g2 : Nat), (RowV w0 g1 (svl l)) → (RowV w0 g2 (svl l)) → (0 ≤ z) → (0 ≤ z → n ≤ 1048576) → Calls Tryd.prog 11 #[.agg #[.slice (some ⟨g1, 0, none⟩) n n], .agg #[.slice (some ⟨g2, 0, none⟩) n n]] w0 fun r w' => r = .returned (.bool true) ∧ Below w0.heap.size w0 w' := fun w0 z g1 g2 n0 n1 n2 n3 => by have := eqSto (some ⟨g1, 0, none⟩) (some ⟨g2, 0, none⟩) n n l w0 n0.sa n1.sa (by have := n3 n2; omega); rw [hn] at this; exact this
  have hC9 : ∀ w0 (z : Int) (g1 : Nat) (w7 : World) (w8 : World), (RowV w0 g1 (svl l)) → (g1 < w0.heap.size) → (0 ≤ z) → (0 ≤ z → n ≤ 1048576) → ((fun k => w7.heap.size ≤ k ∧ k < w8.heap.size) g1) → Calls Tryd.prog 15 #[.agg #[.slice (some ⟨g1, 0, none⟩) n n], .int .i64 1] w0 fun r w' => ∃ (k : Nat), r = .returned (.int .i64 (k : Int)) ∧ (∀ wm', Mrk (fun k => ¬ (fun k => w7.heap.size ≤ k ∧ k < w8.heap.size) k) w' wm' → (fun w2 => RowV w2 g1 (svl (mks 1 n))) wm') ∧ Mrk (fun k => k = g1) w0 w' := fun w0 z g1 w7 w8 n0 n1 n2 n3 n4 => (markSt g1 n l w0 hn n0 n1 (n3 n2)).mono fun r w' ⟨z, h1, h2, h3⟩ => ⟨z, h1, fun wm hw => h2 wm (hw.mono fun k hk e => hk (by rw [e]; exact n4)), h3⟩
  have hC10 : ∀ w0, Calls Tryd.prog 16 #[.agg #[.slice none 0 0, .string Y, .int .i64 C], .int .i64 1] w0 fun r w' => r = .returned (.int .i64 1) ∧ Below w0.heap.size w0 w' := fun w0 => markStO Y C w0
  have hC11 : ∀ w0, Calls Tryd.prog 17 #[.agg #[.slice none 0 0, .string Y, .int .i64 C], .int .i64 1] w0 fun r w' => r = .returned (.int .i64 1) ∧ Below w0.heap.size w0 w' := fun w0 => heldStO Y C w0
  have hC12 : ∀ w0 (z : Int), (SA w0 a l ∧ ArrU w0 0 keys ∧ 0 < w0.heap.size) → (0 ≤ z) → (0 ≤ z → n ≤ 1048576) → Calls Tryd.prog 9 #[.agg #[.slice a n c]] w0 fun r w' => ∃ (g3 : Nat), r = .returned (.agg #[.slice (some ⟨g3, 0, none⟩) n n]) ∧ (w0.heap.size ≤ g3 ∧ g3 < w'.heap.size) ∧ Made w0 w' (fun w2 => RowV w2 g3 (svl l)) ∧ Below w0.heap.size w0 w' := fun w0 z n0 n1 n2 => toSto a c n l w0 hn n0.1 (n2 n1)
  have hC13 : ∀ w0 (g3 : Nat), (RowV w0 g3 (svl l)) → (SA w0 a l ∧ ArrU w0 0 keys ∧ 0 < w0.heap.size) → (getY l t = Y ∧ getC l t = C) → Calls Tryd.prog 13 #[.agg #[.slice (some ⟨g3, 0, none⟩) n n], .string t] w0 fun r w' => r = .returned (.agg #[.slice none 0 0, .string Y, .int .i64 C]) ∧ Below w0.heap.size w0 w' := fun w0 g3 n0 n1 n2 => by rw [← n2.1, ← n2.2]; exact implStGet (some ⟨g3, 0, none⟩) n n l t w0 hn n0.sa hm hx n1.2.1 n1.2.2 ht
  have HS0 : Hid (Sta [] w [] [⟨fun k => k < w.heap.size, fun w' => SA w' a l ∧ ArrU w' 0 keys ∧ 0 < w'.heap.size⟩] w) := Sta.arg (fun w' => SA w' a l ∧ ArrU w' 0 keys ∧ 0 < w'.heap.size) (fun w' hb => ⟨h.below hb, hk.below hb h0, Nat.lt_of_lt_of_le h0 hb.size⟩)
  clear hn h hx hk h0
  go_enter Tryd.func4, Tryd.ntmps4
  by_cases g5 : 1048576 < t.size
  · as_aux_lemma =>
    have d5 : decide ((1048576 : Int) < (t.size : Int)) = true := decide_eq_true (by omega)
    go_wp2_with (first
      | ((with_reducible refine wpList_boxV (w := w) (by with_unfolding_all rfl) 24 (.tmp 0) (by with_unfolding_all rfl) [.slice a n c] (by with_unfolding_all rfl) ?_); intro w1 hA1 hB1 hS1; clear hS1; have HS1 := Sta.new HS0 hA1 hB1 (by simp); clear hA1 hB1))
    go_ret
    exact ⟨rfl, Sta.fin HS1⟩
  · have d5 : decide ((1048576 : Int) < (t.size : Int)) = false := decide_eq_false (by omega)
    go_wp2_with (first
      | ((with_reducible refine wpList_boxV (w := w) (by with_unfolding_all rfl) 24 (.tmp 0) (by with_unfolding_all rfl) [.slice a n c] (by with_unfolding_all rfl) ?_); intro w2 hA2 hB2 hS2; clear hS2; have HS2 := Sta.new HS0 hA2 hB2 (by simp); clear hA2 hB2)
      | ((with_reducible refine wpList_loadV (w := w2) (by with_unfolding_all rfl) 24 (.tmp 2) (by with_unfolding_all rfl) w.heap.size [.slice a n c] (by with_unfolding_all rfl) (Sta.r (i := 0) HS2 (by with_unfolding_all rfl)) Tryd.uT_lawsStore 1 Tryd.sT_lawsStore (by with_unfolding_all rfl) ?_)))
    have n3_0 : SA w2 a l ∧ ArrU w2 0 keys ∧ 0 < w2.heap.size := (Sta.t (i := 0) HS2 rfl :)
    refine (hC1 w2 n3_0).mono ?_
    rintro r w3 ⟨z, rfl, p, hB3⟩
    have Hp := hidP p
    clear p
    have HS3 := Sta.call HS2 hB3
    clear hB3
    by_cases hz : z < 0
    · as_aux_lemma =>
      go_wp2_with fail
      go_ret
      exact ⟨rfl, Sta.fin HS3⟩
    have hz' : 0 ≤ z := by omega
    go_wp2_with (first
      | ((with_reducible refine wpList_loadV (w := w3) (by with_unfolding_all rfl) 24 (.tmp 2) (by with_unfolding_all rfl) w.heap.size [.slice a n c] (by with_unfolding_all rfl) (Sta.r (i := 0) HS3 (by with_unfolding_all rfl)) Tryd.uT_lawsStore 1 Tryd.sT_lawsStore (by with_unfolding_all rfl) ?_))
      | (go_at_call 9; have n4_0 : SA w3 a l ∧ ArrU w3 0 keys ∧ 0 < w3.heap.size := (Sta.t (i := 0) HS3 rfl :); (with_reducible refine (hC2 w3 z n4_0 hz' Hp.out).mono ?_); rintro r w4 ⟨g0, rfl, q0, hP4, hB4⟩; have Hq0 := hidP q0; clear q0; have HS4 := Sta.made HS3 hB4 hP4; clear hB4 hP4)
      | (go_at_call 12; have n5_0 : RowV w4 g0 (svl l) := (Sta.t (i := 0) HS4 rfl :); (with_reducible refine (hC3 w4 g0 n5_0 HA.out).mono ?_); rintro r w5 ⟨rfl, hB5⟩; have HS5 := Sta.call HS4 hB5; clear hB5)
      | ((with_reducible refine wpList_allocV (w := w5) (by with_unfolding_all rfl) 32 (by with_unfolding_all rfl) [.slice none 0 0, .string ⟨#[]⟩, .int .i64 0] Tryd.zT_implStoreOut ?_); intro w6 hA6 hB6 hS6; clear hS6; have HS6 := Sta.new HS5 hA6 hB6 (by simp); clear hA6 hB6)
      | ((with_reducible refine wpList_storeS (w := w6) (by with_unfolding_all rfl) 32 (.tmp 6) (.tmp 24) (by with_unfolding_all rfl) w5.heap.size [.slice none 0 0, .string ⟨#[]⟩, .int .i64 0] [.slice none 0 0, .string Y, .int .i64 C] (by with_unfolding_all rfl) (by with_unfolding_all rfl) (Sta.r (i := 0) HS6 (by with_unfolding_all rfl)) 3 Tryd.sT_implStoreOut (by with_unfolding_all rfl) (by with_unfolding_all rfl) (by with_unfolding_all rfl) ?_); intro w7 hA7 hO7; have HS7 := Sta.put 0 HS6 rfl hA7 (by simp) hO7; clear hA7 hO7)
      | ((with_reducible refine wpList_loadV (w := w7) (by with_unfolding_all rfl) 24 (.tmp 2) (by with_unfolding_all rfl) w.heap.size [.slice a n c] (by with_unfolding_all rfl) (Sta.r (i := 1) HS7 (by with_unfolding_all rfl)) Tryd.uT_lawsStore 1 Tryd.sT_lawsStore (by with_unfolding_all rfl) ?_))
      | (go_at_call 9; have n8_0 : SA w7 a l ∧ ArrU w7 0 keys ∧ 0 < w7.heap.size := (Sta.t (i := 1) HS7 rfl :); (with_reducible refine (hC4 w7 z n8_0 hz' Hp.out).mono ?_); rintro r w8 ⟨g1, rfl, q1, hP8, hB8⟩; have Hq1 := hidP q1; clear q1; have HS8 := Sta.made HS7 hB8 hP8; clear hB8 hP8)
      | ((with_reducible refine wpList_allocV (w := w8) (by with_unfolding_all rfl) 27 (by with_unfolding_all rfl) [.slice none 0 0] Tryd.zT_implStore ?_); intro w9 hA9 hB9 hS9; clear hS9; have HS9 := Sta.new HS8 hA9 hB9 (by simp); clear hA9 hB9)
      | ((with_reducible refine wpList_storeS (w := w9) (by with_unfolding_all rfl) 27 (.tmp 7) (.tmp 26) (by with_unfolding_all rfl) w8.heap.size [.slice none 0 0] [.slice (some ⟨g1, 0, none⟩) n n] (by with_unfolding_all rfl) (by with_unfolding_all rfl) (Sta.r (i := 0) HS9 (by with_unfolding_all rfl)) 1 Tryd.sT_implStore (by with_unfolding_all rfl) (by with_unfolding_all rfl) (by with_unfolding_all rfl) ?_); intro w10 hA10 hO10; have HS10 := Sta.put 0 HS9 rfl hA10 (by simp) hO10; clear hA10 hO10)
      | ((with_reducible refine wpList_loadV (w := w10) (by with_unfolding_all rfl) 27 (.tmp 7) (by with_unfolding_all rfl) w8.heap.size [.slice (some ⟨g1, 0, none⟩) n n] (by with_unfolding_all rfl) (Sta.r (i := 0) HS10 (by with_unfolding_all rfl)) Tryd.uT_implStore 1 Tryd.sT_implStore (by with_unfolding_all rfl) ?_))
      | (go_at_call 13; have n11_0 : RowV w10 g1 (svl l) := (Sta.t (i := 0) HS10 rfl :); have n11_1 : SA w10 a l ∧ ArrU w10 0 keys ∧ 0 < w10.heap.size := (Sta.t (i := 2) HS10 rfl :); (with_reducible refine (hC5 w10 g1 n11_0 n11_1 HA.out).mono ?_); rintro r w11 ⟨rfl, hB11⟩; have HS11 := Sta.call HS10 hB11; clear hB11)
      | ((with_reducible refine wpList_allocV (w := w11) (by with_unfolding_all rfl) 32 (by with_unfolding_all rfl) [.slice none 0 0, .string ⟨#[]⟩, .int .i64 0] Tryd.zT_implStoreOut ?_); intro w12 hA12 hB12 hS12; clear hS12; have HS12 := Sta.new HS11 hA12 hB12 (by simp); clear hA12 hB12)
      | ((with_reducible refine wpList_storeS (w := w12) (by with_unfolding_all rfl) 32 (.tmp 8) (.tmp 29) (by with_unfolding_all rfl) w11.heap.size [.slice none 0 0, .string ⟨#[]⟩, .int .i64 0] [.slice none 0 0, .string Y, .int .i64 C] (by with_unfolding_all rfl) (by with_unfolding_all rfl) (Sta.r (i := 0) HS12 (by with_unfolding_all rfl)) 3 Tryd.sT_implStoreOut (by with_unfolding_all rfl) (by with_unfolding_all rfl) (by with_unfolding_all rfl) ?_); intro w13 hA13 hO13; have HS13 := Sta.put 0 HS12 rfl hA13 (by simp) hO13; clear hA13 hO13)
      | ((with_reducible refine wpList_loadV (w := w13) (by with_unfolding_all rfl) 32 (.tmp 8) (by with_unfolding_all rfl) w11.heap.size [.slice none 0 0, .string Y, .int .i64 C] (by with_unfolding_all rfl) (Sta.r (i := 0) HS13 (by with_unfolding_all rfl)) Tryd.uT_implStoreOut 3 Tryd.sT_implStoreOut (by with_unfolding_all rfl) ?_))
      | ((with_reducible refine wpList_loadV (w := w13) (by with_unfolding_all rfl) 32 (.tmp 6) (by with_unfolding_all rfl) w5.heap.size [.slice none 0 0, .string Y, .int .i64 C] (by with_unfolding_all rfl) (Sta.r (i := 2) HS13 (by with_unfolding_all rfl)) Tryd.uT_implStoreOut 3 Tryd.sT_implStoreOut (by with_unfolding_all rfl) ?_))
      | (go_at_call 14; (with_reducible refine (hC6 w13).mono ?_); rintro r w14 ⟨rfl, hB14⟩; have HS14 := Sta.call HS13 hB14; clear hB14))
    have HS15 := Sta.drew HS14
    go_region_held3 (fun w' => w'.cell? ⟨w8.heap.size, 0, none⟩ = some (.slice (some ⟨g1, 0, none⟩) n n) ∧ w'.cell? ⟨w.heap.size, 0, none⟩ = some (.slice a n c) ∧ Hid (Sta [] w [(w11.heap.size, [.slice none 0 0, .string Y, .int .i64 C]), (w8.heap.size, [.slice (some ⟨g1, 0, none⟩) n n]), (w5.heap.size, [.slice none 0 0, .string Y, .int .i64 C]), (w.heap.size, [.slice a n c])] [⟨fun k => w7.heap.size ≤ k ∧ k < w8.heap.size, fun w2 => RowV w2 g1 (svl l)⟩, ⟨fun k => w3.heap.size ≤ k ∧ k < w4.heap.size, fun w2 => RowV w2 g0 (svl l)⟩, ⟨fun k => k < w.heap.size, fun w' => SA w' a l ∧ ArrU w' 0 keys ∧ 0 < w'.heap.size⟩] w'))
      (first | exact ⟨Sta.c (i := 1) (HS15) rfl rfl, Sta.c (i := 3) (HS15) rfl rfl, (HS15)⟩ | exact ⟨Sta.c (i := 1) (Sta.call (HS15) hB16) rfl rfl, Sta.c (i := 3) (Sta.call (HS15) hB16) rfl rfl, (Sta.call (HS15) hB16)⟩ | exact ⟨Sta.c (i := 1) (Sta.call (Sta.call (HS15) hB16) hB17) rfl rfl, Sta.c (i := 3) (Sta.call (Sta.call (HS15) hB16) hB17) rfl rfl, (Sta.call (Sta.call (HS15) hB16) hB17)⟩)
      (first
        | (go_at_call 9; have n16_0 : SA w14.drew a l ∧ ArrU w14.drew 0 keys ∧ 0 < w14.drew.heap.size := (Sta.t (i := 2) (HS15) rfl :); (with_reducible refine (hC7 _ z n16_0 hz' Hp.out).mono ?_); rintro r w16 ⟨g2, rfl, q2, hP16, hB16⟩)
        | (go_at_call 11; have n17_0 : RowV w16 g1 (svl l) := (Sta.t (i := 1) (Sta.made (HS15) hB16 hP16) rfl :); have n17_1 : RowV w16 g2 (svl l) := (Sta.t (i := 0) (Sta.made (HS15) hB16 hP16) rfl :); (with_reducible refine (hC8 _ z g1 g2 n17_0 n17_1 hz' Hp.out).mono ?_); rintro r w17 ⟨rfl, hB17⟩))
    all_goals
      have Hq2 := hidP q2
      clear q2
      have HS18 := Sta.call (Sta.made (HS15) hB16 hP16) hB17
      go_wp2_with (first
        | ((with_reducible refine wpList_loadV (w := w17) (by with_unfolding_all rfl) 27 (.tmp 7) (by with_unfolding_all rfl) w8.heap.size [.slice (some ⟨g1, 0, none⟩) n n] (by with_unfolding_all rfl) (Sta.r (i := 1) HS18 (by with_unfolding_all rfl)) Tryd.uT_implStore 1 Tryd.sT_implStore (by with_unfolding_all rfl) ?_))
        | (go_at_call 15; have n19_0 : RowV w17 g1 (svl l) := (Sta.t (i := 1) HS18 rfl :); have n19_1 : g1 < w17.heap.size := Sta.lt (i := 1) HS18 rfl g1 Hq1.out; (with_reducible refine (hC9 w17 z g1 w7 w8 n19_0 n19_1 hz' Hp.out Hq1.out).mono ?_); rintro r w19 ⟨k, rfl, hK19, hM19⟩; have HS19 := Sta.mark 1 HS18 rfl hM19 (fun k hk => by rw [show k = g1 from hk]; exact Hq1.out) (fun k hk => Nat.le_trans (Sta.size HS7) hk.1) hK19; clear hK19 hM19; have cHS19_0_0 : w19.cell? ⟨w11.heap.size, 0, none⟩ = some (.slice none 0 0) := Sta.c (i := 0) HS19 rfl rfl; have cHS19_0_1 : w19.cell? ⟨w11.heap.size, 1, none⟩ = some (.string Y) := Sta.c (i := 0) HS19 rfl rfl; have cHS19_0_2 : w19.cell? ⟨w11.heap.size, 2, none⟩ = some (.int .i64 C) := Sta.c (i := 0) HS19 rfl rfl; have cHS19_2_0 : w19.cell? ⟨w5.heap.size, 0, none⟩ = some (.slice none 0 0) := Sta.c (i := 2) HS19 rfl rfl; have cHS19_2_1 : w19.cell? ⟨w5.heap.size, 1, none⟩ = some (.string Y) := Sta.c (i := 2) HS19 rfl rfl; have cHS19_2_2 : w19.cell? ⟨w5.heap.size, 2, none⟩ = some (.int .i64 C) := Sta.c (i := 2) HS19 rfl rfl)
        | (go_at_call 14; (with_reducible refine (hC6 w19).mono ?_); rintro r w20 ⟨rfl, hB20⟩; have HS20 := Sta.call HS19 hB20; clear hB20; clear cHS19_0_0 cHS19_0_1 cHS19_0_2 cHS19_2_0 cHS19_2_1 cHS19_2_2)
        | ((with_reducible refine wpList_loadV (w := w20) (by with_unfolding_all rfl) 32 (.tmp 8) (by with_unfolding_all rfl) w11.heap.size [.slice none 0 0, .string Y, .int .i64 C] (by with_unfolding_all rfl) (Sta.r (i := 0) HS20 (by with_unfolding_all rfl)) Tryd.uT_implStoreOut 3 Tryd.sT_implStoreOut (by with_unfolding_all rfl) ?_))
        | (go_at_call 16; (with_reducible refine (hC10 w20).mono ?_); rintro r w21 ⟨rfl, hB21⟩; have HS21 := Sta.call HS20 hB21; clear hB21)
        | ((with_reducible refine wpList_loadV (w := w21) (by with_unfolding_all rfl) 32 (.tmp 8) (by with_unfolding_all rfl) w11.heap.size [.slice none 0 0, .string Y, .int .i64 C] (by with_unfolding_all rfl) (Sta.r (i := 0) HS21 (by with_unfolding_all rfl)) Tryd.uT_implStoreOut 3 Tryd.sT_implStoreOut (by with_unfolding_all rfl) ?_))
        | (go_at_call 17; (with_reducible refine (hC11 w21).mono ?_); rintro r w22 ⟨rfl, hB22⟩; have HS22 := Sta.call HS21 hB22; clear hB22)
        | ((with_reducible refine wpList_loadV (w := w22) (by with_unfolding_all rfl) 24 (.tmp 2) (by with_unfolding_all rfl) w.heap.size [.slice a n c] (by with_unfolding_all rfl) (Sta.r (i := 3) HS22 (by with_unfolding_all rfl)) Tryd.uT_lawsStore 1 Tryd.sT_lawsStore (by with_unfolding_all rfl) ?_))
        | (go_at_call 9; have n23_0 : SA w22 a l ∧ ArrU w22 0 keys ∧ 0 < w22.heap.size := (Sta.t (i := 3) HS22 rfl :); (with_reducible refine (hC12 w22 z n23_0 hz' Hp.out).mono ?_); rintro r w23 ⟨g3, rfl, q3, hP23, hB23⟩; have Hq3 := hidP q3; clear q3; have HS23 := Sta.made HS22 hB23 hP23; clear hB23 hP23)
        | (go_at_call 13; have n24_0 : RowV w23 g3 (svl l) := (Sta.t (i := 0) HS23 rfl :); have n24_1 : SA w23 a l ∧ ArrU w23 0 keys ∧ 0 < w23.heap.size := (Sta.t (i := 4) HS23 rfl :); (with_reducible refine (hC13 w23 g3 n24_0 n24_1 HA.out).mono ?_); rintro r w24 ⟨rfl, hB24⟩; have HS24 := Sta.call HS23 hB24; clear hB24)
        | ((with_reducible refine wpList_allocV (w := w24) (by with_unfolding_all rfl) 32 (by with_unfolding_all rfl) [.slice none 0 0, .string ⟨#[]⟩, .int .i64 0] Tryd.zT_implStoreOut ?_); intro w25 hA25 hB25 hS25; clear hS25; have HS25 := Sta.new HS24 hA25 hB25 (by simp); clear hA25 hB25)
        | ((with_reducible refine wpList_storeS (w := w25) (by with_unfolding_all rfl) 32 (.tmp 12) (.tmp 64) (by with_unfolding_all rfl) w24.heap.size [.slice none 0 0, .string ⟨#[]⟩, .int .i64 0] [.slice none 0 0, .string Y, .int .i64 C] (by with_unfolding_all rfl) (by with_unfolding_all rfl) (Sta.r (i := 0) HS25 (by with_unfolding_all rfl)) 3 Tryd.sT_implStoreOut (by with_unfolding_all rfl) (by with_unfolding_all rfl) (by with_unfolding_all rfl) ?_); intro w26 hA26 hO26; have HS26 := Sta.put 0 HS25 rfl hA26 (by simp) hO26; clear hA26 hO26)
        | ((with_reducible refine wpList_loadV (w := w26) (by with_unfolding_all rfl) 32 (.tmp 12) (by with_unfolding_all rfl) w24.heap.size [.slice none 0 0, .string Y, .int .i64 C] (by with_unfolding_all rfl) (Sta.r (i := 0) HS26 (by with_unfolding_all rfl)) Tryd.uT_implStoreOut 3 Tryd.sT_implStoreOut (by with_unfolding_all rfl) ?_))
        | ((with_reducible refine wpList_loadV (w := w26) (by with_unfolding_all rfl) 32 (.tmp 6) (by with_unfolding_all rfl) w5.heap.size [.slice none 0 0, .string Y, .int .i64 C] (by with_unfolding_all rfl) (Sta.r (i := 3) HS26 (by with_unfolding_all rfl)) Tryd.uT_implStoreOut 3 Tryd.sT_implStoreOut (by with_unfolding_all rfl) ?_))
        | (go_at_call 14; (with_reducible refine (hC6 w26).mono ?_); rintro r w27 ⟨rfl, hB27⟩; have HS27 := Sta.call HS26 hB27; clear hB27)
        | ((with_reducible refine wpList_loadV (w := w27) (by with_unfolding_all rfl) 32 (.tmp 8) (by with_unfolding_all rfl) w11.heap.size [.slice none 0 0, .string Y, .int .i64 C] (by with_unfolding_all rfl) (Sta.r (i := 1) HS27 (by with_unfolding_all rfl)) Tryd.uT_implStoreOut 3 Tryd.sT_implStoreOut (by with_unfolding_all rfl) ?_))
        | (go_at_call 17; (with_reducible refine (hC11 w27).mono ?_); rintro r w28 ⟨rfl, hB28⟩; have HS28 := Sta.call HS27 hB28; clear hB28))
      go_ret
      exact ⟨rfl, Sta.fin HS28⟩
end Go.Proofs.YtchfpiadfmnphaaDoor
