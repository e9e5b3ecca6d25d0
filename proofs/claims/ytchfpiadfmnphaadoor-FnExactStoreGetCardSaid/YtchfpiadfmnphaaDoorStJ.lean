/- Stores and what is told of them in the laws' helpers: held against others, marks. -/
import Derived.Test.YtchfpiadfmnphaaDoorStH
import Derived.Test.YtchfpiadfmnphaaDoorMrkS
namespace Go.Proofs.YtchfpiadfmnphaaDoor
open Go.RowKit
set_option linter.unusedVariables false

set_option maxRecDepth 100000 in
set_option maxHeartbeats 4000000 in
theorem eqStO (Y : ByteArray) (C : Int) (w : World) :
    Calls Tryd.prog 14 #[.agg #[.slice none 0 0, .string Y, .int .i64 C], .agg #[.slice none 0 0, .string Y, .int .i64 C]] w fun r w' => r = .returned (.bool true) ∧ Below w.heap.size w w' := by
  have ht := txt_eq Y
  have hC1 : ∀ w0, Calls Tryd.prog 11 #[.agg #[.slice none 0 0], .agg #[.slice none 0 0]] w0 fun r w' => r = .returned (.bool true) ∧ Below w0.heap.size w0 w' := fun w0 => eqSto none none 0 0 [] w0 (SA.nil _ _) (SA.nil _ _) (by decide)
  have HS0 : Hid (Sta [] w [] [] w) := Sta.start w
  go_enter Tryd.func14, Tryd.ntmps14
  go_wp2_with (first
    | ((with_reducible refine wpList_boxV (w := w) (by with_unfolding_all rfl) 32 (.tmp 0) (by with_unfolding_all rfl) [.slice none 0 0, .string Y, .int .i64 C] (by with_unfolding_all rfl) ?_); intro w1 hA1 hB1 hS1; clear hS1; have HS1 := Sta.new HS0 hA1 hB1 (by simp); clear hA1 hB1)
    | ((with_reducible refine wpList_boxV (w := w1) (by with_unfolding_all rfl) 32 (.tmp 1) (by with_unfolding_all rfl) [.slice none 0 0, .string Y, .int .i64 C] (by with_unfolding_all rfl) ?_); intro w2 hA2 hB2 hS2; clear hS2; have HS2 := Sta.new HS1 hA2 hB2 (by simp); clear hA2 hB2)
    | ((with_reducible refine wpList_ldS (w := w2) (by with_unfolding_all rfl) 27 (.tmp 5) (by with_unfolding_all rfl) w.heap.size 0 [.slice none 0 0, .string Y, .int .i64 C] [.slice none 0 0] (by with_unfolding_all rfl) (Sta.r (i := 1) HS2 (by with_unfolding_all rfl)) Tryd.uT_implStore 1 Tryd.sT_implStore (by with_unfolding_all rfl) (by with_unfolding_all rfl) ?_))
    | ((with_reducible refine wpList_ldS (w := w2) (by with_unfolding_all rfl) 27 (.tmp 7) (by with_unfolding_all rfl) w1.heap.size 0 [.slice none 0 0, .string Y, .int .i64 C] [.slice none 0 0] (by with_unfolding_all rfl) (Sta.r (i := 0) HS2 (by with_unfolding_all rfl)) Tryd.uT_implStore 1 Tryd.sT_implStore (by with_unfolding_all rfl) (by with_unfolding_all rfl) ?_))
    | (go_at_call 11; (with_reducible refine (hC1 w2).mono ?_); rintro r w3 ⟨rfl, hB3⟩; have HS3 := Sta.call HS2 hB3; clear hB3; have cHS3_1_1 : w3.cell? ⟨w.heap.size, 1, none⟩ = some (.string Y) := Sta.c (i := 1) HS3 rfl rfl; have cHS3_0_1 : w3.cell? ⟨w1.heap.size, 1, none⟩ = some (.string Y) := Sta.c (i := 0) HS3 rfl rfl; have cHS3_1_2 : w3.cell? ⟨w.heap.size, 2, none⟩ = some (.int .i64 C) := Sta.c (i := 1) HS3 rfl rfl; have cHS3_0_2 : w3.cell? ⟨w1.heap.size, 2, none⟩ = some (.int .i64 C) := Sta.c (i := 0) HS3 rfl rfl))
  go_ret
  exact ⟨rfl, Sta.fin HS3⟩
set_option maxRecDepth 100000 in
set_option maxHeartbeats 2000000 in
theorem markSt0  (w : World) :
    Calls Tryd.prog 15 #[.agg #[.slice none 0 0], .int .i64 1] w fun r w' => r = .returned (.int .i64 1) ∧ Below w.heap.size w w' := by
  have hC1 : ∀ w0, Calls Tryd.prog 33 #[.slice none 0 0, .int .i64 1] w0 fun r w' => r = .returned (.int .i64 1) ∧ w0 = w' := fun w0 => markS_nil none 0 1 w0 (by omega)
  have HS0 : Hid (Sta [] w [] [] w) := Sta.start w
  go_enter Tryd.func15, Tryd.ntmps15
  go_wp2_with (first
    | ((with_reducible refine wpList_boxV (w := w) (by with_unfolding_all rfl) 27 (.tmp 0) (by with_unfolding_all rfl) [.slice none 0 0] (by with_unfolding_all rfl) ?_); intro w1 hA1 hB1 hS1; clear hS1; have HS1 := Sta.new HS0 hA1 hB1 (by simp); clear hA1 hB1; have cHS1_0_0 : w1.cell? ⟨w.heap.size, 0, none⟩ = some (.slice none 0 0) := Sta.c (i := 0) HS1 rfl rfl)
    | (go_at_call 33; (with_reducible refine (hC1 w1).mono ?_); rintro r w' ⟨rfl, rfl⟩))
  go_ret
  exact ⟨rfl, Sta.fin HS1⟩
set_option maxRecDepth 100000 in
set_option maxHeartbeats 2000000 in
theorem markStO (Y : ByteArray) (C : Int) (w : World) :
    Calls Tryd.prog 16 #[.agg #[.slice none 0 0, .string Y, .int .i64 C], .int .i64 1] w fun r w' => r = .returned (.int .i64 1) ∧ Below w.heap.size w w' := by
  have hC1 : ∀ w0, Calls Tryd.prog 15 #[.agg #[.slice none 0 0], .int .i64 1] w0 fun r w' => r = .returned (.int .i64 1) ∧ Below w0.heap.size w0 w' := fun w0 => markSt0 w0
  have HS0 : Hid (Sta [] w [] [] w) := Sta.start w
  go_enter Tryd.func16, Tryd.ntmps16
  go_wp2_with (first
    | ((with_reducible refine wpList_boxV (w := w) (by with_unfolding_all rfl) 32 (.tmp 0) (by with_unfolding_all rfl) [.slice none 0 0, .string Y, .int .i64 C] (by with_unfolding_all rfl) ?_); intro w1 hA1 hB1 hS1; clear hS1; have HS1 := Sta.new HS0 hA1 hB1 (by simp); clear hA1 hB1)
    | ((with_reducible refine wpList_ldS (w := w1) (by with_unfolding_all rfl) 27 (.tmp 5) (by with_unfolding_all rfl) w.heap.size 0 [.slice none 0 0, .string Y, .int .i64 C] [.slice none 0 0] (by with_unfolding_all rfl) (Sta.r (i := 0) HS1 (by with_unfolding_all rfl)) Tryd.uT_implStore 1 Tryd.sT_implStore (by with_unfolding_all rfl) (by with_unfolding_all rfl) ?_))
    | (go_at_call 15; (with_reducible refine (hC1 w1).mono ?_); rintro r w2 ⟨rfl, hB2⟩; have HS2 := Sta.call HS1 hB2; clear hB2))
  go_ret
  exact ⟨rfl, Sta.fin HS2⟩
set_option maxRecDepth 100000 in
set_option maxHeartbeats 2000000 in
theorem heldSt0  (w : World) :
    Calls Tryd.prog 34 #[.agg #[.slice none 0 0], .int .i64 1] w fun r w' => r = .returned (.int .i64 1) ∧ Below w.heap.size w w' := by
  have hC1 : ∀ w0, Calls Tryd.prog 41 #[.slice none 0 0, .int .i64 1] w0 fun r w' => r = .returned (.int .i64 1) ∧ Below w0.heap.size w0 w' := fun w0 => heldS_any none 0 0 1 w0 (SA.nil _ _) (by omega) (by omega) (by omega)
  have HS0 : Hid (Sta [] w [] [] w) := Sta.start w
  go_enter Tryd.func34, Tryd.ntmps34
  go_wp2_with (first
    | ((with_reducible refine wpList_boxV (w := w) (by with_unfolding_all rfl) 27 (.tmp 0) (by with_unfolding_all rfl) [.slice none 0 0] (by with_unfolding_all rfl) ?_); intro w1 hA1 hB1 hS1; clear hS1; have HS1 := Sta.new HS0 hA1 hB1 (by simp); clear hA1 hB1; have cHS1_0_0 : w1.cell? ⟨w.heap.size, 0, none⟩ = some (.slice none 0 0) := Sta.c (i := 0) HS1 rfl rfl)
    | (go_at_call 41; (with_reducible refine (hC1 w1).mono ?_); rintro r w2 ⟨rfl, hB2⟩; have HS2 := Sta.call HS1 hB2; clear hB2; clear cHS1_0_0))
  go_ret
  exact ⟨rfl, Sta.fin HS2⟩
set_option maxRecDepth 100000 in
set_option maxHeartbeats 2000000 in
theorem heldStO (Y : ByteArray) (C : Int) (w : World) :
    Calls Tryd.prog 17 #[.agg #[.slice none 0 0, .string Y, .int .i64 C], .int .i64 1] w fun r w' => r = .returned (.int .i64 1) ∧ Below w.heap.size w w' := by
  have hC1 : ∀ w0, Calls Tryd.prog 34 #[.agg #[.slice none 0 0], .int .i64 1] w0 fun r w' => r = .returned (.int .i64 1) ∧ Below w0.heap.size w0 w' := fun w0 => heldSt0 w0
  have HS0 : Hid (Sta [] w [] [] w) := Sta.start w
  go_enter Tryd.func17, Tryd.ntmps17
  go_wp2_with (first
    | ((with_reducible refine wpList_boxV (w := w) (by with_unfolding_all rfl) 32 (.tmp 0) (by with_unfolding_all rfl) [.slice none 0 0, .string Y, .int .i64 C] (by with_unfolding_all rfl) ?_); intro w1 hA1 hB1 hS1; clear hS1; have HS1 := Sta.new HS0 hA1 hB1 (by simp); clear hA1 hB1)
    | ((with_reducible refine wpList_ldS (w := w1) (by with_unfolding_all rfl) 27 (.tmp 5) (by with_unfolding_all rfl) w.heap.size 0 [.slice none 0 0, .string Y, .int .i64 C] [.slice none 0 0] (by with_unfolding_all rfl) (Sta.r (i := 0) HS1 (by with_unfolding_all rfl)) Tryd.uT_implStore 1 Tryd.sT_implStore (by with_unfolding_all rfl) (by with_unfolding_all rfl) ?_))
    | (go_at_call 34; (with_reducible refine (hC1 w1).mono ?_); rintro r w2 ⟨rfl, hB2⟩; have HS2 := Sta.call HS1 hB2; clear hB2))
  go_ret
  exact ⟨rfl, Sta.fin HS2⟩
/- Marks in a store's texts. -/
theorem markS_mrk (g n : Nat) (l : List ByteArray) (w : World) (hn : l.length = n) (h : RowV w g (svl l)) (hb : n ≤ 1048576) :
    Calls Tryd.prog 33 #[.slice (some ⟨g, 0, none⟩) n n, .int .i64 1] w fun e w' => e = .returned (.int .i64 ((1 + n : Nat) : Int)) ∧ (∀ w3, Mrk (fun k => k ≠ g) w' w3 → RowV w3 g (svl (mks 1 n))) ∧ Mrk (fun k => k = g) w w' := by
  by_cases h0 : n = 0
  · subst h0
    exact (markS_nil (some ⟨g, 0, none⟩) 0 1 w (by omega)).mono fun r w' ⟨h1, h2⟩ => ⟨h1, fun w3 _ => ⟨fun j v hv => by simp [svl, mks] at hv, fun j hj => by simp [svl, mks] at hj⟩, h2 ▸ Mrk.refl _ _⟩
  · have hl : svl l ≠ [] := fun e => by have := congrArg List.length e; rw [svl_length, hn] at this; exact h0 this
    exact (markS_row g n n 1 l w hn h (h.lt hl) hb (by omega) (by omega)).mono fun r w' ⟨h1, h2, h3⟩ => ⟨h1, fun w3 hw => hw.row h2 (fun e => by have := congrArg List.length e; rw [svl_length, mks_length] at this; exact h0 this) (fun hn => hn rfl), ⟨fun k hk hn => h3.2 k hn hk, fun B hB hb => h3.below (hb g rfl) hB, h3.size⟩⟩
set_option maxRecDepth 100000 in
set_option maxHeartbeats 2000000 in
theorem markSt (g n : Nat) (l : List ByteArray) (w : World) (hn : l.length = n) (h : RowV w g (svl l)) (hg : g < w.heap.size) (hb : n ≤ 1048576) :
    Calls Tryd.prog 15 #[.agg #[.slice (some ⟨g, 0, none⟩) n n], .int .i64 1] w fun r w' => ∃ z : Nat, r = .returned (.int .i64 (z : Int)) ∧ (∀ w3, Mrk (fun k => k ≠ g) w' w3 → RowV w3 g (svl (mks 1 n))) ∧ Mrk (fun k => k = g) w w' := by
  have hC : ∀ w0, RowV w0 g (svl l) → Calls Tryd.prog 33 #[.slice (some ⟨g, 0, none⟩) n n, .int .i64 1] w0 fun e w' => e = .returned (.int .i64 ((1 + n : Nat) : Int)) ∧ (∀ w3, Mrk (fun k => k ≠ g) w' w3 → RowV w3 g (svl (mks 1 n))) ∧ Mrk (fun k => k = g) w0 w' := fun w0 h0 => markS_mrk g n l w0 hn h0 hb
  generalize 1 + n = z at hC
  have HS0 : Hid (Sta [] w [] [⟨fun k => k < w.heap.size, fun w' => RowV w' g (svl l)⟩] w) := Sta.arg (fun w' => RowV w' g (svl l)) (fun w' hb => h.below hb hg)
  clear h hn hb
  go_enter Tryd.func15, Tryd.ntmps15
  go_wp2_with (first
    | ((with_reducible refine wpList_boxV (w := w) (by with_unfolding_all rfl) 27 (.tmp 0) (by with_unfolding_all rfl) [.slice (some ⟨g, 0, none⟩) n n] (by with_unfolding_all rfl) ?_); intro w1 hA1 hB1 hS1; clear hS1; have HB := hidP hB1; have HS1 := Sta.new HS0 hA1 hB1 (by simp); clear hA1 hB1; have cHS1_0_0 : w1.cell? ⟨w.heap.size, 0, none⟩ = some (.slice (some ⟨g, 0, none⟩) n n) := Sta.c (i := 0) HS1 rfl rfl)
    | (go_at_call 33; (with_reducible refine (hC w1 (Sta.t (i := 0) HS1 rfl :)).mono ?_); rintro r w2 ⟨rfl, hP, hM⟩; clear cHS1_0_0; have HE := hidP (And.intro hP hM); clear hP hM))
  go_ret
  exact ⟨z, rfl, HE.out.1, ((Mrk.of HB.out).mono (fun k hk => by have : False := hk; exact this.elim)).trans HE.out.2⟩
end Go.Proofs.YtchfpiadfmnphaaDoor
