/- The source's methods edge and l01Any: what they answer is bounded. -/
import Derived.Test.YtoaoaagfnkpkdaaDoorSrcM
import Derived.Test.YtoaoaagfnkpkdaaDoorSrcY
namespace Go.Proofs.YtoaoaagfnkpkdaaDoor
open Go.RowKit
set_option linter.unusedVariables false

theorem edge_cell (w : World) (t : TypeId) : ∀ j : Nat, j < 14 → ∃ z : Int, I64 z ∧ (w.alloc (.cells #[.int .i64 0, .int .i64 1, .int .i64 (-1), .int .i64 2, .int .i64 1000, .int .i64 1001, .int .i64 2147483648, .int .i64 2147483647, .int .i64 (-2147483648), .int .i64 4611686018427387904, .int .i64 9223372036854775807, .int .i64 (-9223372036854775808), .int .i64 1000000, .int .i64 1000001] t)).cell? ⟨w.heap.size, j, none⟩ = some (.int .i64 z)
  | 0, _ => ⟨_, by show (Lit.int .i64 (0)).wf = true; decide, by simp⟩
  | 1, _ => ⟨_, by show (Lit.int .i64 (1)).wf = true; decide, by simp⟩
  | 2, _ => ⟨_, by show (Lit.int .i64 (-1)).wf = true; decide, by simp⟩
  | 3, _ => ⟨_, by show (Lit.int .i64 (2)).wf = true; decide, by simp⟩
  | 4, _ => ⟨_, by show (Lit.int .i64 (1000)).wf = true; decide, by simp⟩
  | 5, _ => ⟨_, by show (Lit.int .i64 (1001)).wf = true; decide, by simp⟩
  | 6, _ => ⟨_, by show (Lit.int .i64 (2147483648)).wf = true; decide, by simp⟩
  | 7, _ => ⟨_, by show (Lit.int .i64 (2147483647)).wf = true; decide, by simp⟩
  | 8, _ => ⟨_, by show (Lit.int .i64 (-2147483648)).wf = true; decide, by simp⟩
  | 9, _ => ⟨_, by show (Lit.int .i64 (4611686018427387904)).wf = true; decide, by simp⟩
  | 10, _ => ⟨_, by show (Lit.int .i64 (9223372036854775807)).wf = true; decide, by simp⟩
  | 11, _ => ⟨_, by show (Lit.int .i64 (-9223372036854775808)).wf = true; decide, by simp⟩
  | 12, _ => ⟨_, by show (Lit.int .i64 (1000000)).wf = true; decide, by simp⟩
  | 13, _ => ⟨_, by show (Lit.int .i64 (1000001)).wf = true; decide, by simp⟩
  | j + 14, h => absurd h (by omega)

set_option maxRecDepth 100000 in
set_option maxHeartbeats 2000000 in
theorem edge_any (g len cap : Nat) (a : Option Addr) (w : World) (h : SrcAt w g a len cap) :
    Calls Tryd.prog 64 #[.pointer (some ⟨g, 0, none⟩)] w fun e w' => ∃ z : Int, e = .returned (.int .i64 z) ∧ I64 z ∧ SrcAt w' g a len cap ∧ w.grownBy w' (some g) := by
  have hgw := h.room
  have HB : Hid (Below w.heap.size w (w.alloc (.cells #[.int .i64 0, .int .i64 1, .int .i64 (-1), .int .i64 2, .int .i64 1000, .int .i64 1001, .int .i64 2147483648, .int .i64 2147483647, .int .i64 (-2147483648), .int .i64 4611686018427387904, .int .i64 9223372036854775807, .int .i64 (-9223372036854775808), .int .i64 1000000, .int .i64 1000001] 2))) := (Below.refl _ _).alloc (Nat.le_refl _) _
  have HS1 : Hid (SrcAt (w.alloc (.cells #[.int .i64 0, .int .i64 1, .int .i64 (-1), .int .i64 2, .int .i64 1000, .int .i64 1001, .int .i64 2147483648, .int .i64 2147483647, .int .i64 (-2147483648), .int .i64 4611686018427387904, .int .i64 9223372036854775807, .int .i64 (-9223372036854775808), .int .i64 1000000, .int .i64 1000001] 2)) g a len cap) := h.below HB.out hgw
  have HN : Hid (∀ w1, SrcAt w1 g a len cap → Calls Tryd.prog 62 #[.pointer (some ⟨g, 0, none⟩), .int .i64 14] w1 fun e w' => ∃ v : Int, e = .returned (.int .i64 v) ∧ 0 ≤ v ∧ v < 14 ∧ SrcAt w' g a len cap ∧ w1.grownBy w' (some g)) := fun w1 h1 => n_any g len cap a 14 w1 h1 (by omega) (by omega)
  clear h
  go_enter Tryd.func64, Tryd.ntmps64
  go_wp2_with fail
  refine (HN.out _ HS1.out).mono ?_
  rintro e w1 ⟨v, rfl, hv0, hv1, h1, h2⟩
  obtain ⟨j, rfl⟩ := Int.eq_ofNat_of_zero_le hv0
  obtain ⟨z, hz, hc⟩ := edge_cell w 2 j (by omega)
  have hc1 : w1.cell? ⟨w.heap.size, j, none⟩ = some (.int .i64 z) := by
    rw [World.cell?_of_block (h2.block w.heap.size (by simp) (by intro e; simp at e; omega))]; exact hc
  have H1 : Hid _ := h1
  have HZ : Hid (I64 z) := hz
  have HG : Hid (w.grownBy w1 (some g)) := grownBy_trans (grownBy_below (World.grownBy.refl _ _) HB.out) h2
  clear h1 h2 HN HS1 HB hc hz
  go_wp2
  go_ret
  exact ⟨z, rfl, HZ.out, H1.out, HG.out⟩

end Go.Proofs.YtoaoaagfnkpkdaaDoor
