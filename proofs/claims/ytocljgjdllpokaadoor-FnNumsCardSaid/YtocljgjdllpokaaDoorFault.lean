/- What the program's faultCode answers at a fault of its own type: its code. The condition: errors.errorType reads as the program's text lays it. -/
import Derived.Test.YtocljgjdllpokaaDoorAs
namespace Go.Proofs.YtocljgjdllpokaaDoor
open Go.RowKit
set_option linter.unusedVariables false

theorem asWorld_cell {c : Int} {t : Addr} {w : World} {old : Value} (h : w.cell? t = some old) : (asWorld c t w).cell? t = some (.int .i64 c) := by
  have htl : t.block < w.heap.size := by
    rcases Nat.lt_or_ge t.block w.heap.size with h1 | h1
    · exact h1
    · simp [World.cell?, Array.getElem?_eq_none h1] at h
  unfold asWorld
  rw [World.cell?_setCell_same (u := old)]
  rw [World.cell?_alloc_lt _ _ t (by simp; omega), World.cell?_alloc_lt _ _ t (by simp; omega), World.cell?_alloc_lt _ _ t (by simp; omega), World.cell?_alloc_lt _ _ t htl]
  exact h
theorem asWorld_below {c : Int} {t : Addr} {w w0 : World} {B : Nat} (hb : Below B w0 w) (hB : B ≤ w.heap.size) (ht : B ≤ t.block) : Below B w0 (asWorld c t w) := by
  unfold asWorld
  exact ((((hb.alloc hB _).alloc (by simp; omega) _).alloc (by simp; omega) _).alloc (by simp; omega) _).setCell ht _

set_option maxHeartbeats 1000000 in
theorem fault_code (c : Int) (w : World) (hH : Handle w) :
    Calls Tryd.prog 30 #[.iface 64 (.agg #[.int .i64 c])] w fun ev w' => ev = .returned (.int .i64 c) ∧ Below w.heap.size w w' := by
  have hb0 : Below w.heap.size w (w.alloc (.cells #[.int .i64 0] 64)) := (Below.refl _ _).alloc (Nat.le_refl _) _
  have H1 := hH.later hH.pos hb0
  have ht : (w.alloc (.cells #[.int .i64 0] 64)).cell? ⟨w.heap.size, 0, none⟩ = some (.int .i64 0) := by simp
  have hf : (w.alloc (.cells #[.int .i64 0] 64)).frozen? ⟨w.heap.size, 0, none⟩ = false := by simp
  have HH : Hid (Handle (w.alloc (.cells #[.int .i64 0] 64))) := H1
  have HT : Hid _ := ht
  have HF : Hid _ := hf
  clear hH H1 ht hf
  go_enter Tryd.func30, Tryd.ntmps30
  go_wp2_with fail
  refine (as_hit c ⟨w.heap.size, 0, none⟩ (.int .i64 0) _ HH.out HT.out HF.out).mono ?_
  rintro e w1 ⟨rfl, rfl⟩
  have hcell := asWorld_cell (c := c) HT.out
  have hbel := asWorld_below (c := c) (t := ⟨w.heap.size, 0, none⟩) hb0 (by simp) (Nat.le_refl _)
  clear HH HT HF hb0
  generalize asWorld c ⟨w.heap.size, 0, none⟩ (w.alloc (.cells #[.int .i64 0] 64)) = w1 at *
  go_wp2
  go_ret
  exact ⟨rfl, hbel⟩
end Go.Proofs.YtocljgjdllpokaaDoor
