/- The program's walk up a tree: its two places, halved; met from the left; the place above. -/
import Derived.Test.YtdfglpbappeoaaaGreatDoorSRow
namespace Go.Proofs.YtdfglpbappeoaaaGreatDoor
open Go.RowKit
set_option linter.unusedVariables false

def wvs (f s : Nat) : List Value := [.int .i64 (f : Int), .int .i64 (s : Int)]
theorem wvs_one (f s : Nat) : ∀ v ∈ wvs f s, v.oneCell' = true := by
  intro v hv
  simp [wvs] at hv
  rcases hv with h | h <;> (rw [h]; rfl)
theorem wvs_ne (f s : Nat) : wvs f s ≠ [] := by simp [wvs]
theorem RowV.wlk {w : World} {g : Nat} {f s : Nat} (h : RowV w g (wvs f s)) : w.cell? ⟨g, 0, none⟩ = some (.int .i64 (f : Int)) ∧ w.cell? ⟨g, 1, none⟩ = some (.int .i64 (s : Int)) := ⟨h.cell (k := 0) rfl, h.cell (k := 1) rfl⟩
theorem Tryz.infoW : (Tryz.prog.info? 105).map (fun i => i.zero) = some (some (.agg (wvs 0 0).toArray)) := by kernel_rfl
theorem Tryz.undW : ∃ d, Tryz.prog.underlying 105 = some d ∧ d.isRow = true := ⟨_, Tryz.underlying105, rfl⟩
theorem Tryz.sizeW : (Tryz.prog.info? 105).map (·.size) = some 2 := by kernel_rfl

theorem halveB (f s : Nat) (w : World) (hf : f ≤ 1099511627776) (hs : s ≤ 1099511627776) :
    Calls Tryz.prog 123 #[.int .i64 (f : Int), .int .i64 (s : Int)] w fun e w' => e = .returned (.tuple #[.int .i64 ((f / 2 : Nat) : Int), .int .i64 ((s / 2 : Nat) : Int)]) ∧ w = w' := by
  go_enter Tryz.func123, Tryz.ntmps123
  go_wp2
  go_ret2
  exact ⟨rfl, rfl⟩
set_option maxRecDepth 100000 in
set_option maxHeartbeats 1000000 in
theorem halvedI (f s : Nat) (w : World) (hf : f ≤ 1099511627776) (hs : s ≤ 1099511627776) :
    Calls Tryz.prog 105 #[.agg #[.int .i64 (f : Int), .int .i64 (s : Int)]] w fun e w' => e = .returned (.agg #[.int .i64 ((f / 2 : Nat) : Int), .int .i64 ((s / 2 : Nat) : Int)]) ∧ Below w.heap.size w w' := by
  have hH : ∀ w0, Calls Tryz.prog 123 #[.int .i64 (f : Int), .int .i64 (s : Int)] w0 fun e w' => e = .returned (.tuple #[.int .i64 ((f / 2 : Nat) : Int), .int .i64 ((s / 2 : Nat) : Int)]) ∧ w0 = w' := fun w0 => halveB f s w0 hf hs
  go_enter Tryz.func105, Tryz.ntmps105
  go_wp2_with (first
    | (with_reducible refine wpList_boxV (w := w) (by with_unfolding_all rfl) 105 (.tmp 0) (by with_unfolding_all rfl) (wvs f s) (by with_unfolding_all rfl) ?_; intro w1 hA1 hB1 hS1; have z1 : w.heap.size < w1.heap.size := (by omega); clear hS1)
    | (with_reducible refine wpList_allocV (w := w1) (by with_unfolding_all rfl) 105 (by with_unfolding_all rfl) (wvs 0 0) Tryz.infoW ?_; intro w2 hA2 hB2 hS2; clear hS2; obtain ⟨p0, p1⟩ := (hA1.below hB2 (by omega)).wlk)
    | (go_at_call 123; with_reducible refine (hH _).mono ?_; rintro r w' ⟨rfl, rfl⟩)
    | (with_reducible refine wpList_storeV (w := w2) (by with_unfolding_all rfl) 105 (.tmp 2) (.tmp 15) (by with_unfolding_all rfl) w1.heap.size (wvs 0 0) (wvs (f / 2) (s / 2)) (by with_unfolding_all rfl) (by with_unfolding_all rfl) hA2 2 Tryz.sizeW (by with_unfolding_all rfl) (by with_unfolding_all rfl) (wvs_one _ _) ?_; intro w3 hA3 hB3 hF3 hS3))
  refine bodyPost_ret (results_V (t := 105) rfl _ w1.heap.size _ (by with_unfolding_all rfl) hA3 Tryz.undW 2 Tryz.sizeW rfl) rfl ⟨rfl, (hB1.trans (hB2.mono (by omega))).trans ((hB3 w1.heap.size (Nat.le_refl _)).mono (by omega))⟩
def rgB (f s : Nat) : Bool := f % 2 == 1 || f == s
set_option maxRecDepth 100000 in
set_option maxHeartbeats 1000000 in
theorem metI (f s : Nat) (w : World) (hf : f ≤ 1099511627776) (hs : s ≤ 1099511627776) :
    Calls Tryz.prog 74 #[.agg #[.int .i64 (f : Int), .int .i64 (s : Int)]] w fun e w' => e = .returned (.bool (rgB f s)) ∧ Below w.heap.size w w' := by
  by_cases h1 : f % 2 = 1
  · have HR : Hid (rgB f s = true) := by show _ = _; unfold rgB; rw [beq_iff_eq.2 h1]; rfl
    have d5 : ((f : Int) % 2 == 1) = true := beq_iff_eq.2 (by omega)
    clear h1
    go_enter Tryz.func74, Tryz.ntmps74
    go_wp2_with (first
      | (with_reducible refine wpList_boxV (w := w) (by with_unfolding_all rfl) 105 (.tmp 0) (by with_unfolding_all rfl) (wvs f s) (by with_unfolding_all rfl) ?_; intro w1 hA1 hB1 hS1; obtain ⟨p0, p1⟩ := hA1.wlk))
    go_ret
    exact ⟨retY HR.out.symm, hB1⟩
  have d5 : ((f : Int) % 2 == 1) = false := beq_eq_false_iff_ne.2 (by omega)
  by_cases h2 : f = s
  · have HR : Hid (rgB f s = true) := by show _ = _; unfold rgB; rw [beq_iff_eq.2 h2, Bool.or_true]
    have d6 : ((f : Int) == (s : Int)) = true := beq_iff_eq.2 (by omega)
    clear h1 h2
    go_enter Tryz.func74, Tryz.ntmps74
    go_wp2_with (first
      | (with_reducible refine wpList_boxV (w := w) (by with_unfolding_all rfl) 105 (.tmp 0) (by with_unfolding_all rfl) (wvs f s) (by with_unfolding_all rfl) ?_; intro w1 hA1 hB1 hS1; obtain ⟨p0, p1⟩ := hA1.wlk))
    go_ret
    exact ⟨retY HR.out.symm, hB1⟩
  · have HR : Hid (rgB f s = false) := by show _ = _; unfold rgB; rw [beq_eq_false_iff_ne.2 h1, beq_eq_false_iff_ne.2 h2]; rfl
    have d6 : ((f : Int) == (s : Int)) = false := beq_eq_false_iff_ne.2 (by omega)
    clear h1 h2
    go_enter Tryz.func74, Tryz.ntmps74
    go_wp2_with (first
      | (with_reducible refine wpList_boxV (w := w) (by with_unfolding_all rfl) 105 (.tmp 0) (by with_unfolding_all rfl) (wvs f s) (by with_unfolding_all rfl) ?_; intro w1 hA1 hB1 hS1; obtain ⟨p0, p1⟩ := hA1.wlk))
    go_ret
    exact ⟨retY HR.out.symm, hB1⟩
end Go.Proofs.YtdfglpbappeoaaaGreatDoor
