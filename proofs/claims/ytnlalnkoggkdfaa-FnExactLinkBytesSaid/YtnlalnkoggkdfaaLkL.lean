/- The laws' own Link turned to the program's; the law FnExactLinkBytes, walked. -/
import Derived.Test.YtnlalnkoggkdfaaPnI
namespace Go.Proofs.Ytnlalnkoggkdfaa
open Go.RowKit
set_option linter.unusedVariables false
theorem szA2 (w : World) (o : Obj) : (w.alloc o).heap.size = w.heap.size + 1 := Array.size_push _
theorem Try.undLk : ∃ d, Try.prog.underlying 47 = some d ∧ d.isRow = true := ⟨_, Try.underlying47, rfl⟩
theorem Try.sizeLk : (Try.prog.info? 47).map (·.size) = some 3 := by kernel_rfl

set_option maxRecDepth 100000 in
set_option maxHeartbeats 1000000 in
theorem toLk_any (v e x : Int) (w : World) :
    Calls Try.prog 29 #[.agg #[.int .i64 v, .int .i64 e, .int .i64 x]] w fun r w' => r = .returned (.agg #[.int .i64 v, .int .i64 e, .int .i64 x]) ∧ Below w.heap.size w w' := by
  go_enter Try.func29, Try.ntmps29
  go_wp2
  refine bodyPost_ret (v := .agg (lkv v e x).toArray) (by simp [results, Try.results29, go_sem, lkv]) rfl ⟨rfl, ?_⟩
  exact (((Below.refl _ _).alloc (Nat.le_refl _) _).alloc (by rw [szA2]; omega) _).alloc (by rw [szA2, szA2]; omega) _

set_option maxRecDepth 100000 in
set_option maxHeartbeats 1000000 in
theorem lawLinkBytes (k v e x : Int) (w : World) (hv : I64 v) (he : I64 e) (hx : I64 x) :
    Calls Try.prog 7 #[.int .i64 k, .agg #[.int .i64 v, .int .i64 e, .int .i64 x]] w fun r w' => r = .returned (.bool true) ∧ Below w.heap.size w w' := by
  have hT : ∀ w0, Calls Try.prog 29 #[.agg #[.int .i64 v, .int .i64 e, .int .i64 x]] w0 fun r w' => r = .returned (.agg #[.int .i64 v, .int .i64 e, .int .i64 x]) ∧ Below w0.heap.size w0 w' := fun w0 => toLk_any v e x w0
  have hS : ∀ w0, Calls Try.prog 28 #[.int .i64 k, .agg #[.int .i64 v, .int .i64 e, .int .i64 x]] w0 fun r w' => r = .returned (.string (linkBy k v e x)) ∧ Below w0.heap.size w0 w' := fun w0 => specLinkB k v e x w0 hv he hx
  have hI : ∀ w0, Calls Try.prog 30 #[.int .i64 k, .agg #[.int .i64 v, .int .i64 e, .int .i64 x]] w0 fun r w' => r = .returned (.string (linkBy k v e x)) ∧ Below w0.heap.size w0 w' := fun w0 => implLinkB k v e x w0 hv he hx
  generalize linkBy k v e x = R at *
  have hrr := txt_eq R
  go_enter Try.func7, Try.ntmps7
  go_wp2_with (first
    | (with_reducible refine wpList_boxV (w := w) (by with_unfolding_all rfl) 47 (.tmp 1) (by with_unfolding_all rfl) (lkv v e x) (by with_unfolding_all rfl) ?_; intro w1 hA1 hB1 hS1; clear hS1; have HS1 := KpLk.start hB1 hA1; obtain ⟨p0, p1, p2, _⟩ := KpLk.three HS1)
    | (go_at_call 29; with_reducible refine (hT w1).mono ?_; rintro r w2 ⟨rfl, hB2⟩; have HS2 := KpLk.call HS1 hB2)
    | (go_at_call 28; with_reducible refine (hS w2).mono ?_; rintro r w3 ⟨rfl, hB3⟩; have HS3 := KpLk.call HS2 hB3; obtain ⟨q0, q1, q2, _⟩ := KpLk.three HS3)
    | (go_at_call 29; with_reducible refine (hT w3).mono ?_; rintro r w4 ⟨rfl, hB4⟩; have HS4 := KpLk.call HS3 hB4)
    | (go_at_call 30; with_reducible refine (hI w4).mono ?_; rintro r w5 ⟨rfl, hB5⟩; have HS5 := KpLk.call HS4 hB5))
  go_ret
  exact ⟨rfl, HS5.out.below⟩
end Go.Proofs.Ytnlalnkoggkdfaa
