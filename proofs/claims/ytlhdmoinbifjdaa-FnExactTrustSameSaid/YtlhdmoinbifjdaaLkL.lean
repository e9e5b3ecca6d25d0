/- The laws' own Link turned to the program's; the law FnExactLinkBytes, walked. -/
import Derived.Test.YtlhdmoinbifjdaaPnI
namespace Go.Proofs.Ytlhdmoinbifjdaa
open Go.RowKit
set_option linter.unusedVariables false
theorem szA2 (w : World) (o : Obj) : (w.alloc o).heap.size = w.heap.size + 1 := Array.size_push _
theorem Try.undLk : ∃ d, Try.prog.underlying 33 = some d ∧ d.isRow = true := ⟨_, Try.underlying33, rfl⟩
theorem Try.sizeLk : (Try.prog.info? 33).map (·.size) = some 3 := by kernel_rfl

set_option maxRecDepth 100000 in
set_option maxHeartbeats 1000000 in
theorem toLk_any (v e x : Int) (w : World) :
    Calls Try.prog 53 #[.agg #[.int .i64 v, .int .i64 e, .int .i64 x]] w fun r w' => r = .returned (.agg #[.int .i64 v, .int .i64 e, .int .i64 x]) ∧ Below w.heap.size w w' := by
  go_enter Try.func53, Try.ntmps53
  go_wp2
  refine bodyPost_ret (v := .agg (lkv v e x).toArray) (by simp [results, Try.results53, go_sem, lkv]) rfl ⟨rfl, ?_⟩
  exact (((Below.refl _ _).alloc (Nat.le_refl _) _).alloc (by rw [szA2]; omega) _).alloc (by rw [szA2, szA2]; omega) _

end Go.Proofs.Ytlhdmoinbifjdaa
