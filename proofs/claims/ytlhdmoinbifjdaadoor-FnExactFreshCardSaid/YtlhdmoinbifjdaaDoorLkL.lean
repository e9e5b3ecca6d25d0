/- The laws' own Link turned to the program's; the law FnExactLinkBytes, walked. -/
import Derived.Test.YtlhdmoinbifjdaaDoorPnI
namespace Go.Proofs.YtlhdmoinbifjdaaDoor
open Go.RowKit
set_option linter.unusedVariables false
theorem szA2 (w : World) (o : Obj) : (w.alloc o).heap.size = w.heap.size + 1 := Array.size_push _
theorem Tryd.undLk : ∃ d, Tryd.prog.underlying 26 = some d ∧ d.isRow = true := ⟨_, Tryd.underlying26, rfl⟩
theorem Tryd.sizeLk : (Tryd.prog.info? 26).map (·.size) = some 3 := by kernel_rfl

set_option maxRecDepth 100000 in
set_option maxHeartbeats 1000000 in
theorem toLk_any (v e x : Int) (w : World) :
    Calls Tryd.prog 20 #[.agg #[.int .i64 v, .int .i64 e, .int .i64 x]] w fun r w' => r = .returned (.agg #[.int .i64 v, .int .i64 e, .int .i64 x]) ∧ Below w.heap.size w w' := by
  go_enter Tryd.func20, Tryd.ntmps20
  go_wp2
  refine bodyPost_ret (v := .agg (lkv v e x).toArray) (by simp [results, Tryd.results20, go_sem, lkv]) rfl ⟨rfl, ?_⟩
  exact (((Below.refl _ _).alloc (Nat.le_refl _) _).alloc (by rw [szA2]; omega) _).alloc (by rw [szA2, szA2]; omega) _

end Go.Proofs.YtlhdmoinbifjdaaDoor
