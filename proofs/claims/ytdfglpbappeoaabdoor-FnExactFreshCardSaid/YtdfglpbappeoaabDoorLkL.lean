/- The laws' own Link turned to the program's; the law FnExactLinkBytes, walked. -/
import Derived.Test.YtdfglpbappeoaabDoorPnI
namespace Go.Proofs.YtdfglpbappeoaabDoor
open Go.RowKit
set_option linter.unusedVariables false
theorem szA2 (w : World) (o : Obj) : (w.alloc o).heap.size = w.heap.size + 1 := Array.size_push _
theorem Tryd.undLk : ∃ d, Tryd.prog.underlying 47 = some d ∧ d.isRow = true := ⟨_, Tryd.underlying47, rfl⟩
theorem Tryd.sizeLk : (Tryd.prog.info? 47).map (·.size) = some 3 := by kernel_rfl

set_option maxRecDepth 100000 in
set_option maxHeartbeats 1000000 in
theorem toLk_any (v e x : Int) (w : World) :
    Calls Tryd.prog 72 #[.agg #[.int .i64 v, .int .i64 e, .int .i64 x]] w fun r w' => r = .returned (.agg #[.int .i64 v, .int .i64 e, .int .i64 x]) ∧ Below w.heap.size w w' := by
  go_enter Tryd.func72, Tryd.ntmps72
  go_wp2
  refine bodyPost_ret (v := .agg (lkv v e x).toArray) (by simp [results, Tryd.results72, go_sem, lkv]) rfl ⟨rfl, ?_⟩
  exact (((Below.refl _ _).alloc (Nat.le_refl _) _).alloc (by rw [szA2]; omega) _).alloc (by rw [szA2, szA2]; omega) _

end Go.Proofs.YtdfglpbappeoaabDoor
