/-
  DERIVED. GIVEN WITH THE SEED: THE PROGRAM's TIES (one call each: nine closed facts by the kernel) AND EACH ROW's TIE, after the 31st guide's Derived/Test/Toyas{Tie, Card}.lean. No idea stands in it: it is a product of the set-up. Laid BY PROGRAM, IN A SANDBOX (cutbox-door.mjs). By AI agents, Wed Nov 11 2026. No macro, syntax, notation, axiom, sorry.
-/
import Derived.Test.YtdfglpbappeoaabDoorRows
import Derived.LaidByTextLater
import Derived.SevenTiedAt
import Derived.LaidSub
import Derived.LaidOnce
namespace Go.Proofs.YtdfglpbappeoaabDoor
open Go
set_option maxRecDepth 100000
theorem seatTie1 : Tryd.prog.laidByTextLater [("loop.example/g00279/impl.roundNumbers", Rows.laid_loop_example_g00279_impl_roundNumbers), ("loop.example/g00279/impl.errSize", Rows.laid_loop_example_g00279_impl_errSize), ("loop.example/g00279/impl.errSyntax", Rows.laid_loop_example_g00279_impl_errSyntax), ("loop.example/g00279/impl.errSign", Rows.laid_loop_example_g00279_impl_errSign), ("loop.example/g00279/impl.errVersion", Rows.laid_loop_example_g00279_impl_errVersion), ("loop.example/g00279/impl.errExpired", Rows.laid_loop_example_g00279_impl_errExpired), ("loop.example/g00279/impl.errNone", Rows.laid_loop_example_g00279_impl_errNone), ("loop.example/g00279/impl.errProof", Rows.laid_loop_example_g00279_impl_errProof), ("loop.example/g00279/impl.errFork", Rows.laid_loop_example_g00279_impl_errFork)] [.data, .sentinel, .sentinel, .sentinel, .sentinel, .sentinel, .sentinel, .sentinel, .sentinel] true :=
  Program.laidByTextLater_by_one 166 8 65 (by kernel_rfl) (by kernel_rfl) (by kernel_rfl) (by kernel_rfl) (by kernel_rfl) (by kernel_rfl) (fun _ _ => by kernel_rfl)
theorem noOwnUnsafe : Tryd.pinned.checked.prog.headLifts.contains "ownunsafe" = false := by kernel_rfl
theorem tie : Tryd.prog.laidByTextLater [("loop.example/g00279/impl.roundNumbers", Rows.laid_loop_example_g00279_impl_roundNumbers)] [.data] true :=
  Program.laidByTextLater.sub seatTie1 ["loop.example/g00279/impl.roundNumbers"] (by kernel_rfl) (by kernel_rfl)
theorem fnLeaves_row_tie : Rows.fnLeavesRow.laidByTextAt .later Tryd.pinned [.data] true :=
  OpenClaim.laidByTextAt_later rfl rfl tie noOwnUnsafe
theorem fnOneLeaf_row_tie : Rows.fnOneLeafRow.laidByTextAt .later Tryd.pinned [.data] true :=
  OpenClaim.laidByTextAt_later rfl rfl tie noOwnUnsafe
theorem fnOnePast_row_tie : Rows.fnOnePastRow.laidByTextAt .later Tryd.pinned [.data] true :=
  OpenClaim.laidByTextAt_later rfl rfl tie noOwnUnsafe
theorem tie2 : Tryd.prog.laidByTextLater [("loop.example/g00279/impl.errSize", Rows.laid_loop_example_g00279_impl_errSize), ("loop.example/g00279/impl.errSyntax", Rows.laid_loop_example_g00279_impl_errSyntax), ("loop.example/g00279/impl.errSign", Rows.laid_loop_example_g00279_impl_errSign), ("loop.example/g00279/impl.errVersion", Rows.laid_loop_example_g00279_impl_errVersion), ("loop.example/g00279/impl.errExpired", Rows.laid_loop_example_g00279_impl_errExpired), ("loop.example/g00279/impl.errNone", Rows.laid_loop_example_g00279_impl_errNone), ("loop.example/g00279/impl.errProof", Rows.laid_loop_example_g00279_impl_errProof), ("loop.example/g00279/impl.errFork", Rows.laid_loop_example_g00279_impl_errFork)] [.sentinel, .sentinel, .sentinel, .sentinel, .sentinel, .sentinel, .sentinel, .sentinel] true :=
  Program.laidByTextLater.sub seatTie1 ["loop.example/g00279/impl.errSize", "loop.example/g00279/impl.errSyntax", "loop.example/g00279/impl.errSign", "loop.example/g00279/impl.errVersion", "loop.example/g00279/impl.errExpired", "loop.example/g00279/impl.errNone", "loop.example/g00279/impl.errProof", "loop.example/g00279/impl.errFork"] (by kernel_rfl) (by kernel_rfl)
theorem fnExactFresh_row_tie : Rows.fnExactFreshRow.laidByTextAt .later Tryd.pinned [.sentinel, .sentinel, .sentinel, .sentinel, .sentinel, .sentinel, .sentinel, .sentinel] true :=
  OpenClaim.laidByTextAt_later rfl rfl tie2 noOwnUnsafe
theorem fnFresh_row_tie : Rows.fnFreshRow.laidByTextAt .later Tryd.pinned [.sentinel, .sentinel, .sentinel, .sentinel, .sentinel, .sentinel, .sentinel, .sentinel] true :=
  OpenClaim.laidByTextAt_later rfl rfl tie2 noOwnUnsafe
theorem fnLeavesUpto_row_tie : Rows.fnLeavesUptoRow.laidByTextAt .later Tryd.pinned [.data] true :=
  OpenClaim.laidByTextAt_later rfl rfl tie noOwnUnsafe
theorem fnOneLeafUpto_row_tie : Rows.fnOneLeafUptoRow.laidByTextAt .later Tryd.pinned [.data] true :=
  OpenClaim.laidByTextAt_later rfl rfl tie noOwnUnsafe
theorem fnOnePastUpto_row_tie : Rows.fnOnePastUptoRow.laidByTextAt .later Tryd.pinned [.data] true :=
  OpenClaim.laidByTextAt_later rfl rfl tie noOwnUnsafe
theorem fnExactFreshUpto_row_tie : Rows.fnExactFreshUptoRow.laidByTextAt .later Tryd.pinned [.sentinel, .sentinel, .sentinel, .sentinel, .sentinel, .sentinel, .sentinel, .sentinel] true :=
  OpenClaim.laidByTextAt_later rfl rfl tie2 noOwnUnsafe
theorem fnFreshUpto_row_tie : Rows.fnFreshUptoRow.laidByTextAt .later Tryd.pinned [.sentinel, .sentinel, .sentinel, .sentinel, .sentinel, .sentinel, .sentinel, .sentinel] true :=
  OpenClaim.laidByTextAt_later rfl rfl tie2 noOwnUnsafe
end Go.Proofs.YtdfglpbappeoaabDoor
