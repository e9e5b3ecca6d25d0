/- Two TextOut values that are the same are told to be so by the law's own comparison. -/
import Derived.Test.YtocljgjdllpokaaDoorTx
namespace Go.Proofs.YtocljgjdllpokaaDoor
open Go.RowKit
set_option linter.unusedVariables false

theorem eqText (x : ByteArray) (b c : Int) (w : World) :
    Calls Tryd.prog 24 #[.agg #[.string x, .int .i64 b, .int .i64 c], .agg #[.string x, .int .i64 b, .int .i64 c]] w fun e w' => e = .returned (.bool true) ∧ Below w.heap.size w w' := by
  have h2 : (b != b) = false := by simp
  have h3 : (c != c) = false := by simp
  go_enter Tryd.func24, Tryd.ntmps24
  go_wp2
  go_ret
  exact ⟨rfl, ((Below.refl _ _).alloc (Nat.le_refl _) _).alloc (by simp) _⟩
end Go.Proofs.YtocljgjdllpokaaDoor
