/- The laws' own Sig turned to the program's; the law FnExactSigRight, walked. -/
import Derived.Test.YtbehflckihmgbaaSigR
namespace Go.Proofs.Ytbehflckihmgbaa
open Go.RowKit
set_option linter.unusedVariables false
theorem szA (w : World) (o : Obj) : (w.alloc o).heap.size = w.heap.size + 1 := Array.size_push _
theorem Try.undLS : ∃ d, Try.prog.underlying 25 = some d ∧ d.isRow = true := ⟨_, Try.underlying25, rfl⟩
theorem Try.sizeLS : (Try.prog.info? 25).map (·.size) = some 3 := by kernel_rfl

set_option maxRecDepth 100000 in
set_option maxHeartbeats 1000000 in
theorem toS_any (k e s : Int) (w : World) :
    Calls Try.prog 11 #[SVal k e s] w fun r w' => r = .returned (SVal k e s) ∧ Below w.heap.size w w' := by
  show Calls Try.prog 11 #[.agg #[.int .i64 k, .int .i64 e, .int .i64 s]] w fun r w' => r = .returned (.agg #[.int .i64 k, .int .i64 e, .int .i64 s]) ∧ Below w.heap.size w w'
  go_enter Try.func11, Try.ntmps11
  go_wp2
  refine bodyPost_ret (v := SVal k e s) (by simp [results, Try.results11, go_sem, SVal, svs]) rfl ⟨rfl, ?_⟩
  exact (((Below.refl _ _).alloc (Nat.le_refl _) _).alloc (by rw [szA]; omega) _).alloc (by rw [szA, szA]; omega) _

set_option maxRecDepth 100000 in
set_option maxHeartbeats 1000000 in
theorem lawSigRight (k e s : Int) (w : World) (hk : I64 k) :
    Calls Try.prog 5 #[SVal k e s] w fun r w' => r = .returned (.bool true) ∧ Below w.heap.size w w' := by
  have hT : ∀ w0, Calls Try.prog 11 #[SVal k e s] w0 fun r w' => r = .returned (SVal k e s) ∧ Below w0.heap.size w0 w' := fun w0 => toS_any k e s w0
  have hS : ∀ w0, Calls Try.prog 10 #[SVal k e s] w0 fun r w' => r = .returned (.bool (sigB k e s)) ∧ Below w0.heap.size w0 w' := fun w0 => specSigR k e s w0 hk
  have hI : ∀ w0, Calls Try.prog 12 #[SVal k e s] w0 fun r w' => r = .returned (.bool (sigB k e s)) ∧ Below w0.heap.size w0 w' := fun w0 => implSigR k e s w0 hk
  generalize sigB k e s = b at *
  have hbn : (b != b) = false := by simp
  go_enter Try.func5, Try.ntmps5
  go_wp2_with (first
    | (with_reducible refine wpList_boxV (w := w) (by with_unfolding_all rfl) 25 (.tmp 0) (by with_unfolding_all rfl) (svs k e s) (by with_unfolding_all rfl) ?_; intro w1 hA1 hB1 hS1)
    | (with_reducible refine wpList_loadV (w := w1) (by with_unfolding_all rfl) 25 (.tmp 1) (by with_unfolding_all rfl) w.heap.size (svs k e s) (by with_unfolding_all rfl) hA1 Try.undLS 3 Try.sizeLS (by with_unfolding_all rfl) ?_)
    | (go_at_call 11; with_reducible refine (hT w1).mono ?_; rintro r w2 ⟨rfl, hB2⟩; have b02 : Below w.heap.size w w2 := hB1.trans (hB2.mono (by omega)); have V2 := hA1.below hB2 (by omega); have z2 := hB2.size)
    | (go_at_call 10; with_reducible refine (hS w2).mono ?_; rintro r w3 ⟨rfl, hB3⟩; have b03 : Below w.heap.size w w3 := b02.trans (hB3.mono (by omega)); have V3 := V2.below hB3 (by omega); have z3 := hB3.size)
    | (with_reducible refine wpList_loadV (w := w3) (by with_unfolding_all rfl) 25 (.tmp 1) (by with_unfolding_all rfl) w.heap.size (svs k e s) (by with_unfolding_all rfl) V3 Try.undLS 3 Try.sizeLS (by with_unfolding_all rfl) ?_)
    | (go_at_call 11; with_reducible refine (hT w3).mono ?_; rintro r w4 ⟨rfl, hB4⟩; have b04 : Below w.heap.size w w4 := b03.trans (hB4.mono (by omega)); have z4 := hB4.size)
    | (go_at_call 12; with_reducible refine (hI w4).mono ?_; rintro r w5 ⟨rfl, hB5⟩; have b05 : Below w.heap.size w w5 := b04.trans (hB5.mono (by omega))))
  go_ret
  exact ⟨rfl, b05⟩
end Go.Proofs.Ytbehflckihmgbaa
