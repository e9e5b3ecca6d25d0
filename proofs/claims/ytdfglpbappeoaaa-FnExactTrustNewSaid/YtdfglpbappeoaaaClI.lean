/- slices.Clone at numbers: a row of the call's own, of the same numbers. -/
import Derived.Test.YtdfglpbappeoaaaJn6
namespace Go.Proofs.Ytdfglpbappeoaaa
open Go.RowKit
set_option linter.unusedVariables false

theorem run_build0 (w : World) : (Instr.buildSlice 93 0 #[]).run Try.prog w = .ok (.slice (some ⟨w.heap.size, 0, none⟩) 0 0) (w.alloc (.cells #[] 2)) := by
  obtain ⟨i0, hi, hz0, hz1, hz2⟩ := info_parts Try.infoNumI
  simp [Instr.buildSlice, run_underlying Try.underlying93, sizeOf, typeInfo, hi, newRow, Instr.fill]
  have e : Array.range 0 = #[] := Array.eq_empty_of_size_eq_zero (by simp)
  rw [e, Array.map_empty]
set_option maxRecDepth 100000 in
theorem run_build0' (a : Act) (w : World) : (Instr.buildSlice 93 0 ((#[] : Array (Nat × Operand)).map fun (i, x) => (i, a.eval x))).run Try.prog w = .ok (.slice (some ⟨w.heap.size, 0, none⟩) 0 0) (w.alloc (.cells #[] 2)) := by
  rw [Array.map_empty]
  exact run_build0 w
set_option maxRecDepth 100000 in
theorem wpList_build0 {ops : Array Oper} {rest : List Oper} {o : Oper} {a : Act} {w : World} {Q : Exit → Act → World → Prop} (hg : o.guard = none) (ho : o.op = .buildSlice 93 0 #[])
    (h : ∀ w', OwnI w' w.heap.size (.slice (some ⟨w.heap.size, 0, none⟩) 0 0) [] → Below w.heap.size w w' → w.heap.size ≤ w'.heap.size → wpList Try.prog ops Q rest (a.put o.dst (.slice (some ⟨w.heap.size, 0, none⟩) 0 0)) w') : wpList Try.prog ops Q (o :: rest) a w := by
  refine wpList_plain hg fun K hK => ?_
  unfold Oper.wp execOp
  simp only [ho, Sem.run_bind, run_build0' a w, Result.andThen_ok]
  exact hK _ _ (h _ (World.ownsRow_lit (base := w.heap.size) w #[] 0 (Nat.le_refl _) (by unfold maxLen; omega) rfl) (below_alloc _ _) (below_alloc _ _).size)
set_option maxRecDepth 100000 in
theorem eqNilI (b of n c : Nat) (w : World) : (binOp .eql 93 (.slice (some ⟨b, of, none⟩) n c) (.slice none 0 0)).run Try.prog w = .ok (.bool false) w := by kernel_rfl
set_option maxRecDepth 100000 in
set_option maxHeartbeats 2000000 in
theorem cloneI (b of n c : Nat) (m : List Int) (w : World) (hm : m.length = n) (hA : AI w (some ⟨b, of, none⟩) m) (hn : n ≤ 1000) :
    Calls Try.prog 98 #[.slice (some ⟨b, of, none⟩) n c] w fun e w' => ∃ v', e = .returned v' ∧ OwnI w' w.heap.size v' m ∧ Below w.heap.size w w' := by
  have HA : Hid (AI w (some ⟨b, of, none⟩) m) := hA
  have HM : Hid (m.length = n) := hm
  have hnil := eqNilI b of n c
  clear hA hm
  go_enter Try.func98, Try.ntmps98
  go_wp2_with (first
    | (with_reducible refine wpList_build0 (w := w) (by with_unfolding_all rfl) (by with_unfolding_all rfl) ?_; intro w1 hO1 hB1 hS1)
    | (with_reducible refine wpList_appendI (W := w1) (by with_unfolding_all rfl) (.tmp 5) (.tmp 6) (by with_unfolding_all rfl) w.heap.size (.slice (some ⟨w.heap.size, 0, none⟩) 0 0) [] b of n c m (by with_unfolding_all rfl) hO1 (by with_unfolding_all rfl) HM.out (HA.out.below hB1) (by simp; omega) hS1 ?_; intro v2 w2 hO2 hG2 hX2))
  go_ret
  exact ⟨_, rfl, hO2, hB1.trans (OwnI.grown hO1 hG2 hS1)⟩
end Go.Proofs.Ytdfglpbappeoaaa
