/- The program's face that reads a whole text: what its deferred function does; readWhole of a link. -/
import Derived.Test.YtnlalnkoggkdfaaLnI
import Derived.Defers
import Derived.Recover
namespace Go.Proofs.Ytnlalnkoggkdfaa
open Go.RowKit
set_option linter.unusedVariables false

def i1v (c : Int) : List Value := [.int .i64 c]
theorem i1v_ne (c : Int) : i1v c ≠ [] := by simp [i1v]
set_option maxRecDepth 100000 in
set_option maxHeartbeats 1000000 in
theorem catchP (G6 G7 : Nat) (l : List Value) (hl : l.length = 3) (c : Int) (w : World) (hne : G6 ≠ G7) (h6 : RowV w G6 l) (h7 : RowV w G7 (i1v c)) :
    CallsD Try.prog 148 #[.pointer (some ⟨G6, 0, none⟩), .pointer (some ⟨G7, 0, none⟩)] (.panicking [{ v := faultV, recovered := false }]) w fun e u' w' =>
      e = .returned (.tuple #[]) ∧ u' = .panicking [{ v := faultV, recovered := true }] ∧ RowV w' G6 (lkv 0 0 0) ∧ RowV w' G7 (i1v 3) ∧ ∀ B, B ≤ G6 → B ≤ G7 → Below B w w' := by
  refine callsD_of_wpS Try.func148 rfl fun c₀ cs hu => ?_
  apply wpS_seq
  apply wpS_region
  simp [wpOpsS, go_sem, recoverD, hu, Try.ntmps148, Exit.thenS]
  refine wpS_cond (t := true) (by simp [Act.eval, Array.replicate]) ?_
  simp only [if_true]
  refine wpS_of_wp ?_
  have hact : (#[Value.pointer (some { block := G6, off := 0 }), Value.pointer (some { block := G7, off := 0 })] ++ ((Array.replicate 4 undef).setIfInBounds 1 faultV).setIfInBounds 2 (Value.bool true) : Array Value) = #[.pointer (some ⟨G6, 0, none⟩), .pointer (some ⟨G7, 0, none⟩), undef, faultV, .bool true, undef] := rfl
  rw [hact]
  clear hact
  have z6 := h6.lt (show l ≠ [] from fun e => by rw [e] at hl; cases hl)
  have z7 := h7.lt (i1v_ne _)
  go_wp2_with (first
    | (with_reducible refine wpList_allocV (w := w) (by with_unfolding_all rfl) 49 (by with_unfolding_all rfl) (lkv 0 0 0) Try.infoLkz ?_; intro w1 hA1 hB1 hS1; clear hS1; have R6 := h6.below hB1 z6; have R7 := h7.below hB1 z7)
    | (with_reducible refine wpList_loadV (w := w1) (by with_unfolding_all rfl) 49 (.tmp 2) (by with_unfolding_all rfl) w.heap.size (lkv 0 0 0) (by with_unfolding_all rfl) hA1 Try.undLkI 3 Try.sizeLkI (by with_unfolding_all rfl) ?_)
    | (with_reducible refine wpList_storeH (w := w1) (by with_unfolding_all rfl) 49 (.tmp 0) (.tmp 5) (by with_unfolding_all rfl) G6 l (lkv 0 0 0) (by with_unfolding_all rfl) (by with_unfolding_all rfl) R6 3 Try.sizeLkI hl (by with_unfolding_all rfl) (lkv_one _ _ _) ?_; intro w2 hA2 hB2 hF2 hS2; have Q7 := (Only.set hB2 hF2 hS2).row R7 (i1v_ne _) (Ne.symm hne))
    | (with_reducible refine wpList_cellH (w := w2) (by with_unfolding_all rfl) 2 (.tmp 1) (.const (.int .i64 3)) (by with_unfolding_all rfl) G7 0 (i1v c) (i1v 3) (.int .i64 3) (by with_unfolding_all rfl) (by with_unfolding_all rfl) rfl Try.siz1I Q7 (by simp [i1v]) (by with_unfolding_all rfl) ?_; intro w3 hA3 hB3 hF3 hS3; have Q6 := (Only.set hB3 hF3 hS3).row hA2 (lkv_ne _ _ _) hne; have HB : ∀ B, B ≤ G6 → B ≤ G7 → Below B w w3 := fun B b1 b2 => ((hB1.mono (Nat.le_trans b1 (Nat.le_of_lt z6))).trans (hB2 B b1)).trans (hB3 B b2)))
  simp [bodyPostS, results, Try.results148]
  exact ⟨Q6, hA3, HB⟩
set_option maxRecDepth 100000 in
theorem catchR (x y : Option Addr) (w : World) :
    CallsD Try.prog 148 #[.pointer x, .pointer y] .returning w fun e u' w' => e = .returned (.tuple #[]) ∧ u' = .returning ∧ w = w' := by
  refine callsD_of_wpS Try.func148 rfl fun c₀ cs hu => ?_
  apply wpS_seq
  apply wpS_region
  simp [wpOpsS, go_sem, recoverD, hu, Try.ntmps148, Exit.thenS]
  refine wpS_cond (t := false) (by simp [Act.eval, Array.replicate]) ?_
  simp only [Bool.false_eq_true, if_false]
  refine wpS_of_wp (wp_skip ?_)
  cases c₀
  simp_all [bodyPostS, results, Try.results148]
end Go.Proofs.Ytnlalnkoggkdfaa
