/- LinkRead, on both sides: one answer. -/
import Derived.Test.YtdfglpbappeoaaaSpL
namespace Go.Proofs.Ytdfglpbappeoaaa
open Go.RowKit
set_option linter.unusedVariables false

def lov (v e x c : Int) : List Value := [.int .i64 v, .int .i64 e, .int .i64 x, .int .i64 c]
theorem lov_ne (v e x c : Int) : lov v e x c ≠ [] := by simp [lov]
theorem lov_one (v e x c : Int) : ∀ y ∈ lov v e x c, y.oneCell' = true := by
  intro y hy
  simp [lov] at hy
  rcases hy with h | h | h | h <;> (rw [h]; rfl)
theorem RowV.lo {w : World} {g : Nat} {v e x c : Int} (h : RowV w g (lov v e x c)) : w.cell? ⟨g, 0, none⟩ = some (.int .i64 v) ∧ w.cell? ⟨g, 1, none⟩ = some (.int .i64 e) ∧ w.cell? ⟨g, 2, none⟩ = some (.int .i64 x) ∧ w.cell? ⟨g, 3, none⟩ = some (.int .i64 c) := ⟨h.cell (k := 0) rfl, h.cell (k := 1) rfl, h.cell (k := 2) rfl, h.cell (k := 3) rfl⟩
/- What LinkRead answers. -/
def LkAns (k : Int) (t : ByteArray) (v e x c : Int) : Prop := (20000 < t.size ∧ v = 0 ∧ e = 0 ∧ x = 0 ∧ c = 2) ∨ (t.size ≤ 20000 ∧ LinkOk k t v e x ∧ c = 0) ∨ (t.size ≤ 20000 ∧ (¬ ∃ v e x, LinkOk k t v e x) ∧ v = 0 ∧ e = 0 ∧ x = 0 ∧ c = 3)
theorem linkOk_one {k : Int} {t : ByteArray} {v e x v' e' x' : Int} (h : LinkOk k t v e x) (h' : LinkOk k t v' e' x') : v = v' ∧ e = e' ∧ x = x' := by
  obtain ⟨y, b1, b2, b3, -, -, h1, h2, h3, -, -⟩ := h
  obtain ⟨z, c1, c2, c3, -, -, k1, k2, k3, -, -⟩ := h'
  rw [h1] at k1
  injection k1 with k1
  injection k1 with e1 e2
  subst e1 e2
  rw [h2] at k2
  injection k2 with k2
  injection k2 with e1 e2
  subst e1 e2
  rw [h3] at k3
  injection k3 with k3
  injection k3 with e1 e2
  exact ⟨rfl, rfl, e1⟩
theorem lkAns_one {k : Int} {t : ByteArray} {v e x c v' e' x' c' : Int} (h : LkAns k t v e x c) (h' : LkAns k t v' e' x' c') : v = v' ∧ e = e' ∧ x = x' ∧ c = c' := by
  rcases h with ⟨h0, rfl, rfl, rfl, rfl⟩ | ⟨h0, h1, rfl⟩ | ⟨h0, h1, rfl, rfl, rfl, rfl⟩
  · rcases h' with ⟨_, rfl, rfl, rfl, rfl⟩ | ⟨k0, _, _⟩ | ⟨k0, _⟩
    · exact ⟨rfl, rfl, rfl, rfl⟩
    · omega
    · omega
  · rcases h' with ⟨k0, _⟩ | ⟨k0, k1, rfl⟩ | ⟨k0, k1, _⟩
    · omega
    · obtain ⟨a, b, d⟩ := linkOk_one h1 k1
      exact ⟨a, b, d, rfl⟩
    · exact absurd ⟨_, _, _, h1⟩ k1
  · rcases h' with ⟨k0, _⟩ | ⟨k0, k1, rfl⟩ | ⟨k0, k1, rfl, rfl, rfl, rfl⟩
    · omega
    · exact absurd ⟨_, _, _, k1⟩ h1
    · exact ⟨rfl, rfl, rfl, rfl⟩
set_option maxRecDepth 100000 in
theorem eqLk1 (x y z : Int) (w : World) :
    Calls Try.prog 48 #[.agg #[.int .i64 x, .int .i64 y, .int .i64 z], .agg #[.int .i64 x, .int .i64 y, .int .i64 z]] w fun r w' => r = .returned (.bool true) ∧ Below w.heap.size w w' := by
  have e1 : (x == x) = true := by simp
  have e2 : (y == y) = true := by simp
  have e3 : (z == z) = true := by simp
  go_enter Try.func48, Try.ntmps48
  go_wp2_with (first
    | (with_reducible refine wpList_boxV (w := w) (by with_unfolding_all rfl) 30 (.tmp 0) (by with_unfolding_all rfl) (lkv x y z) (by with_unfolding_all rfl) ?_; intro w1 hA1 hB1 hS1; have z1 : w.heap.size < w1.heap.size := (by omega); clear hS1)
    | (with_reducible refine wpList_boxV (w := w1) (by with_unfolding_all rfl) 30 (.tmp 1) (by with_unfolding_all rfl) (lkv x y z) (by with_unfolding_all rfl) ?_; intro w2 hA2 hB2 hS2; clear hS2; obtain ⟨p0, p1, p2⟩ := (hA1.below hB2 z1).lk; obtain ⟨q0, q1, q2⟩ := hA2.lk))
  go_ret
  exact ⟨rfl, hB1.trans (hB2.mono (by omega))⟩
end Go.Proofs.Ytdfglpbappeoaaa
