/- Proofs with a code beside them: what the laws' helpers eqProofOut, markProofOut, heldProofOut answer. -/
import Derived.Test.YtoaoaagfnkpkdaaDoorMrkS
namespace Go.Proofs.YtoaoaagfnkpkdaaDoor
open Go.RowKit
set_option linter.unusedVariables false

def pvl (v : Value) (z : Int) : List Value := [v, .int .i64 z]
theorem RowV.pvl {w : World} {g : Nat} {v : Value} {z : Int} (h : RowV w g (pvl v z)) : w.cell? ⟨g, 0, none⟩ = some v ∧ w.cell? ⟨g, 1, none⟩ = some (.int .i64 z) := ⟨h.cell rfl, h.cell rfl⟩
set_option maxRecDepth 100000 in
set_option maxHeartbeats 1000000 in
theorem eqP_any (a1 a2 : Option Addr) (c1 c2 n : Nat) (z : Int) (l : List ByteArray) (w : World) (hn : l.length = n) (h1 : SA w a1 l) (h2 : SA w a2 l) (hb : n ≤ 1000000000) :
    Calls Tryd.prog 38 #[.agg #[.slice a1 n c1, .int .i64 z], .agg #[.slice a2 n c2, .int .i64 z]] w fun e w' => e = .returned (.bool true) ∧ Below w.heap.size w w' := by
  have HE : Hid (∀ w0, Below w.heap.size w w0 → Calls Tryd.prog 36 #[.slice a1 n c1, .slice a2 n c2] w0 fun e w' => e = .returned (.bool true) ∧ Below w0.heap.size w0 w') := fun w0 hB => by
    have := eqS_any a1 a2 c1 c2 l l w0 (h1.below hB) (h2.below hB) (by omega) (by omega)
    rw [hn, decide_eq_true rfl] at this
    exact this
  have hz : (z != z) = false := by simp
  clear h1 h2 hn
  go_enter Tryd.func38, Tryd.ntmps38
  go_wp2_with (first
    | ((with_reducible refine wpList_boxV (w := w) (by with_unfolding_all rfl) 29 (.tmp 0) (by with_unfolding_all rfl) (pvl (.slice a1 n c1) z) (by with_unfolding_all rfl) ?_); intro w1 hA1 hB1 hS1)
    | ((with_reducible refine wpList_boxV (w := w1) (by with_unfolding_all rfl) 29 (.tmp 1) (by with_unfolding_all rfl) (pvl (.slice a2 n c2) z) (by with_unfolding_all rfl) ?_); intro w2 hA2 hB2 hS2; rw [hS1] at hA2 hB2 hS2; obtain ⟨p0, p1⟩ := (hA1.below hB2 (by omega)).pvl; obtain ⟨q0, q1⟩ := hA2.pvl; have HB2 : Hid (Below w.heap.size w w2) := hB1.trans (hB2.mono (by omega)); have HA1 : Hid (RowV w2 w.heap.size (pvl (.slice a1 n c1) z)) := hA1.below hB2 (by omega); have HA2 : Hid (RowV w2 (w.heap.size + 1) (pvl (.slice a2 n c2) z)) := hA2; clear hA1 hA2 hB1 hB2)
    | (go_at_call 36; refine (HE.out w2 HB2.out).mono ?_; rintro e w3 ⟨rfl, hB3⟩; obtain ⟨r0, r1⟩ := (HA1.out.below hB3 (by omega)).pvl; obtain ⟨s0, s1⟩ := (HA2.out.below hB3 (by omega)).pvl; clear p0 p1 q0 q1))
  go_ret
  exact ⟨rfl, HB2.out.trans (hB3.mono (by omega))⟩
set_option maxRecDepth 100000 in
set_option maxHeartbeats 1000000 in
theorem markP_row (g c n k0 : Nat) (z : Int) (l : List ByteArray) (w : World) (hn : l.length = n) (h : RowV w g (svl l)) (hg : g < w.heap.size) (hb : n ≤ 1048576) (h1 : 1 ≤ k0) (h2 : k0 ≤ 1000000) :
    Calls Tryd.prog 40 #[.agg #[.slice (some ⟨g, 0, none⟩) n c, .int .i64 z], .int .i64 (k0 : Int)] w fun e w' => e = .returned (.int .i64 ((k0 + n : Nat) : Int)) ∧ RowV w' g (svl (mks k0 n)) ∧ But g w w' := by
  have HE : Hid (∀ w0, Below w.heap.size w w0 → Calls Tryd.prog 39 #[.slice (some ⟨g, 0, none⟩) n c, .int .i64 (k0 : Int)] w0 fun e w' => e = .returned (.int .i64 ((k0 + n : Nat) : Int)) ∧ RowV w' g (svl (mks k0 n)) ∧ But g w0 w') := fun w0 hB => markS_row g c n k0 l w0 hn (h.below hB hg) (Nat.lt_of_lt_of_le hg hB.size) hb h1 h2
  clear h hn
  go_enter Tryd.func40, Tryd.ntmps40
  go_wp2_with (first
    | ((with_reducible refine wpList_boxV (w := w) (by with_unfolding_all rfl) 29 (.tmp 0) (by with_unfolding_all rfl) (pvl (.slice (some ⟨g, 0, none⟩) n c) z) (by with_unfolding_all rfl) ?_); intro w1 hA1 hB1 hS1; obtain ⟨p0, p1⟩ := hA1.pvl)
    | (go_at_call 39; refine (HE.out w1 hB1).mono ?_; rintro e w3 ⟨rfl, hR3, hB3⟩))
  go_ret
  exact ⟨rfl, hR3, (But.of hB1).trans hB3⟩
set_option maxRecDepth 100000 in
set_option maxHeartbeats 1000000 in
theorem markP_nil (a : Option Addr) (c k0 : Nat) (z : Int) (w : World) (h2 : k0 ≤ 1000000) :
    Calls Tryd.prog 40 #[.agg #[.slice a 0 c, .int .i64 z], .int .i64 (k0 : Int)] w fun e w' => e = .returned (.int .i64 (k0 : Int)) ∧ Below w.heap.size w w' := by
  have HE : ∀ w0, Calls Tryd.prog 39 #[.slice a 0 c, .int .i64 (k0 : Int)] w0 fun e w' => e = .returned (.int .i64 (k0 : Int)) ∧ w0 = w' := fun w0 => markS_nil a c k0 w0 h2
  go_enter Tryd.func40, Tryd.ntmps40
  go_wp2_with (first
    | ((with_reducible refine wpList_boxV (w := w) (by with_unfolding_all rfl) 29 (.tmp 0) (by with_unfolding_all rfl) (pvl (.slice a 0 c) z) (by with_unfolding_all rfl) ?_); intro w1 hA1 hB1 hS1; obtain ⟨p0, p1⟩ := hA1.pvl)
    | (go_at_call 39; refine (HE w1).mono ?_; rintro e w3 ⟨rfl, rfl⟩))
  go_ret
  exact ⟨rfl, hB1⟩
set_option maxRecDepth 100000 in
set_option maxHeartbeats 1000000 in
theorem heldP_any (a : Option Addr) (c n k0 : Nat) (z : Int) (w : World) (h : SA w a (mks k0 n)) (hb : n ≤ 1048576) (h1 : 1 ≤ k0) (h2 : k0 ≤ 1000000) :
    Calls Tryd.prog 41 #[.agg #[.slice a n c, .int .i64 z], .int .i64 (k0 : Int)] w fun e w' => e = .returned (.int .i64 ((k0 + n : Nat) : Int)) ∧ Below w.heap.size w w' := by
  have HE : Hid (∀ w0, Below w.heap.size w w0 → Calls Tryd.prog 74 #[.slice a n c, .int .i64 (k0 : Int)] w0 fun e w' => e = .returned (.int .i64 ((k0 + n : Nat) : Int)) ∧ Below w0.heap.size w0 w') := fun w0 hB => heldS_any a c n k0 w0 (h.below hB) hb h1 h2
  clear h
  have hz : ¬ (((k0 + n : Nat) : Int) < 0) := by omega
  generalize k0 + n = K at *
  go_enter Tryd.func41, Tryd.ntmps41
  go_wp2_with (first
    | ((with_reducible refine wpList_boxV (w := w) (by with_unfolding_all rfl) 29 (.tmp 0) (by with_unfolding_all rfl) (pvl (.slice a n c) z) (by with_unfolding_all rfl) ?_); intro w1 hA1 hB1 hS1; obtain ⟨p0, p1⟩ := hA1.pvl)
    | (go_at_call 74; refine (HE.out w1 hB1).mono ?_; rintro e w3 ⟨rfl, hB3⟩))
  go_ret
  exact ⟨rfl, hB1.trans (hB3.mono (by omega))⟩
end Go.Proofs.YtoaoaagfnkpkdaaDoor
