/- Sig: what SigRight of both sides answers, for all numbers: the same; the laws' own Sig turned to the program's. -/
import Derived.Test.YtdfglpbappeoaaaSec
import Derived.Test.YtdfglpbappeoaaaRowV
namespace Go.Proofs.Ytdfglpbappeoaaa
open Go.RowKit
set_option linter.unusedVariables false

def svs (k e s : Int) : List Value := [.int .i64 k, .int .i64 e, .int .i64 s]
abbrev SVal (k e s : Int) : Value := .agg (svs k e s).toArray
theorem svs_one (k e s : Int) : ∀ v ∈ svs k e s, v.oneCell' = true := by
  intro v hv
  simp [svs] at hv
  rcases hv with h | h | h <;> (rw [h]; rfl)
theorem svs_ne (k e s : Int) : svs k e s ≠ [] := by simp [svs]
theorem RowV.sig {w : World} {g : Nat} {k e s : Int} (h : RowV w g (svs k e s)) : w.cell? ⟨g, 0, none⟩ = some (.int .i64 k) ∧ w.cell? ⟨g, 1, none⟩ = some (.int .i64 e) ∧ w.cell? ⟨g, 2, none⟩ = some (.int .i64 s) :=
  ⟨h.cell (k := 0) rfl, h.cell (k := 1) rfl, h.cell (k := 2) rfl⟩
theorem Try.infoS : (Try.prog.info? 113).map (fun i => i.zero) = some (some (.agg (svs 0 0 0).toArray)) := by kernel_rfl
theorem Try.undS : ∃ d, Try.prog.underlying 113 = some d ∧ d.isRow = true := ⟨_, Try.underlying113, rfl⟩
theorem Try.sizeS : (Try.prog.info? 113).map (·.size) = some 3 := by kernel_rfl

def expB (n : Int) : Bool := decide (0 ≤ n ∧ n < 1073741789)
theorem expB_yes {n : Int} (h : 0 ≤ n ∧ n < 1073741789) : expB n = true := decide_eq_true h
theorem expB_no {n : Int} (h : ¬ (0 ≤ n ∧ n < 1073741789)) : expB n = false := decide_eq_false h
theorem specExp (n : Int) (w : World) :
    Calls Try.prog 152 #[.int .i64 n] w fun e w' => e = .returned (.bool (expB n)) ∧ w' = w := by
  by_cases h1 : 0 ≤ n
  · by_cases h2 : n < 1073741789
    · have HR : Hid (expB n = true) := expB_yes ⟨h1, h2⟩
      go_enter Try.func152, Try.ntmps152
      go_wp2
      go_ret
      exact ⟨retB HR.out.symm, rfl⟩
    · have HR : Hid (expB n = false) := expB_no (by omega)
      have d2 : decide (n < 1073741789) = false := decide_eq_false h2
      go_enter Try.func152, Try.ntmps152
      go_wp2
      go_ret
      exact ⟨retB HR.out.symm, rfl⟩
  · have HR : Hid (expB n = false) := expB_no (by omega)
    have d1 : decide (0 ≤ n) = false := decide_eq_false h1
    go_enter Try.func152, Try.ntmps152
    go_wp2
    go_ret
    exact ⟨retB HR.out.symm, rfl⟩
theorem implExp (n : Int) (w : World) :
    Calls Try.prog 151 #[.int .i64 n] w fun e w' => e = .returned (.bool (expB n)) ∧ w' = w := by
  by_cases h1 : 0 ≤ n
  · by_cases h2 : n < 1073741789
    · have HR : Hid (expB n = true) := expB_yes ⟨h1, h2⟩
      go_enter Try.func151, Try.ntmps151
      go_wp2
      go_ret
      exact ⟨retB HR.out.symm, rfl⟩
    · have HR : Hid (expB n = false) := expB_no (by omega)
      have d2 : decide (n < 1073741789) = false := decide_eq_false h2
      go_enter Try.func151, Try.ntmps151
      go_wp2
      go_ret
      exact ⟨retB HR.out.symm, rfl⟩
  · have HR : Hid (expB n = false) := expB_no (by omega)
    have d1 : decide (0 ≤ n) = false := decide_eq_false h1
    go_enter Try.func151, Try.ntmps151
    go_wp2
    go_ret
    exact ⟨retB HR.out.symm, rfl⟩

def sigB (k e s : Int) : Bool := grB k && expB e && expB s
set_option maxRecDepth 100000 in
set_option maxHeartbeats 1000000 in
theorem specSigR (k e s : Int) (w : World) (hk : I64 k) :
    Calls Try.prog 129 #[SVal k e s] w fun r w' => r = .returned (.bool (sigB k e s)) ∧ Below w.heap.size w w' := by
  have hG : ∀ w0, Calls Try.prog 136 #[.int .i64 k] w0 fun r w' => r = .returned (.bool (grB k)) ∧ w' = w0 := fun w0 => specGRight k w0 hk
  have hE : ∀ w0, Calls Try.prog 152 #[.int .i64 e] w0 fun r w' => r = .returned (.bool (expB e)) ∧ w' = w0 := fun w0 => specExp e w0
  have hS : ∀ w0, Calls Try.prog 152 #[.int .i64 s] w0 fun r w' => r = .returned (.bool (expB s)) ∧ w' = w0 := fun w0 => specExp s w0
  unfold sigB
  generalize grB k = b1 at *
  generalize expB e = b2 at *
  generalize expB s = b3 at *
  cases b1 <;> cases b2 <;>
  · go_enter Try.func129, Try.ntmps129
    go_wp2_with (first
      | (with_reducible refine wpList_boxV (w := w) (by with_unfolding_all rfl) 113 (.tmp 0) (by with_unfolding_all rfl) (svs k e s) (by with_unfolding_all rfl) ?_; intro w1 hA1 hB1 hS1; obtain ⟨p0, p1, p2⟩ := hA1.sig)
      | (go_at_call 136; refine (hG _).mono ?_; rintro r w2 ⟨rfl, rfl⟩)
      | (go_at_call 152; with_reducible refine (hE _).mono ?_; rintro r w3 ⟨rfl, rfl⟩)
      | (go_at_call 152; with_reducible refine (hS _).mono ?_; rintro r w4 ⟨rfl, rfl⟩))
    go_ret
    exact ⟨by simp, hB1⟩
set_option maxRecDepth 100000 in
set_option maxHeartbeats 1000000 in
theorem implSigR (k e s : Int) (w : World) (hk : I64 k) :
    Calls Try.prog 128 #[SVal k e s] w fun r w' => r = .returned (.bool (sigB k e s)) ∧ Below w.heap.size w w' := by
  have hG : ∀ w0, Calls Try.prog 138 #[.int .i64 k] w0 fun r w' => r = .returned (.bool (grB k)) ∧ w' = w0 := fun w0 => implGRight k w0 hk
  have hE : ∀ w0, Calls Try.prog 151 #[.int .i64 e] w0 fun r w' => r = .returned (.bool (expB e)) ∧ w' = w0 := fun w0 => implExp e w0
  have hS : ∀ w0, Calls Try.prog 151 #[.int .i64 s] w0 fun r w' => r = .returned (.bool (expB s)) ∧ w' = w0 := fun w0 => implExp s w0
  unfold sigB
  generalize grB k = b1 at *
  generalize expB e = b2 at *
  generalize expB s = b3 at *
  cases b1 <;> cases b2 <;>
  · go_enter Try.func128, Try.ntmps128
    go_wp2_with (first
      | (with_reducible refine wpList_boxV (w := w) (by with_unfolding_all rfl) 113 (.tmp 0) (by with_unfolding_all rfl) (svs k e s) (by with_unfolding_all rfl) ?_; intro w1 hA1 hB1 hS1; obtain ⟨p0, p1, p2⟩ := hA1.sig)
      | (go_at_call 138; refine (hG _).mono ?_; rintro r w2 ⟨rfl, rfl⟩)
      | (go_at_call 151; with_reducible refine (hE _).mono ?_; rintro r w3 ⟨rfl, rfl⟩)
      | (go_at_call 151; with_reducible refine (hS _).mono ?_; rintro r w4 ⟨rfl, rfl⟩))
    go_ret
    exact ⟨by simp, hB1⟩
end Go.Proofs.Ytdfglpbappeoaaa
