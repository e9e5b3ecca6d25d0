/- Heads: right ones, on both sides; the laws' helpers of heads; the law FnExactHeadRight, walked. -/
import Derived.Test.YtlhdmoinbifjdaaMetI
import Derived.Test.YtlhdmoinbifjdaaBld
namespace Go.Proofs.Ytlhdmoinbifjdaa
open Go.RowKit
set_option linter.unusedVariables false

theorem hdSized (t : ByteArray) (w : World) (hm : t.size ≤ maxLen) :
    Calls Try.prog 45 #[.string t] w fun e w' => e = .returned (.bool (decide (t.size = 32))) ∧ w = w' := by
  unfold maxLen at hm
  by_cases h : t.size = 32
  · rw [decide_eq_true h]
    have d1 : ((t.size : Int) == 32) = true := beq_iff_eq.2 (by omega)
    go_enter Try.func45, Try.ntmps45
    go_wp2
    go_ret
    exact ⟨rfl, rfl⟩
  · rw [decide_eq_false h]
    have d1 : ((t.size : Int) == 32) = false := beq_eq_false_iff_ne.2 (by omega)
    go_enter Try.func45, Try.ntmps45
    go_wp2
    go_ret
    exact ⟨rfl, rfl⟩
theorem hdHash (t : ByteArray) (w : World) (hm : t.size ≤ maxLen) :
    Calls Try.prog 43 #[.string t] w fun e w' => e = .returned (.bool (decide (t.size = 32))) ∧ w = w' := by
  unfold maxLen at hm
  by_cases h : t.size = 32
  · rw [decide_eq_true h]
    have d1 : ((t.size : Int) == 32) = true := beq_iff_eq.2 (by omega)
    go_enter Try.func43, Try.ntmps43
    go_wp2
    go_ret
    exact ⟨rfl, rfl⟩
  · rw [decide_eq_false h]
    have d1 : ((t.size : Int) == 32) = false := beq_eq_false_iff_ne.2 (by omega)
    go_enter Try.func43, Try.ntmps43
    go_wp2
    go_ret
    exact ⟨rfl, rfl⟩
def hdv (s : Int) (r : ByteArray) (t : Int) : List Value := [.int .i64 s, .string r, .int .i64 t]
theorem RowV.hd {w : World} {g : Nat} {s : Int} {r : ByteArray} {t : Int} (h : RowV w g (hdv s r t)) : w.cell? ⟨g, 0, none⟩ = some (.int .i64 s) ∧ w.cell? ⟨g, 1, none⟩ = some (.string r) ∧ w.cell? ⟨g, 2, none⟩ = some (.int .i64 t) := ⟨h.cell (k := 0) rfl, h.cell (k := 1) rfl, h.cell (k := 2) rfl⟩
theorem hdv_ne (s : Int) (r : ByteArray) (t : Int) : hdv s r t ≠ [] := by simp [hdv]
def headB (s : Int) (r : ByteArray) (t : Int) : Bool := (decide (1 ≤ s) && decide (s ≤ 1000000)) && (decide (r.size = 32) && timB t)
set_option maxRecDepth 100000 in
set_option maxHeartbeats 2000000 in
theorem implHead (s : Int) (r : ByteArray) (t : Int) (w : World) (hr : r.size ≤ maxLen) : Calls Try.prog 13 #[.agg #[.int .i64 s, .string r, .int .i64 t]] w fun e w' => e = .returned (.bool (headB s r t)) ∧ Below w.heap.size w w' := by
  have hH : ∀ w0, Calls Try.prog 45 #[.string r] w0 fun e w' => e = .returned (.bool (decide (r.size = 32))) ∧ w0 = w' := fun w0 => hdSized r w0 hr
  have hT : ∀ w0, Calls Try.prog 46 #[.int .i64 t] w0 fun r w' => r = .returned (.bool (timB t)) ∧ w0 = w' := fun w0 => implTim t w0
  unfold headB
  obtain ⟨b1, d1⟩ : ∃ b, decide (1 ≤ s) = b := ⟨_, rfl⟩
  obtain ⟨b2, d2⟩ : ∃ b, decide (s ≤ 1000000) = b := ⟨_, rfl⟩
  rw [d1, d2]
  generalize decide (r.size = 32) = b3 at *
  generalize timB t = b4 at *
  cases b1 <;> cases b2 <;> cases b3 <;> cases b4
  all_goals
    go_enter Try.func13, Try.ntmps13
    go_wp2_with (first
      | (with_reducible refine wpList_boxV (w := w) (by with_unfolding_all rfl) 26 (.tmp 0) (by with_unfolding_all rfl) (hdv s r t) (by with_unfolding_all rfl) ?_; intro w1 hA1 hB1 hS1; obtain ⟨p0, p1, p2⟩ := hA1.hd; clear hS1)
      | (go_at_call 45; with_reducible refine (hH _).mono ?_; rintro r w' ⟨rfl, rfl⟩)
      | (go_at_call 46; with_reducible refine (hT _).mono ?_; rintro r w' ⟨rfl, rfl⟩))
    go_ret
    exact ⟨rfl, hB1⟩
set_option maxRecDepth 100000 in
set_option maxHeartbeats 2000000 in
theorem specHead (s : Int) (r : ByteArray) (t : Int) (w : World) (hr : r.size ≤ maxLen) : Calls Try.prog 11 #[.agg #[.int .i64 s, .string r, .int .i64 t]] w fun e w' => e = .returned (.bool (headB s r t)) ∧ Below w.heap.size w w' := by
  have hH : ∀ w0, Calls Try.prog 43 #[.string r] w0 fun e w' => e = .returned (.bool (decide (r.size = 32))) ∧ w0 = w' := fun w0 => hdHash r w0 hr
  have hT : ∀ w0, Calls Try.prog 44 #[.int .i64 t] w0 fun r w' => r = .returned (.bool (timB t)) ∧ w0 = w' := fun w0 => specTim t w0
  unfold headB
  obtain ⟨b1, d1⟩ : ∃ b, decide (1 ≤ s) = b := ⟨_, rfl⟩
  obtain ⟨b2, d2⟩ : ∃ b, decide (s ≤ 1000000) = b := ⟨_, rfl⟩
  rw [d1, d2]
  generalize decide (r.size = 32) = b3 at *
  generalize timB t = b4 at *
  cases b1 <;> cases b2 <;> cases b3 <;> cases b4
  all_goals
    go_enter Try.func11, Try.ntmps11
    go_wp2_with (first
      | (with_reducible refine wpList_boxV (w := w) (by with_unfolding_all rfl) 26 (.tmp 0) (by with_unfolding_all rfl) (hdv s r t) (by with_unfolding_all rfl) ?_; intro w1 hA1 hB1 hS1; obtain ⟨p0, p1, p2⟩ := hA1.hd; clear hS1)
      | (go_at_call 43; with_reducible refine (hH _).mono ?_; rintro r w' ⟨rfl, rfl⟩)
      | (go_at_call 44; with_reducible refine (hT _).mono ?_; rintro r w' ⟨rfl, rfl⟩))
    go_ret
    exact ⟨rfl, hB1⟩
theorem szHd1 (w : World) (o : Obj) : (w.alloc o).heap.size = w.heap.size + 1 := Array.size_push _
set_option maxRecDepth 100000 in
set_option maxHeartbeats 1000000 in
theorem toHd_any (s : Int) (r : ByteArray) (t : Int) (w : World) :
    Calls Try.prog 12 #[.agg #[.int .i64 s, .string r, .int .i64 t]] w fun e w' => e = .returned (.agg #[.int .i64 s, .string r, .int .i64 t]) ∧ Below w.heap.size w w' := by
  go_enter Try.func12, Try.ntmps12
  go_wp2
  refine bodyPost_ret (v := .agg (hdv s r t).toArray) (by simp [results, Try.results12, go_sem, hdv]) rfl ⟨rfl, ?_⟩
  exact (((Below.refl _ _).alloc (Nat.le_refl _) _).alloc (by rw [szHd1]; omega) _).alloc (by rw [szHd1, szHd1]; omega) _
set_option maxRecDepth 100000 in
theorem szHd_any (s : Int) (r : ByteArray) (t q : Int) (w : World) (hr : r.size ≤ maxLen) (h0 : 0 ≤ q) (hq : q ≤ 1048576) :
    Calls Try.prog 10 #[.agg #[.int .i64 s, .string r, .int .i64 t], .int .i64 q] w fun e w' => (∃ z : Int, e = .returned (.int .i64 z) ∧ z ≤ 1048576 ∧ -1 ≤ z) ∧ Below w.heap.size w w' := by
  unfold maxLen at hr
  by_cases c1 : q - (r.size : Int) < 0
  · go_enter Try.func10, Try.ntmps10
    go_wp2_with (first
      | (with_reducible refine wpList_boxV (w := w) (by with_unfolding_all rfl) 23 (.tmp 0) (by with_unfolding_all rfl) (hdv s r t) (by with_unfolding_all rfl) ?_; intro w1 hA1 hB1 hS1; obtain ⟨p0, p1, p2⟩ := hA1.hd; clear hS1))
    go_ret
    exact ⟨⟨_, rfl, by omega, by omega⟩, hB1⟩
  · have c2 : 0 ≤ q - (r.size : Int) := by omega
    go_enter Try.func10, Try.ntmps10
    go_wp2_with (first
      | (with_reducible refine wpList_boxV (w := w) (by with_unfolding_all rfl) 23 (.tmp 0) (by with_unfolding_all rfl) (hdv s r t) (by with_unfolding_all rfl) ?_; intro w1 hA1 hB1 hS1; obtain ⟨p0, p1, p2⟩ := hA1.hd; clear hS1))
    go_ret
    exact ⟨⟨_, rfl, by omega, by omega⟩, hB1⟩
theorem eqHd_any (x z : Int) (y : ByteArray) (w : World) :
    Calls Try.prog 61 #[.agg #[.int .i64 x, .string y, .int .i64 z], .agg #[.int .i64 x, .string y, .int .i64 z]] w fun r w' => r = .returned (.bool true) ∧ Below w.heap.size w w' := by
  have e1 : (x == x) = true := by simp
  have e2 := txt_eq y
  have e3 : (z == z) = true := by simp
  go_enter Try.func61, Try.ntmps61
  go_wp2_with (first
    | (with_reducible refine wpList_boxV (w := w) (by with_unfolding_all rfl) 26 (.tmp 0) (by with_unfolding_all rfl) (hdv x y z) (by with_unfolding_all rfl) ?_; intro w1 hA1 hB1 hS1; have z1 : w.heap.size < w1.heap.size := (by omega); clear hS1)
    | (with_reducible refine wpList_boxV (w := w1) (by with_unfolding_all rfl) 26 (.tmp 1) (by with_unfolding_all rfl) (hdv x y z) (by with_unfolding_all rfl) ?_; intro w2 hA2 hB2 hS2; clear hS2; obtain ⟨p0, p1, p2⟩ := (hA1.below hB2 z1).hd; obtain ⟨q0, q1, q2⟩ := hA2.hd))
  go_ret
  exact ⟨rfl, hB1.trans (hB2.mono (by omega))⟩
structure KpHd (w : World) (g : Nat) (s : Int) (r : ByteArray) (t : Int) (w' : World) : Prop where
  below : Below w.heap.size w w'
  row : RowV w' g (hdv s r t)
theorem KpHd.start {w w' : World} {g : Nat} {s : Int} {r : ByteArray} {t : Int} (h1 : Below w.heap.size w w') (h2 : RowV w' g (hdv s r t)) : Hid (KpHd w g s r t w') := ⟨h1, h2⟩
theorem KpHd.call {w w' w2 : World} {g : Nat} {s : Int} {r : ByteArray} {t : Int} (h : Hid (KpHd w g s r t w')) (hb : Below w'.heap.size w' w2) : Hid (KpHd w g s r t w2) := ⟨h.out.below.trans (hb.mono h.out.below.size), h.out.row.below hb (h.out.row.lt (hdv_ne _ _ _))⟩
theorem KpHd.three {w w' : World} {g : Nat} {s : Int} {r : ByteArray} {t : Int} (h : Hid (KpHd w g s r t w')) : w'.cell? ⟨g, 0, none⟩ = some (.int .i64 s) ∧ w'.cell? ⟨g, 1, none⟩ = some (.string r) ∧ w'.cell? ⟨g, 2, none⟩ = some (.int .i64 t) ∧ Hid (KpHd w g s r t w') := ⟨h.out.row.hd.1, h.out.row.hd.2.1, h.out.row.hd.2.2, h⟩
set_option maxRecDepth 100000 in
set_option maxHeartbeats 1000000 in
theorem lawHeadRight (s : Int) (r : ByteArray) (t : Int) (w : World) (hr : r.size ≤ maxLen) :
    Calls Try.prog 3 #[.agg #[.int .i64 s, .string r, .int .i64 t]] w fun e w' => e = .returned (.bool true) ∧ Below w.heap.size w w' := by
  have hZ : ∀ w0, Calls Try.prog 10 #[.agg #[.int .i64 s, .string r, .int .i64 t], .int .i64 1048576] w0 fun e w' => (∃ z : Int, e = .returned (.int .i64 z) ∧ z ≤ 1048576 ∧ -1 ≤ z) ∧ Below w0.heap.size w0 w' := fun w0 => szHd_any s r t _ w0 hr (by omega) (by omega)
  have hT : ∀ w0, Calls Try.prog 12 #[.agg #[.int .i64 s, .string r, .int .i64 t]] w0 fun e w' => e = .returned (.agg #[.int .i64 s, .string r, .int .i64 t]) ∧ Below w0.heap.size w0 w' := fun w0 => toHd_any s r t w0
  have hS : ∀ w0, Calls Try.prog 11 #[.agg #[.int .i64 s, .string r, .int .i64 t]] w0 fun e w' => e = .returned (.bool (headB s r t)) ∧ Below w0.heap.size w0 w' := fun w0 => specHead s r t w0 hr
  have hI : ∀ w0, Calls Try.prog 13 #[.agg #[.int .i64 s, .string r, .int .i64 t]] w0 fun e w' => e = .returned (.bool (headB s r t)) ∧ Below w0.heap.size w0 w' := fun w0 => implHead s r t w0 hr
  generalize headB s r t = R at *
  have hrr : (R != R) = false := by simp
  clear hr
  go_enter Try.func3, Try.ntmps3
  go_wp2_with (first
    | (with_reducible refine wpList_boxV (w := w) (by with_unfolding_all rfl) 23 (.tmp 0) (by with_unfolding_all rfl) (hdv s r t) (by with_unfolding_all rfl) ?_; intro w1 hA1 hB1 hS1; clear hS1; have HS1 := KpHd.start hB1 hA1; obtain ⟨p0, p1, p2, _⟩ := KpHd.three HS1))
  refine (hZ _).mono ?_
  rintro e w2 ⟨⟨z, rfl, _, _⟩, hB2⟩
  have HS2 := KpHd.call HS1 hB2
  obtain ⟨q0, q1, q2, _⟩ := KpHd.three HS2
  clear p0 p1 p2 HS1 hA1 hB1 hB2 hZ
  by_cases hneg : z < 0
  · go_wp2
    go_ret
    exact ⟨rfl, HS2.out.below⟩
  go_wp2_with (first
    | (go_at_call 12; with_reducible refine (hT w2).mono ?_; rintro e w3 ⟨rfl, hB3⟩; have HS3 := KpHd.call HS2 hB3)
    | (go_at_call 11; with_reducible refine (hS w3).mono ?_; rintro e w4 ⟨rfl, hB4⟩; have HS4 := KpHd.call HS3 hB4; obtain ⟨p0, p1, p2, _⟩ := KpHd.three HS4)
    | (go_at_call 12; with_reducible refine (hT w4).mono ?_; rintro e w5 ⟨rfl, hB5⟩; have HS5 := KpHd.call HS4 hB5)
    | (go_at_call 13; with_reducible refine (hI w5).mono ?_; rintro e w6 ⟨rfl, hB6⟩; have HS6 := KpHd.call HS5 hB6))
  go_ret
  exact ⟨rfl, HS6.out.below⟩
end Go.Proofs.Ytlhdmoinbifjdaa
