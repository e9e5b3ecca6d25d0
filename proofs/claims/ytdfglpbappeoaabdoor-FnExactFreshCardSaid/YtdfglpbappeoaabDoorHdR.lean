/- Heads: right ones, on both sides; the laws' helpers of heads; the law FnExactHeadRight, walked. -/
import Derived.Test.YtdfglpbappeoaabDoorMetI
import Derived.Test.YtdfglpbappeoaabDoorBld
namespace Go.Proofs.YtdfglpbappeoaabDoor
open Go.RowKit
set_option linter.unusedVariables false

theorem hdSized (t : ByteArray) (w : World) (hm : t.size ≤ maxLen) :
    Calls Tryd.prog 45 #[.string t] w fun e w' => e = .returned (.bool (decide (t.size = 32))) ∧ w = w' := by
  unfold maxLen at hm
  by_cases h : t.size = 32
  · rw [decide_eq_true h]
    have d1 : ((t.size : Int) == 32) = true := beq_iff_eq.2 (by omega)
    go_enter Tryd.func45, Tryd.ntmps45
    go_wp2
    go_ret
    exact ⟨rfl, rfl⟩
  · rw [decide_eq_false h]
    have d1 : ((t.size : Int) == 32) = false := beq_eq_false_iff_ne.2 (by omega)
    go_enter Tryd.func45, Tryd.ntmps45
    go_wp2
    go_ret
    exact ⟨rfl, rfl⟩
theorem hdHash (t : ByteArray) (w : World) (hm : t.size ≤ maxLen) :
    Calls Tryd.prog 59 #[.string t] w fun e w' => e = .returned (.bool (decide (t.size = 32))) ∧ w = w' := by
  unfold maxLen at hm
  by_cases h : t.size = 32
  · rw [decide_eq_true h]
    have d1 : ((t.size : Int) == 32) = true := beq_iff_eq.2 (by omega)
    go_enter Tryd.func59, Tryd.ntmps59
    go_wp2
    go_ret
    exact ⟨rfl, rfl⟩
  · rw [decide_eq_false h]
    have d1 : ((t.size : Int) == 32) = false := beq_eq_false_iff_ne.2 (by omega)
    go_enter Tryd.func59, Tryd.ntmps59
    go_wp2
    go_ret
    exact ⟨rfl, rfl⟩
def hdv (s : Int) (r : ByteArray) (t : Int) : List Value := [.int .i64 s, .string r, .int .i64 t]
theorem RowV.hd {w : World} {g : Nat} {s : Int} {r : ByteArray} {t : Int} (h : RowV w g (hdv s r t)) : w.cell? ⟨g, 0, none⟩ = some (.int .i64 s) ∧ w.cell? ⟨g, 1, none⟩ = some (.string r) ∧ w.cell? ⟨g, 2, none⟩ = some (.int .i64 t) := ⟨h.cell (k := 0) rfl, h.cell (k := 1) rfl, h.cell (k := 2) rfl⟩
theorem hdv_ne (s : Int) (r : ByteArray) (t : Int) : hdv s r t ≠ [] := by simp [hdv]
def headB (s : Int) (r : ByteArray) (t : Int) : Bool := (decide (1 ≤ s) && decide (s ≤ 1000000)) && (decide (r.size = 32) && timB t)
set_option maxRecDepth 100000 in
set_option maxHeartbeats 2000000 in
theorem implHead (s : Int) (r : ByteArray) (t : Int) (w : World) (hr : r.size ≤ maxLen) : Calls Tryd.prog 115 #[.agg #[.int .i64 s, .string r, .int .i64 t]] w fun e w' => e = .returned (.bool (headB s r t)) ∧ Below w.heap.size w w' := by
  have hH : ∀ w0, Calls Tryd.prog 45 #[.string r] w0 fun e w' => e = .returned (.bool (decide (r.size = 32))) ∧ w0 = w' := fun w0 => hdSized r w0 hr
  have hT : ∀ w0, Calls Tryd.prog 76 #[.int .i64 t] w0 fun r w' => r = .returned (.bool (timB t)) ∧ w0 = w' := fun w0 => implTim t w0
  unfold headB
  obtain ⟨b1, d1⟩ : ∃ b, decide (1 ≤ s) = b := ⟨_, rfl⟩
  obtain ⟨b2, d2⟩ : ∃ b, decide (s ≤ 1000000) = b := ⟨_, rfl⟩
  rw [d1, d2]
  generalize decide (r.size = 32) = b3 at *
  generalize timB t = b4 at *
  cases b1 <;> cases b2 <;> cases b3 <;> cases b4
  all_goals
    go_enter Tryd.func115, Tryd.ntmps115
    go_wp2_with (first
      | (with_reducible refine wpList_boxV (w := w) (by with_unfolding_all rfl) 64 (.tmp 0) (by with_unfolding_all rfl) (hdv s r t) (by with_unfolding_all rfl) ?_; intro w1 hA1 hB1 hS1; obtain ⟨p0, p1, p2⟩ := hA1.hd; clear hS1)
      | (go_at_call 45; with_reducible refine (hH _).mono ?_; rintro r w' ⟨rfl, rfl⟩)
      | (go_at_call 76; with_reducible refine (hT _).mono ?_; rintro r w' ⟨rfl, rfl⟩))
    go_ret
    exact ⟨rfl, hB1⟩
set_option maxRecDepth 100000 in
set_option maxHeartbeats 2000000 in
theorem specHead (s : Int) (r : ByteArray) (t : Int) (w : World) (hr : r.size ≤ maxLen) : Calls Tryd.prog 108 #[.agg #[.int .i64 s, .string r, .int .i64 t]] w fun e w' => e = .returned (.bool (headB s r t)) ∧ Below w.heap.size w w' := by
  have hH : ∀ w0, Calls Tryd.prog 59 #[.string r] w0 fun e w' => e = .returned (.bool (decide (r.size = 32))) ∧ w0 = w' := fun w0 => hdHash r w0 hr
  have hT : ∀ w0, Calls Tryd.prog 68 #[.int .i64 t] w0 fun r w' => r = .returned (.bool (timB t)) ∧ w0 = w' := fun w0 => specTim t w0
  unfold headB
  obtain ⟨b1, d1⟩ : ∃ b, decide (1 ≤ s) = b := ⟨_, rfl⟩
  obtain ⟨b2, d2⟩ : ∃ b, decide (s ≤ 1000000) = b := ⟨_, rfl⟩
  rw [d1, d2]
  generalize decide (r.size = 32) = b3 at *
  generalize timB t = b4 at *
  cases b1 <;> cases b2 <;> cases b3 <;> cases b4
  all_goals
    go_enter Tryd.func108, Tryd.ntmps108
    go_wp2_with (first
      | (with_reducible refine wpList_boxV (w := w) (by with_unfolding_all rfl) 64 (.tmp 0) (by with_unfolding_all rfl) (hdv s r t) (by with_unfolding_all rfl) ?_; intro w1 hA1 hB1 hS1; obtain ⟨p0, p1, p2⟩ := hA1.hd; clear hS1)
      | (go_at_call 59; with_reducible refine (hH _).mono ?_; rintro r w' ⟨rfl, rfl⟩)
      | (go_at_call 68; with_reducible refine (hT _).mono ?_; rintro r w' ⟨rfl, rfl⟩))
    go_ret
    exact ⟨rfl, hB1⟩
theorem szHd1 (w : World) (o : Obj) : (w.alloc o).heap.size = w.heap.size + 1 := Array.size_push _
set_option maxRecDepth 100000 in
set_option maxHeartbeats 1000000 in
theorem toHd_any (s : Int) (r : ByteArray) (t : Int) (w : World) :
    Calls Tryd.prog 74 #[.agg #[.int .i64 s, .string r, .int .i64 t]] w fun e w' => e = .returned (.agg #[.int .i64 s, .string r, .int .i64 t]) ∧ Below w.heap.size w w' := by
  go_enter Tryd.func74, Tryd.ntmps74
  go_wp2
  refine bodyPost_ret (v := .agg (hdv s r t).toArray) (by simp [results, Tryd.results74, go_sem, hdv]) rfl ⟨rfl, ?_⟩
  exact (((Below.refl _ _).alloc (Nat.le_refl _) _).alloc (by rw [szHd1]; omega) _).alloc (by rw [szHd1, szHd1]; omega) _
set_option maxRecDepth 100000 in
theorem szHd_any (s : Int) (r : ByteArray) (t q : Int) (w : World) (hr : r.size ≤ maxLen) (h0 : 0 ≤ q) (hq : q ≤ 1048576) :
    Calls Tryd.prog 66 #[.agg #[.int .i64 s, .string r, .int .i64 t], .int .i64 q] w fun e w' => (∃ z : Int, e = .returned (.int .i64 z) ∧ z ≤ 1048576 ∧ -1 ≤ z) ∧ Below w.heap.size w w' := by
  unfold maxLen at hr
  by_cases c1 : q - (r.size : Int) < 0
  · go_enter Tryd.func66, Tryd.ntmps66
    go_wp2_with (first
      | (with_reducible refine wpList_boxV (w := w) (by with_unfolding_all rfl) 52 (.tmp 0) (by with_unfolding_all rfl) (hdv s r t) (by with_unfolding_all rfl) ?_; intro w1 hA1 hB1 hS1; obtain ⟨p0, p1, p2⟩ := hA1.hd; clear hS1))
    go_ret
    exact ⟨⟨_, rfl, by omega, by omega⟩, hB1⟩
  · have c2 : 0 ≤ q - (r.size : Int) := by omega
    go_enter Tryd.func66, Tryd.ntmps66
    go_wp2_with (first
      | (with_reducible refine wpList_boxV (w := w) (by with_unfolding_all rfl) 52 (.tmp 0) (by with_unfolding_all rfl) (hdv s r t) (by with_unfolding_all rfl) ?_; intro w1 hA1 hB1 hS1; obtain ⟨p0, p1, p2⟩ := hA1.hd; clear hS1))
    go_ret
    exact ⟨⟨_, rfl, by omega, by omega⟩, hB1⟩
theorem eqHd_any (x z : Int) (y : ByteArray) (w : World) :
    Calls Tryd.prog 83 #[.agg #[.int .i64 x, .string y, .int .i64 z], .agg #[.int .i64 x, .string y, .int .i64 z]] w fun r w' => r = .returned (.bool true) ∧ Below w.heap.size w w' := by
  have e1 : (x == x) = true := by simp
  have e2 := txt_eq y
  have e3 : (z == z) = true := by simp
  go_enter Tryd.func83, Tryd.ntmps83
  go_wp2_with (first
    | (with_reducible refine wpList_boxV (w := w) (by with_unfolding_all rfl) 64 (.tmp 0) (by with_unfolding_all rfl) (hdv x y z) (by with_unfolding_all rfl) ?_; intro w1 hA1 hB1 hS1; have z1 : w.heap.size < w1.heap.size := (by omega); clear hS1)
    | (with_reducible refine wpList_boxV (w := w1) (by with_unfolding_all rfl) 64 (.tmp 1) (by with_unfolding_all rfl) (hdv x y z) (by with_unfolding_all rfl) ?_; intro w2 hA2 hB2 hS2; clear hS2; obtain ⟨p0, p1, p2⟩ := (hA1.below hB2 z1).hd; obtain ⟨q0, q1, q2⟩ := hA2.hd))
  go_ret
  exact ⟨rfl, hB1.trans (hB2.mono (by omega))⟩
structure KpHd (w : World) (g : Nat) (s : Int) (r : ByteArray) (t : Int) (w' : World) : Prop where
  below : Below w.heap.size w w'
  row : RowV w' g (hdv s r t)
theorem KpHd.start {w w' : World} {g : Nat} {s : Int} {r : ByteArray} {t : Int} (h1 : Below w.heap.size w w') (h2 : RowV w' g (hdv s r t)) : Hid (KpHd w g s r t w') := ⟨h1, h2⟩
theorem KpHd.call {w w' w2 : World} {g : Nat} {s : Int} {r : ByteArray} {t : Int} (h : Hid (KpHd w g s r t w')) (hb : Below w'.heap.size w' w2) : Hid (KpHd w g s r t w2) := ⟨h.out.below.trans (hb.mono h.out.below.size), h.out.row.below hb (h.out.row.lt (hdv_ne _ _ _))⟩
theorem KpHd.three {w w' : World} {g : Nat} {s : Int} {r : ByteArray} {t : Int} (h : Hid (KpHd w g s r t w')) : w'.cell? ⟨g, 0, none⟩ = some (.int .i64 s) ∧ w'.cell? ⟨g, 1, none⟩ = some (.string r) ∧ w'.cell? ⟨g, 2, none⟩ = some (.int .i64 t) ∧ Hid (KpHd w g s r t w') := ⟨h.out.row.hd.1, h.out.row.hd.2.1, h.out.row.hd.2.2, h⟩
end Go.Proofs.YtdfglpbappeoaabDoor
