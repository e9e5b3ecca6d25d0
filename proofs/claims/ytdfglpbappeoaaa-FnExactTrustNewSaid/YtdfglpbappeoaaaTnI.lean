/- TrustNew of the program: a trust whose rows are its own. -/
import Derived.Test.YtdfglpbappeoaaaOwRt
import Derived.Test.YtdfglpbappeoaaaTrA
import Derived.Test.YtdfglpbappeoaaaRlI
namespace Go.Proofs.Ytdfglpbappeoaaa
open Go.RowKit
set_option linter.unusedVariables false

theorem rootB_parts {v e : Int} {rs : List RoleV} (h : rootB v e rs = true) : rs.length = 5 ∧ ∀ r ∈ rs, r.ks ≠ [] ∧ r.ks.length ≤ 1000 := by
  have h0 : (verB v && (timB e && (decide (rs.length = 5) && rolesB rs))) = true := h
  simp only [Bool.and_eq_true, decide_eq_true_eq] at h0
  refine ⟨h0.2.2.1, fun r hr => ?_⟩
  have h1 := h0.2.2.2
  unfold rolesB at h1
  rw [List.all_eq_true] at h1
  have h2 := h1 r hr
  unfold roleB at h2
  simp only [Bool.and_eq_true, decide_eq_true_eq] at h2
  refine ⟨fun e => ?_, by omega⟩
  rw [e] at h2
  have := h2.1.1
  simp at this
set_option maxRecDepth 100000 in
set_option maxHeartbeats 4000000 in
theorem implTrustNew_no (v e : Int) (a : Option Addr) (c n : Nat) (rs : List RoleV) (w : World) (hn : rs.length = n) (h : RlsAt w a rs) (hnm : n ≤ maxLen) (hw : ∀ r ∈ rs, RoleW r) (hb : rootB v e rs = false) :
    Calls Try.prog 13 #[.agg #[.int .i64 v, .int .i64 e, .slice a n c]] w fun r w' => r = .returned (.agg (trv 0 0 none 0 0 0 0 0 0 0 0 0 0 none 0 0 0 ⟨#[]⟩ 0).toArray) ∧ Below w.heap.size w w' := by
  have hR : ∀ w0, Below w.heap.size w w0 → Calls Try.prog 46 #[.agg (rtv v e a n c).toArray] w0 fun r w' => r = .returned (.bool false) ∧ Below w0.heap.size w0 w' := fun w0 h0 => by
    have := implRootR v e a c n rs w0 hn (h.below h0) hnm hw
    rw [hb] at this
    exact this
  clear h hn hw hb
  go_enter Try.func13, Try.ntmps13
  go_wp2_with (first
    | (with_reducible refine wpList_boxV (w := w) (by with_unfolding_all rfl) 28 (.tmp 0) (by with_unfolding_all rfl) (rtv v e a n c) (by with_unfolding_all rfl) ?_; intro w1 hA1 hB1 hS1; have z1 : w.heap.size < w1.heap.size := (by omega); clear hS1)
    | (with_reducible refine wpList_allocV (w := w1) (by with_unfolding_all rfl) 37 (by with_unfolding_all rfl) (trv 0 0 none 0 0 0 0 0 0 0 0 0 0 none 0 0 0 ⟨#[]⟩ 0) Try.infoTrz ?_; intro w2 hA2 hB2 hS2; have z2 : w1.heap.size < w2.heap.size := (by omega); clear hS2; have R2 := hA1.below hB2 z1; have B2 := hidP (hB1.trans (hB2.mono (Nat.le_of_lt z1))))
    | (with_reducible refine wpList_loadV (w := w2) (by with_unfolding_all rfl) 28 (.tmp 1) (by with_unfolding_all rfl) w.heap.size (rtv v e a n c) (by with_unfolding_all rfl) R2 Try.undRt 3 Try.sizeRt (by with_unfolding_all rfl) ?_)
    | (go_at_call 46; with_reducible refine (hR w2 B2.out).mono ?_; rintro r w3 ⟨rfl, hB3⟩; have Z3 := hidP (hA2.below hB3 z2); have B3 := hidP (B2.out.trans (hB3.mono B2.out.size)))
    | (with_reducible refine wpList_storeH (w := w3) (by with_unfolding_all rfl) 37 (.tmp 2) (.tmp 6) (by with_unfolding_all rfl) w1.heap.size (trv 0 0 none 0 0 0 0 0 0 0 0 0 0 none 0 0 0 ⟨#[]⟩ 0) (trv 0 0 none 0 0 0 0 0 0 0 0 0 0 none 0 0 0 ⟨#[]⟩ 0) (by with_unfolding_all rfl) (by with_unfolding_all rfl) Z3.out 15 Try.sizeTr (by with_unfolding_all rfl) (by with_unfolding_all rfl) (trv_one _ _ _ _ _ _ _ _ _ _ _ _ _ _ _ _ _ _ _) ?_; intro wz hAz hBz hFz hSz; have BZ := hidP (B3.out.trans (hBz _ (Nat.le_of_lt z1)))))
  exact bodyPost_ret (results_V (t := 37) rfl _ w1.heap.size _ rfl hAz Try.undTr 15 Try.sizeTr rfl) rfl ⟨rfl, BZ.out⟩
set_option maxRecDepth 100000 in
set_option maxHeartbeats 4000000 in
theorem implTrustNew_yes (v e : Int) (a : Option Addr) (c n : Nat) (rs : List RoleV) (w : World) (hn : rs.length = n) (h : RlsAt w a rs) (hnm : n ≤ maxLen) (hw : ∀ r ∈ rs, RoleW r) (hb : rootB v e rs = true) :
    Calls Try.prog 13 #[.agg #[.int .i64 v, .int .i64 e, .slice a n c]] w fun r w' => ∃ a' c' ys B, r = .returned (.agg (trv v e a' n c' 0 0 0 0 0 0 0 0 none 0 0 0 ⟨#[]⟩ 0).toArray) ∧ OwR w' B (.slice a' n c') ys ∧ rkeys ys = rkeys rs ∧ w.heap.size ≤ B ∧ Below w.heap.size w w' := by
  have hR : ∀ w0, Below w.heap.size w w0 → Calls Try.prog 46 #[.agg (rtv v e a n c).toArray] w0 fun r w' => r = .returned (.bool true) ∧ Below w0.heap.size w0 w' := fun w0 h0 => by
    have := implRootR v e a c n rs w0 hn (h.below h0) hnm hw
    rw [hb] at this
    exact this
  have hO : ∀ w0, Below w.heap.size w w0 → Calls Try.prog 47 #[.agg (rtv v e a n c).toArray] w0 fun r w' => ∃ a' c' ys B, r = .returned (.agg #[.int .i64 v, .int .i64 e, .slice a' n c']) ∧ OwR w' B (.slice a' n c') ys ∧ rkeys ys = rkeys rs ∧ w0.heap.size ≤ B ∧ Below w0.heap.size w0 w' := fun w0 h0 => ownRt v e a c n rs w0 hn (h.below h0) (by have := (rootB_parts hb).1; omega) (rootB_parts hb).2
  clear h hn hw hb
  go_enter Try.func13, Try.ntmps13
  go_wp2_with (first
    | (with_reducible refine wpList_boxV (w := w) (by with_unfolding_all rfl) 28 (.tmp 0) (by with_unfolding_all rfl) (rtv v e a n c) (by with_unfolding_all rfl) ?_; intro w1 hA1 hB1 hS1; have z1 : w.heap.size < w1.heap.size := (by omega); clear hS1)
    | (with_reducible refine wpList_allocV (w := w1) (by with_unfolding_all rfl) 37 (by with_unfolding_all rfl) (trv 0 0 none 0 0 0 0 0 0 0 0 0 0 none 0 0 0 ⟨#[]⟩ 0) Try.infoTrz ?_; intro w2 hA2 hB2 hS2; have z2 : w1.heap.size < w2.heap.size := (by omega); clear hS2; have R2 := hA1.below hB2 z1; have B2 := hidP (hB1.trans (hB2.mono (Nat.le_of_lt z1))); have y2 : w.heap.size < w2.heap.size := Nat.lt_trans z1 z2)
    | (with_reducible refine wpList_loadV (w := w2) (by with_unfolding_all rfl) 28 (.tmp 1) (by with_unfolding_all rfl) w.heap.size (rtv v e a n c) (by with_unfolding_all rfl) R2 Try.undRt 3 Try.sizeRt (by with_unfolding_all rfl) ?_)
    | (go_at_call 46; with_reducible refine (hR w2 B2.out).mono ?_; rintro r w3 ⟨rfl, hB3⟩; have Z3 := hA2.below hB3 z2; have R3 := R2.below hB3 y2; have B3 := hidP (B2.out.trans (hB3.mono B2.out.size)); have z3 : w1.heap.size < w3.heap.size := Nat.lt_of_lt_of_le z2 hB3.size)
    | (with_reducible refine wpList_loadV (w := w3) (by with_unfolding_all rfl) 28 (.tmp 1) (by with_unfolding_all rfl) w.heap.size (rtv v e a n c) (by with_unfolding_all rfl) R3 Try.undRt 3 Try.sizeRt (by with_unfolding_all rfl) ?_)
    | (go_at_call 47; with_reducible refine (hO w3 B3.out).mono ?_; rintro r w4 ⟨a', c', ys, B, rfl, hO4, hM4, hL4, hB4⟩; have Z4 := hidP (Z3.below hB4 z3); have B4 := hidP (B3.out.trans (hB4.mono B3.out.size)); have y4 : w1.heap.size < B := Nat.lt_of_lt_of_le z3 hL4)
    | (with_reducible refine wpList_storeH (w := w4) (by with_unfolding_all rfl) 37 (.tmp 2) (.tmp 9) (by with_unfolding_all rfl) w1.heap.size (trv 0 0 none 0 0 0 0 0 0 0 0 0 0 none 0 0 0 ⟨#[]⟩ 0) (trv v e a' n c' 0 0 0 0 0 0 0 0 none 0 0 0 ⟨#[]⟩ 0) (by with_unfolding_all rfl) (by with_unfolding_all rfl) Z4.out 15 Try.sizeTr (by with_unfolding_all rfl) (by with_unfolding_all rfl) (trv_one _ _ _ _ _ _ _ _ _ _ _ _ _ _ _ _ _ _ _) ?_; intro wz hAz hBz hFz hSz; have oz := Only.set hBz hFz hSz; have OZ := hidP (hO4.off1 oz y4); have BZ := hidP (B4.out.trans (oz.bel (Nat.le_of_lt z1)))))
  exact bodyPost_ret (results_V (t := 37) rfl _ w1.heap.size _ rfl hAz Try.undTr 15 Try.sizeTr rfl) rfl ⟨a', c', ys, B, rfl, OZ.out, hM4, Nat.le_trans (Nat.le_of_lt z1) (Nat.le_of_lt y4), BZ.out⟩
end Go.Proofs.Ytdfglpbappeoaaa
