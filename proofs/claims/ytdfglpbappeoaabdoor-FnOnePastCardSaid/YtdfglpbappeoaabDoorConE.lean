/- ConsistencyCheck of the program where first is the size: wherever the proof lies. -/
import Derived.Test.YtdfglpbappeoaabDoorConI
namespace Go.Proofs.YtdfglpbappeoaabDoor
open Go.RowKit
set_option linter.unusedVariables false

set_option maxRecDepth 100000 in
set_option maxHeartbeats 1000000 in
theorem conIE (old root : ByteArray) (i n : Int) (a : Option Addr) (c m : Nat) (ps : List ByteArray) (w : World) (hm : ps.length = m) (hA : SA w a ps) (hl : old.size ≤ maxLen) (hr : root.size ≤ maxLen) (hM : m ≤ 1048576) (hx : ∀ x ∈ ps, x.size ≤ maxLen) (hk : ArrU w 8 keys) (h0 : 8 < w.heap.size) (hok : ConOk i n ps old root) (hne : i = n) :
    Calls Tryd.prog 17 #[.int .i64 i, .int .i64 n, .slice a m c, .string old, .string root] w fun e w' => e = .returned (.bool (conR i n ps old root)) ∧ Below w.heap.size w w' := by
  have hH1 : ∀ w0, Calls Tryd.prog 45 #[.string old] w0 fun e w' => e = .returned (.bool (decide (old.size = 32))) ∧ w0 = w' := fun w0 => ownH32B old w0 hl
  have hH2 : ∀ w0, Calls Tryd.prog 45 #[.string root] w0 fun e w' => e = .returned (.bool (decide (root.size = 32))) ∧ w0 = w' := fun w0 => ownH32B root w0 hr
  have hH4 : ∀ w0, Calls Tryd.prog 46 #[.int .i64 n] w0 fun e w' => e = .returned (.bool (decide (1 ≤ n ∧ n ≤ 1099511627776))) ∧ w0 = w' := fun w0 => sizeRI n w0
  have HH3 : Hid (Calls Tryd.prog 44 #[.slice a m c] w fun e w' => e = .returned (.bool (okPr ps)) ∧ w = w') := proofRI a c m ps w hm hA (by omega) hx
  obtain ⟨q1, q2, h3, q3, h5, h6, h7, h8⟩ := hok
  have hop : okPr ps = true := by unfold okPr; rw [decide_eq_true h3, q3]; rfl
  rw [hop] at HH3
  rw [decide_eq_true q1] at hH1
  rw [decide_eq_true q2] at hH2
  rw [decide_eq_true ⟨h5, h6⟩] at hH4
  have HP : Hid (∀ x ∈ ps, x.size = 32) := okHs_of q3
  have hmb : m ≤ 400 := by omega
  have e0 : decide (i < 1) = false := decide_eq_false (by omega)
  have e1 : decide (n < i) = false := decide_eq_false (by omega)
  have HR : Hid (conR i n ps old root = (decide (ps = []) && decide (old = root))) := by show _ = _; unfold conR; rw [if_pos hne]
  subst hne
  have e4 : (i == i) = true := by simp
  by_cases hm0 : m = 0
  · have hp0 : ps = [] := List.length_eq_zero_iff.1 (hm.trans hm0)
    subst hm0
    by_cases hor : old = root
    · have HF2 : Hid (conR i i ps old root = true) := by show _ = _; rw [HR.out, decide_eq_true hp0, decide_eq_true hor]; rfl
      have t1 : (old.toList == root.toList) = true := by rw [hor]; exact txt_eq _
      generalize conR i i ps old root = R at *
      clear HR hA hx hor hp0 hm hk hop q3
      go_enter Tryd.func17, Tryd.ntmps17
      go_wp2_with (first
        | (go_at_call 44; refine Calls.mono HH3.out ?_; rintro e w' ⟨rfl, rfl⟩)
        | (go_at_call 45; with_reducible refine (hH1 _).mono ?_; rintro e w' ⟨rfl, rfl⟩)
        | (go_at_call 45; with_reducible refine (hH2 _).mono ?_; rintro e w' ⟨rfl, rfl⟩)
        | (go_at_call 46; refine (hH4 _).mono ?_; rintro e w' ⟨rfl, rfl⟩))
      go_ret
      exact ⟨retY HF2.out.symm, Below.refl _ _⟩
    · have HF2 : Hid (conR i i ps old root = false) := by show _ = _; rw [HR.out, decide_eq_false hor, Bool.and_false]
      have t1 := txt_ne hor
      generalize conR i i ps old root = R at *
      clear HR hA hx hor hp0 hm hk hop q3
      go_enter Tryd.func17, Tryd.ntmps17
      go_wp2_with (first
        | (go_at_call 44; refine Calls.mono HH3.out ?_; rintro e w' ⟨rfl, rfl⟩)
        | (go_at_call 45; with_reducible refine (hH1 _).mono ?_; rintro e w' ⟨rfl, rfl⟩)
        | (go_at_call 45; with_reducible refine (hH2 _).mono ?_; rintro e w' ⟨rfl, rfl⟩)
        | (go_at_call 46; refine (hH4 _).mono ?_; rintro e w' ⟨rfl, rfl⟩))
      go_ret
      exact ⟨retY HF2.out.symm, Below.refl _ _⟩
  · have HF2 : Hid (conR i i ps old root = false) := by show _ = _; rw [HR.out, decide_eq_false (fun e => hm0 (by rw [← hm, e]; rfl))]; rfl
    have t0 : ((m : Int) == 0) = false := beq_eq_false_iff_ne.2 (by omega)
    generalize conR i i ps old root = R at *
    clear HR hA hx hm hk hop q3
    go_enter Tryd.func17, Tryd.ntmps17
    go_wp2_with (first
      | (go_at_call 44; refine Calls.mono HH3.out ?_; rintro e w' ⟨rfl, rfl⟩)
      | (go_at_call 45; with_reducible refine (hH1 _).mono ?_; rintro e w' ⟨rfl, rfl⟩)
      | (go_at_call 45; with_reducible refine (hH2 _).mono ?_; rintro e w' ⟨rfl, rfl⟩)
      | (go_at_call 46; refine (hH4 _).mono ?_; rintro e w' ⟨rfl, rfl⟩))
    go_ret
    exact ⟨retY HF2.out.symm, Below.refl _ _⟩
end Go.Proofs.YtdfglpbappeoaabDoor
