/- PolicyEval of the program. -/
import Derived.Test.YtaalegjhhpfhbaaNdE
namespace Go.Proofs.Ytaalegjhhpfhbaa
open Go.RowKit
set_option linter.unusedVariables false

/- What PolicyEval tells. -/
noncomputable def evalN (l : List InsV) (ls : List LabV) : Bool := match nodeN l with | none => false | some y => if ls.length ≤ 400 then holdN ls y else false
theorem eval_none {l : List InsV} (ls : List LabV) (h : nodeN l = none) : evalN l ls = false := by unfold evalN; rw [h]
theorem eval_big {l : List InsV} {ls : List LabV} {y : Nd} (h : nodeN l = some y) (h4 : 400 < ls.length) : evalN l ls = false := by unfold evalN; rw [h]; exact if_neg (by omega)
theorem eval_ok {l : List InsV} {ls : List LabV} {y : Nd} (h : nodeN l = some y) (h4 : ls.length ≤ 400) : evalN l ls = holdN ls y := by unfold evalN; rw [h]; exact if_pos h4
set_option maxRecDepth 100000 in
set_option maxHeartbeats 4000000 in
theorem implPolE (a : Option Addr) (c n : Nat) (l : List InsV) (d : Option Addr) (e m : Nat) (ls : List LabV) (w : World) (hn : l.length = n) (h : InsAt w a l) (hm : n ≤ maxLen) (hw : ∀ x ∈ l, x.w) (hn2 : ls.length = m) (h2 : LabAt w d ls) (hm2 : m ≤ maxLen) :
    Calls Try.prog 19 #[.slice a n c, .slice d m e] w fun r w' => r = .returned (.bool (evalN l ls)) ∧ Below w.heap.size w w' := by
  have hC1 : ∀ w0, (InsAt w0 a l) → (nodeN l = none) → Calls Try.prog 50 #[.slice a n c] w0 fun r w' => r = .returned (.tuple #[.nilIface, .bool false]) ∧ Below w0.heap.size w0 w' := fun w0 n0 n1 => by have hh := implNode a c n l w0 hn n0 hm hw; rw [n1] at hh; exact hh
  have hC2 : ∀ w0 (y : Nd), (InsAt w0 a l) → (nodeN l = some y) → Calls Try.prog 50 #[.slice a n c] w0 fun r w' => r = .returned (.tuple #[ndV y, .bool true]) ∧ Below w0.heap.size w0 w' := fun w0 y n0 n1 => by have hh := implNode a c n l w0 hn n0 hm hw; rw [n1] at hh; exact hh
  have HS0 : Hid (Sta [] w [] [⟨fun k => k < w.heap.size, fun w' => InsAt w' a l ∧ LabAt w' d ls⟩] w) := Sta.arg (fun w' => InsAt w' a l ∧ LabAt w' d ls) (fun w' hb => ⟨h.below hb, h2.below hb⟩)
  clear h h2
  go_enter Try.func19, Try.ntmps19
  have hc3 : nodeN l = none ∨ (∃ y, nodeN l = some y ∧ 400 < m) ∨ (∃ y, nodeN l = some y ∧ m ≤ 400) := by
    rcases hx : nodeN l with _ | y
    · exact Or.inl rfl
    · by_cases g : m ≤ 400
      · exact Or.inr (Or.inr ⟨y, rfl, g⟩)
      · exact Or.inr (Or.inl ⟨y, rfl, by omega⟩)
  rcases hc3 with hf | ⟨y, hf, g⟩ | ⟨y, hf, g⟩
  · as_aux_lemma =>
    have HF := hidP hf
    have HE := hidP (eval_none ls hf)
    clear hf
    go_wp2_with (first
      | (go_at_call 50; have n1_0 : InsAt w a l := (Sta.t (i := 0) HS0 rfl :).1; (with_reducible refine (hC1 w n1_0 HF.out).mono ?_); rintro r w1 ⟨rfl, hB1⟩; have HS1 := Sta.call HS0 hB1; clear hB1))
    go_ret
    exact ⟨by rw [HE.out]; rfl, Sta.fin HS1⟩
  · as_aux_lemma =>
    have HF := hidP hf
    have HE := hidP (eval_big (ls := ls) hf (by omega))
    have d4 : decide ((m : Int) ≤ 400) = false := decide_eq_false (by omega)
    clear hf
    go_wp2_with (first
      | (go_at_call 50; have n2_0 : InsAt w a l := (Sta.t (i := 0) HS0 rfl :).1; (with_reducible refine (hC2 w y n2_0 HF.out).mono ?_); rintro r w2 ⟨rfl, hB2⟩; have HS2 := Sta.call HS0 hB2; clear hB2))
    go_ret
    exact ⟨by rw [HE.out]; rfl, Sta.fin HS2⟩
  · as_aux_lemma =>
    have HF := hidP hf
    have HE := hidP (eval_ok (ls := ls) hf (by omega))
    have d4 : decide ((m : Int) ≤ 400) = true := decide_eq_true (by omega)
    clear hf
    go_wp2_with (first
      | (go_at_call 50; have n3_0 : InsAt w a l := (Sta.t (i := 0) HS0 rfl :).1; (with_reducible refine (hC2 w y n3_0 HF.out).mono ?_); rintro r w3 ⟨rfl, hB3⟩; have HS3 := Sta.call HS0 hB3; clear hB3)
      | (have n4_0 : LabAt w3 d ls := (Sta.t (i := 0) HS3 rfl :).2; have n4_9 := (holdAll d e m ls hn2 hm2 y (node_w HF.out).1 w3 n4_0); (with_reducible refine wpList_holds (w := w3) (by with_unfolding_all rfl) (.tmp 19) (.tmp 20) (by with_unfolding_all rfl) y (by with_unfolding_all rfl) (by with_unfolding_all rfl) n4_9 ?_); intro w4 hB4; have HS4 := Sta.call HS3 hB4; clear hB4))
    go_ret
    exact ⟨by rw [HE.out]; rfl, Sta.fin HS4⟩
end Go.Proofs.Ytaalegjhhpfhbaa
