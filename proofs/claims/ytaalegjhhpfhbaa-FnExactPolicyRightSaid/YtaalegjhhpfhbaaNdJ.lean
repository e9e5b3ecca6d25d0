/- Is a policy right? On the program's side. -/
import Derived.Test.YtaalegjhhpfhbaaNdI
namespace Go.Proofs.Ytaalegjhhpfhbaa
open Go.RowKit
set_option linter.unusedVariables false

set_option maxRecDepth 100000 in
set_option maxHeartbeats 2000000 in
theorem implPolR (a : Option Addr) (c n : Nat) (l : List InsV) (w : World) (hn : l.length = n) (h : InsAt w a l) (hm : n ≤ maxLen) (hw : ∀ x ∈ l, x.w) :
    Calls Try.prog 14 #[.slice a n c] w fun r w' => r = .returned (.bool (nodeN l).isSome) ∧ Below w.heap.size w w' := by
  have HM := hidP hm
  have HN := hidP hn
  have HW := hidP hw
  obtain ⟨V, hV⟩ : ∃ V, optV (nodeN l) = V := ⟨_, rfl⟩
  obtain ⟨B, hB⟩ : ∃ B, (nodeN l).isSome = B := ⟨_, rfl⟩
  have HV := hidP (show optV (nodeN l) = V ∧ (nodeN l).isSome = B from ⟨hV, hB⟩)
  clear hV hB
  have hC1 : ∀ w0 (V : Value) (B : Bool), (InsAt w0 a l) → (l.length = n) → (n ≤ maxLen) → (∀ x ∈ l, x.w) → (optV (nodeN l) = V ∧ (nodeN l).isSome = B) → Calls Try.prog 50 #[.slice a n c] w0 fun r w' => r = .returned (.tuple #[V, .bool B]) ∧ Below w0.heap.size w0 w' := fun w0 V B n0 n1 n2 n3 n4 => by rw [← n4.1, ← n4.2]; exact implNode a c n l w0 n1 n0 n2 n3
  have HS0 : Hid (Sta [] w [] [⟨fun k => k < w.heap.size, fun w' => InsAt w' a l⟩] w) := Sta.arg (fun w' => InsAt w' a l) (fun w' hb => h.below hb)
  clear h hn hw hm
  go_enter Try.func14, Try.ntmps14
  go_wp2_with (first
    | (go_at_call 50; have n1_0 : InsAt w a l := (Sta.t (i := 0) HS0 rfl :); (with_reducible refine (hC1 w V B n1_0 HN.out HM.out HW.out HV.out).mono ?_); rintro r w1 ⟨rfl, hB1⟩; have HS1 := Sta.call HS0 hB1; clear hB1))
  go_ret
  exact ⟨by rw [HV.out.2]; rfl, Sta.fin HS1⟩
end Go.Proofs.Ytaalegjhhpfhbaa
