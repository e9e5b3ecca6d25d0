/- Is a store right? On the program's side. -/
import Derived.Test.YtchfpiadfmnphaaDoorStI
namespace Go.Proofs.YtchfpiadfmnphaaDoor
open Go.RowKit
set_option linter.unusedVariables false

theorem implShelve_yes (a : Option Addr) (c n : Nat) (l : List ByteArray) (w : World) (hn : l.length = n) (h : SA w a l) (hm : n ≤ maxLen) (hx : ∀ x ∈ l, x.size ≤ maxLen) (hk : ArrU w 0 keys) (h0 : 0 < w.heap.size) (hs : StOk l) :
    Calls Tryd.prog 28 #[.agg #[.slice a n c]] w fun r w' => ∃ B, r = .returned (.tuple #[.map (some B), .bool true]) ∧ Made w w' (fun w2 => MapK w2 B l) ∧ Below w.heap.size w w' :=
  (implShelve a c n l w hn h hm hx hk h0).mono fun r w' ⟨h1, h2⟩ => h1.elim (fun ⟨_, B, h3, h4⟩ => ⟨B, h3, h4, h2⟩) (fun h3 => absurd hs h3.1)
theorem implShelve_no (a : Option Addr) (c n : Nat) (l : List ByteArray) (w : World) (hn : l.length = n) (h : SA w a l) (hm : n ≤ maxLen) (hx : ∀ x ∈ l, x.size ≤ maxLen) (hk : ArrU w 0 keys) (h0 : 0 < w.heap.size) (hs : ¬ StOk l) :
    Calls Tryd.prog 28 #[.agg #[.slice a n c]] w fun r w' => r = .returned (.tuple #[.map none, .bool false]) ∧ Below w.heap.size w w' :=
  (implShelve a c n l w hn h hm hx hk h0).mono fun r w' ⟨h1, h2⟩ => h1.elim (fun h3 => absurd h3.1 hs) (fun h3 => ⟨h3.2, h2⟩)
set_option maxRecDepth 100000 in
set_option maxHeartbeats 4000000 in
theorem implStRight (a : Option Addr) (c n : Nat) (l : List ByteArray) (w : World) (hn : l.length = n) (h : SA w a l) (hm : n ≤ maxLen) (hx : ∀ x ∈ l, x.size ≤ maxLen) (hk : ArrU w 0 keys) (h0 : 0 < w.heap.size) :
    Calls Tryd.prog 10 #[.agg #[.slice a n c]] w fun r w' => r = .returned (.bool (boolP (StOk l))) ∧ Below w.heap.size w w' := by
  have HX := hidP hx
  have HM := hidP hm
  have HN := hidP hn
  have hC1 : ∀ w0, (SA w0 a l ∧ ArrU w0 0 keys ∧ 0 < w0.heap.size) → (l.length = n) → (n ≤ maxLen) → (∀ x ∈ l, x.size ≤ maxLen) → (StOk l) → Calls Tryd.prog 28 #[.agg #[.slice a n c]] w0 fun r w' => ∃ (B : Nat), r = .returned (.tuple #[.map (some B), .bool true]) ∧ Below w0.heap.size w0 w' := fun w0 n0 n1 n2 n3 n4 => (implShelve_yes a c n l w0 n1 n0.1 n2 n3 n0.2.1 n0.2.2 n4).mono fun r w' ⟨B, h1, h2, h3⟩ => ⟨B, h1, h3⟩
  have hC2 : ∀ w0, (SA w0 a l ∧ ArrU w0 0 keys ∧ 0 < w0.heap.size) → (l.length = n) → (n ≤ maxLen) → (∀ x ∈ l, x.size ≤ maxLen) → (¬ StOk l) → Calls Tryd.prog 28 #[.agg #[.slice a n c]] w0 fun r w' => r = .returned (.tuple #[.map none, .bool false]) ∧ Below w0.heap.size w0 w' := fun w0 n0 n1 n2 n3 n4 => implShelve_no a c n l w0 n1 n0.1 n2 n3 n0.2.1 n0.2.2 n4
  have HS0 : Hid (Sta [] w [] [⟨fun k => k < w.heap.size, fun w' => SA w' a l ∧ ArrU w' 0 keys ∧ 0 < w'.heap.size⟩] w) := Sta.arg (fun w' => SA w' a l ∧ ArrU w' 0 keys ∧ 0 < w'.heap.size) (fun w' hb => ⟨h.below hb, hk.below hb h0, Nat.lt_of_lt_of_le h0 hb.size⟩)
  clear h hx hk h0 hm hn
  go_enter Tryd.func10, Tryd.ntmps10
  by_cases hf : StOk l
  · as_aux_lemma =>
    have HF := hidP hf
    clear hf
    go_wp2_with (first
      | ((with_reducible refine wpList_boxV (w := w) (by with_unfolding_all rfl) 27 (.tmp 0) (by with_unfolding_all rfl) [.slice a n c] (by with_unfolding_all rfl) ?_); intro w1 hA1 hB1 hS1; clear hS1; have HS1 := Sta.new HS0 hA1 hB1 (by simp); clear hA1 hB1)
      | ((with_reducible refine wpList_loadV (w := w1) (by with_unfolding_all rfl) 27 (.tmp 1) (by with_unfolding_all rfl) w.heap.size [.slice a n c] (by with_unfolding_all rfl) (Sta.r (i := 0) HS1 (by with_unfolding_all rfl)) Tryd.uT_implStore 1 Tryd.sT_implStore (by with_unfolding_all rfl) ?_))
      | (go_at_call 28; have n2_0 : SA w1 a l ∧ ArrU w1 0 keys ∧ 0 < w1.heap.size := (Sta.t (i := 0) HS1 rfl :); (with_reducible refine (hC1 w1 n2_0 HN.out HM.out HX.out HF.out).mono ?_); rintro r w2 ⟨B, rfl, hB2⟩; have HS2 := Sta.call HS1 hB2; clear hB2))
    go_ret
    exact ⟨congrArg (fun b => Ending.returned (Value.bool b)) (boolP_yes HF.out).symm, Sta.fin HS2⟩
  · as_aux_lemma =>
    have HF := hidP hf
    clear hf
    go_wp2_with (first
      | ((with_reducible refine wpList_boxV (w := w) (by with_unfolding_all rfl) 27 (.tmp 0) (by with_unfolding_all rfl) [.slice a n c] (by with_unfolding_all rfl) ?_); intro w3 hA3 hB3 hS3; clear hS3; have HS3 := Sta.new HS0 hA3 hB3 (by simp); clear hA3 hB3)
      | ((with_reducible refine wpList_loadV (w := w3) (by with_unfolding_all rfl) 27 (.tmp 1) (by with_unfolding_all rfl) w.heap.size [.slice a n c] (by with_unfolding_all rfl) (Sta.r (i := 0) HS3 (by with_unfolding_all rfl)) Tryd.uT_implStore 1 Tryd.sT_implStore (by with_unfolding_all rfl) ?_))
      | (go_at_call 28; have n4_0 : SA w3 a l ∧ ArrU w3 0 keys ∧ 0 < w3.heap.size := (Sta.t (i := 0) HS3 rfl :); (with_reducible refine (hC2 w3 n4_0 HN.out HM.out HX.out HF.out).mono ?_); rintro r w4 ⟨rfl, hB4⟩; have HS4 := Sta.call HS3 hB4; clear hB4))
    go_ret
    exact ⟨congrArg (fun b => Ending.returned (Value.bool b)) (boolP_no HF.out).symm, Sta.fin HS4⟩
end Go.Proofs.YtchfpiadfmnphaaDoor
