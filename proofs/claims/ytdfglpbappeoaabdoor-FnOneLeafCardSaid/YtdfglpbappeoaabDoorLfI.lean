/- LeafHash and NodeHash of the program, for every argument. -/
import Derived.Test.YtdfglpbappeoaabDoorLawT
namespace Go.Proofs.YtdfglpbappeoaabDoor
open Go.RowKit
set_option linter.unusedVariables false

theorem ownH32 (t : ByteArray) (w : World) (h : t.size = 32) :
    Calls Tryd.prog 45 #[.string t] w fun e w' => e = .returned (.bool true) ∧ w = w' := by
  have d1 : ((t.size : Int) == 32) = true := beq_iff_eq.2 (by omega)
  go_enter Tryd.func45, Tryd.ntmps45
  go_wp2
  go_ret
  exact ⟨rfl, rfl⟩
theorem ownH32' (t : ByteArray) (w : World) (h : ¬ t.size = 32) (hm : t.size ≤ maxLen) :
    Calls Tryd.prog 45 #[.string t] w fun e w' => e = .returned (.bool false) ∧ w = w' := by
  unfold maxLen at hm
  have d1 : ((t.size : Int) == 32) = false := beq_eq_false_iff_ne.2 (by omega)
  go_enter Tryd.func45, Tryd.ntmps45
  go_wp2
  go_ret
  exact ⟨rfl, rfl⟩
theorem ownH32B (t : ByteArray) (w : World) (hm : t.size ≤ maxLen) :
    Calls Tryd.prog 45 #[.string t] w fun e w' => e = .returned (.bool (decide (t.size = 32))) ∧ w = w' := by
  by_cases h : t.size = 32
  · rw [decide_eq_true h]; exact ownH32 t w h
  · rw [decide_eq_false h]; exact ownH32' t w h hm

set_option maxRecDepth 100000 in
set_option maxHeartbeats 1000000 in
theorem leafI : LeafI := by
  intro t w ht hk h0
  have ht' := ht
  unfold maxLen at ht'
  have HK : Hid (ArrU w 8 keys) := hk
  clear hk
  by_cases h : t.size < 20000
  · have HR : Hid (leafA t = leafD t) := if_pos h
    obtain ⟨T, hT⟩ : ∃ T, (⟨#[0]⟩ : ByteArray) ++ t = T := ⟨_, rfl⟩
    have s1 : T.size = 1 + t.size := by rw [← hT, ByteArray.size_append, one_size]
    have hD : ∀ w0, ArrU w0 8 keys → 8 < w0.heap.size → Calls Tryd.prog 11 #[.string T] w0 fun e w' => e = .returned (.string (leafD t)) ∧ Below w0.heap.size w0 w' := fun w0 k1 k2 => by
      have := digestI_any T w0 (by unfold maxLen; omega) k1 k2
      rw [show digA T = leafD t by unfold digA leafD; rw [if_neg (by omega), hT]] at this
      exact this
    have d1 : decide ((19999 : Int) < (t.size : Int)) = false := decide_eq_false (by omega)
    generalize leafD t = D at *
    generalize leafA t = D2 at *
    clear ht
    go_enter Tryd.func16, Tryd.ntmps16
    go_wp2_with (go_at_call 11; refine (hD _ HK.out h0).mono ?_; rintro e w1 ⟨rfl, hB1⟩)
    go_ret
    exact ⟨ret_str' HR.out.symm, hB1⟩
  · have HR : Hid (leafA t = ⟨#[]⟩) := if_neg h
    have d1 : decide ((19999 : Int) < (t.size : Int)) = true := decide_eq_true (by omega)
    generalize leafA t = D2 at *
    clear ht
    go_enter Tryd.func16, Tryd.ntmps16
    go_wp2
    go_ret
    exact ⟨ret_str' HR.out.symm, Below.refl _ _⟩

set_option maxRecDepth 100000 in
set_option maxHeartbeats 1000000 in
theorem nodeI : NodeI := by
  intro a b w ha hb hk h0
  have ha' := ha
  have hb' := hb
  unfold maxLen at ha' hb'
  have HK : Hid (ArrU w 8 keys) := hk
  clear hk
  by_cases h1 : a.size = 32
  · by_cases h2 : b.size = 32
    · have HR : Hid (nodeA a b = nodeD a b) := if_pos ⟨h1, h2⟩
      obtain ⟨C, hC⟩ : ∃ C, (⟨#[1]⟩ : ByteArray) ++ a = C := ⟨_, rfl⟩
      have s1 : C.size = 1 + a.size := by rw [← hC, ByteArray.size_append, one_size]
      obtain ⟨T, hT⟩ : ∃ T, C ++ b = T := ⟨_, rfl⟩
      have s2 : T.size = C.size + b.size := by rw [← hT, ByteArray.size_append]
      have hD : ∀ w0, ArrU w0 8 keys → 8 < w0.heap.size → Calls Tryd.prog 11 #[.string T] w0 fun e w' => e = .returned (.string (nodeD a b)) ∧ Below w0.heap.size w0 w' := fun w0 k1 k2 => by
        have := digestI_any T w0 (by unfold maxLen; omega) k1 k2
        rw [show digA T = nodeD a b by unfold digA nodeD; rw [if_neg (by omega), hC, hT]] at this
        exact this
      generalize nodeD a b = D at *
      generalize nodeA a b = D2 at *
      clear ha hb
      go_enter Tryd.func48, Tryd.ntmps48
      go_wp2_with (first
        | (go_at_call 45; with_reducible refine (ownH32 a _ h1).mono ?_; rintro e w' ⟨rfl, rfl⟩)
        | (go_at_call 45; with_reducible refine (ownH32 b _ h2).mono ?_; rintro e w' ⟨rfl, rfl⟩)
        | (go_at_call 11; refine (hD _ HK.out h0).mono ?_; rintro e w1 ⟨rfl, hB1⟩))
      go_ret
      exact ⟨ret_str' HR.out.symm, hB1⟩
    · have HR : Hid (nodeA a b = ⟨#[]⟩) := if_neg (fun h => h2 h.2)
      generalize nodeA a b = D2 at *
      go_enter Tryd.func48, Tryd.ntmps48
      go_wp2_with (first
        | (go_at_call 45; with_reducible refine (ownH32 a _ h1).mono ?_; rintro e w' ⟨rfl, rfl⟩)
        | (go_at_call 45; with_reducible refine (ownH32' b _ h2 hb).mono ?_; rintro e w' ⟨rfl, rfl⟩))
      go_ret
      exact ⟨ret_str' HR.out.symm, Below.refl _ _⟩
  · have HR : Hid (nodeA a b = ⟨#[]⟩) := if_neg (fun h => h1 h.1)
    generalize nodeA a b = D2 at *
    go_enter Tryd.func48, Tryd.ntmps48
    go_wp2_with (first
      | (go_at_call 45; with_reducible refine (ownH32' a _ h1 ha).mono ?_; rintro e w' ⟨rfl, rfl⟩))
    go_ret
    exact ⟨ret_str' HR.out.symm, Below.refl _ _⟩
/- Of hashes of 32 bytes it is the node's hash. -/
theorem nodeI32 (a b : ByteArray) (w : World) (ha : a.size = 32) (hb : b.size = 32) (hk : ArrU w 8 keys) (h0 : 8 < w.heap.size) :
    Calls Tryd.prog 48 #[.string a, .string b] w fun e w' => e = .returned (.string (nodeD a b)) ∧ Below w.heap.size w w' := by
  have := nodeI a b w (by rw [ha]; decide) (by rw [hb]; decide) hk h0
  rw [show nodeA a b = nodeD a b from if_pos ⟨ha, hb⟩] at this
  exact this
theorem leafI20 (t : ByteArray) (w : World) (ht : t.size < 20000) (hk : ArrU w 8 keys) (h0 : 8 < w.heap.size) :
    Calls Tryd.prog 16 #[.string t] w fun e w' => e = .returned (.string (leafD t)) ∧ Below w.heap.size w w' := by
  have := leafI t w (by unfold maxLen; omega) hk h0
  rw [show leafA t = leafD t from if_pos ht] at this
  exact this
end Go.Proofs.YtdfglpbappeoaabDoor
