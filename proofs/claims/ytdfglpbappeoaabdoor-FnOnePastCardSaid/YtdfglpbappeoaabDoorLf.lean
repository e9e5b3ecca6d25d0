/- The hash of a leaf and of two hashes, on the specification's side. -/
import Derived.Test.YtdfglpbappeoaabDoorJn9
import Derived.Test.YtdfglpbappeoaabDoorJn10
namespace Go.Proofs.YtdfglpbappeoaabDoor
open Go.RowKit
set_option linter.unusedVariables false

def leafD (t : ByteArray) : ByteArray := digN (⟨#[0]⟩ ++ t)
def nodeD (a b : ByteArray) : ByteArray := digN (⟨#[1]⟩ ++ a ++ b)
def emptyD : ByteArray := digN ⟨#[]⟩
theorem digs8_len' (r : R8) : (digs8 r 8).length = 32 := rfl
theorem digN_size' (t : ByteArray) : (digN t).size = 32 := by
  show (digs8 _ 8).toArray.size = 32
  rw [List.size_toArray, digs8_len']
theorem leafD_size (t : ByteArray) : (leafD t).size = 32 := digN_size' _
theorem nodeD_size (a b : ByteArray) : (nodeD a b).size = 32 := digN_size' _
theorem emptyD_size : emptyD.size = 32 := digN_size' _
theorem one_size (b : UInt8) : (⟨#[b]⟩ : ByteArray).size = 1 := rfl

set_option maxRecDepth 100000 in
set_option maxHeartbeats 1000000 in
theorem specLeaf (t : ByteArray) (w : World) (ht : t.size ≤ 1048576) :
    Calls Tryd.prog 89 #[.string t] w fun e w' => e = .returned (.string (leafD t)) ∧ Below w.heap.size w w' := by
  have h1 : ∀ g c w0, IAt w0 (some ⟨g, 0, none⟩) iv → Calls Tryd.prog 125 #[HVal (some ⟨g, 0, none⟩) 8 c ⟨#[]⟩ 0, .string ⟨#[0]⟩] w0 fun e w' => ∃ g2 c2, e = .returned (HVal (some ⟨g2, 0, none⟩) 8 c2 (hrs ⟨#[0]⟩) 1) ∧ w0.heap.size ≤ g2 ∧ g2 < w'.heap.size ∧ IAt w' (some ⟨g2, 0, none⟩) (hst ⟨#[0]⟩).ints ∧ Below w0.heap.size w0 w' := fun g c w0 h =>
    moreS_m g c ivR ⟨#[]⟩ ⟨#[0]⟩ 0 w0 (by rw [ivR_ints]; exact h) (by decide) (by decide) (by decide)
  have h2 : ∀ g c w0, IAt w0 (some ⟨g, 0, none⟩) (hst ⟨#[0]⟩).ints → Calls Tryd.prog 125 #[HVal (some ⟨g, 0, none⟩) 8 c (hrs ⟨#[0]⟩) 1, .string t] w0 fun e w' => ∃ g2 c2, e = .returned (HVal (some ⟨g2, 0, none⟩) 8 c2 (hrs (⟨#[0]⟩ ++ t)) ((1 + t.size : Nat) : Int)) ∧ w0.heap.size ≤ g2 ∧ g2 < w'.heap.size ∧ IAt w' (some ⟨g2, 0, none⟩) (hst (⟨#[0]⟩ ++ t)).ints ∧ Below w0.heap.size w0 w' := fun g c w0 h => by
    have := moreS_m g c (hst ⟨#[0]⟩) (hrs ⟨#[0]⟩) t 1 w0 h (by rw [hrs_size]; decide) ht (by omega)
    rw [hst_more, hrs_more] at this
    exact this
  have h3 : ∀ g c w0, IAt w0 (some ⟨g, 0, none⟩) (hst (⟨#[0]⟩ ++ t)).ints → Calls Tryd.prog 124 #[HVal (some ⟨g, 0, none⟩) 8 c (hrs (⟨#[0]⟩ ++ t)) ((1 + t.size : Nat) : Int)] w0 fun e w' => e = .returned (.string (leafD t)) ∧ Below w0.heap.size w0 w' := fun g c w0 h => by
    have := endS_m g c (hst (⟨#[0]⟩ ++ t)) (hrs (⟨#[0]⟩ ++ t)) (1 + t.size) w0 h (by rw [hrs_size]; omega) (by omega)
    have e : leafD t = endD (hst (⟨#[0]⟩ ++ t)) (hrs (⟨#[0]⟩ ++ t)) (1 + t.size) := by
      unfold leafD
      rw [digN_of, ByteArray.size_append, one_size]
    rw [e]
    exact this
  obtain ⟨z, hz⟩ : ∃ z : Int, ((1 + t.size : Nat) : Int) = z := ⟨_, rfl⟩
  rw [hz] at h2 h3
  generalize leafD t = D at *
  generalize hrs (⟨#[0]⟩ ++ t) = r2 at *
  generalize (hst (⟨#[0]⟩ ++ t)).ints = l2 at *
  generalize hrs ⟨#[0]⟩ = r1 at *
  generalize (hst ⟨#[0]⟩).ints = l1 at *
  clear hz
  go_enter Tryd.func89, Tryd.ntmps89
  go_wp2_with (first
    | (go_at_call 126; refine (beginS_any _).mono ?_; rintro e w1 ⟨g1, rfl, hg1, hl1, hI1, hB1⟩)
    | (go_at_call 125; with_reducible refine (h1 g1 8 _ hI1).mono ?_; rintro e w2 ⟨g2, c2, rfl, hg2, hl2, hI2, hB2⟩)
    | (go_at_call 125; with_reducible refine (h2 g2 c2 _ hI2).mono ?_; rintro e w3 ⟨g3, c3, rfl, hg3, hl3, hI3, hB3⟩)
    | (go_at_call 124; refine (h3 g3 c3 _ hI3).mono ?_; rintro e w4 ⟨rfl, hB4⟩))
  go_ret
  have z1 := hB1.size
  have z2 := hB2.size
  have z3 := hB3.size
  exact ⟨rfl, ((hB1.trans (hB2.mono z1)).trans (hB3.mono (by omega))).trans (hB4.mono (by omega))⟩

set_option maxRecDepth 100000 in
set_option maxHeartbeats 1000000 in
theorem specNode (a b : ByteArray) (w : World) (ha : a.size ≤ 9000) (hb : b.size ≤ 9000) :
    Calls Tryd.prog 61 #[.string a, .string b] w fun e w' => e = .returned (.string (nodeD a b)) ∧ Below w.heap.size w w' := by
  obtain ⟨C, hC⟩ : ∃ C, (⟨#[1]⟩ : ByteArray) ++ a = C := ⟨_, rfl⟩
  have s1 : C.size = 1 + a.size := by rw [← hC, ByteArray.size_append, one_size]
  obtain ⟨T, hT⟩ : ∃ T, C ++ b = T := ⟨_, rfl⟩
  have s2 : T.size = C.size + b.size := by rw [← hT, ByteArray.size_append]
  have hD : ∀ w0, Calls Tryd.prog 88 #[.string T] w0 fun e w' => e = .returned (.string (nodeD a b)) ∧ Below w0.heap.size w0 w' := fun w0 => by
    have := digestS_any T w0 (by unfold maxLen; omega)
    rw [show digA T = nodeD a b by unfold digA nodeD; rw [if_neg (by omega), hC, hT]] at this
    exact this
  generalize nodeD a b = N at *
  go_enter Tryd.func61, Tryd.ntmps61
  go_wp2_with (go_at_call 88; refine (hD _).mono ?_; rintro e w1 ⟨rfl, hB1⟩)
  go_ret
  exact ⟨rfl, hB1⟩

theorem specFits (t : ByteArray) (w : World) (h : t.size < 20000) :
    Calls Tryd.prog 87 #[.string t] w fun e w' => e = .returned (.bool true) ∧ w = w' := by
  have d1 : decide ((t.size : Int) < 20000) = true := decide_eq_true (by omega)
  go_enter Tryd.func87, Tryd.ntmps87
  go_wp2
  go_ret
  exact ⟨rfl, rfl⟩
theorem specH32 (t : ByteArray) (w : World) (h : t.size = 32) :
    Calls Tryd.prog 59 #[.string t] w fun e w' => e = .returned (.bool true) ∧ w = w' := by
  have d1 : ((t.size : Int) == 32) = true := beq_iff_eq.2 (by omega)
  go_enter Tryd.func59, Tryd.ntmps59
  go_wp2
  go_ret
  exact ⟨rfl, rfl⟩
theorem specH32' (t : ByteArray) (w : World) (h : ¬ t.size = 32) (hm : t.size ≤ maxLen) :
    Calls Tryd.prog 59 #[.string t] w fun e w' => e = .returned (.bool false) ∧ w = w' := by
  unfold maxLen at hm
  have d1 : ((t.size : Int) == 32) = false := beq_eq_false_iff_ne.2 (by omega)
  go_enter Tryd.func59, Tryd.ntmps59
  go_wp2
  go_ret
  exact ⟨rfl, rfl⟩
/- The exported ones. -/
def leafA (t : ByteArray) : ByteArray := if t.size < 20000 then leafD t else ⟨#[]⟩
def nodeA (a b : ByteArray) : ByteArray := if a.size = 32 ∧ b.size = 32 then nodeD a b else ⟨#[]⟩
set_option maxRecDepth 100000 in
theorem specLeafH (t : ByteArray) (w : World) (ht : t.size ≤ maxLen) :
    Calls Tryd.prog 54 #[.string t] w fun e w' => e = .returned (.string (leafA t)) ∧ Below w.heap.size w w' := by
  unfold maxLen at ht
  by_cases h : t.size < 20000
  · have HR : Hid (leafA t = leafD t) := if_pos h
    have hL : ∀ w0, Calls Tryd.prog 89 #[.string t] w0 fun e w' => e = .returned (.string (leafD t)) ∧ Below w0.heap.size w0 w' := fun w0 => specLeaf t w0 (by omega)
    generalize leafD t = D at *
    go_enter Tryd.func54, Tryd.ntmps54
    go_wp2_with (first
      | (go_at_call 87; refine (specFits t _ h).mono ?_; rintro e w' ⟨rfl, rfl⟩)
      | (go_at_call 89; refine (hL _).mono ?_; rintro e w1 ⟨rfl, hB1⟩))
    go_ret
    exact ⟨ret_str' HR.out.symm, hB1⟩
  · have HR : Hid (leafA t = ⟨#[]⟩) := if_neg h
    have d1 : decide ((t.size : Int) < 20000) = false := decide_eq_false (by omega)
    go_enter Tryd.func54, Tryd.ntmps54
    go_wp2
    go_ret
    exact ⟨ret_str' HR.out.symm, Below.refl _ _⟩
set_option maxRecDepth 100000 in
theorem specNodeH (a b : ByteArray) (w : World) (ha : a.size ≤ maxLen) (hb : b.size ≤ maxLen) :
    Calls Tryd.prog 62 #[.string a, .string b] w fun e w' => e = .returned (.string (nodeA a b)) ∧ Below w.heap.size w w' := by
  unfold maxLen at ha hb
  by_cases h1 : a.size = 32
  · have d1 : ((a.size : Int) == 32) = true := beq_iff_eq.2 (by omega)
    by_cases h2 : b.size = 32
    · have d2 : ((b.size : Int) == 32) = true := beq_iff_eq.2 (by omega)
      have HR : Hid (nodeA a b = nodeD a b) := if_pos ⟨h1, h2⟩
      have hL : ∀ w0, Calls Tryd.prog 61 #[.string a, .string b] w0 fun e w' => e = .returned (.string (nodeD a b)) ∧ Below w0.heap.size w0 w' := fun w0 => specNode a b w0 (by omega) (by omega)
      generalize nodeD a b = D at *
      go_enter Tryd.func62, Tryd.ntmps62
      go_wp2_with (first
        | (go_at_call 59; with_reducible refine (specH32 a _ h1).mono ?_; rintro e w' ⟨rfl, rfl⟩)
        | (go_at_call 59; with_reducible refine (specH32 b _ h2).mono ?_; rintro e w' ⟨rfl, rfl⟩)
        | (go_at_call 61; refine (hL _).mono ?_; rintro e w1 ⟨rfl, hB1⟩))
      go_ret
      exact ⟨ret_str' HR.out.symm, hB1⟩
    · have d2 : ((b.size : Int) == 32) = false := beq_eq_false_iff_ne.2 (by omega)
      have HR : Hid (nodeA a b = ⟨#[]⟩) := if_neg (fun h => h2 h.2)
      go_enter Tryd.func62, Tryd.ntmps62
      go_wp2
      go_ret
      exact ⟨ret_str' HR.out.symm, Below.refl _ _⟩
  · have d1 : ((a.size : Int) == 32) = false := beq_eq_false_iff_ne.2 (by omega)
    have HR : Hid (nodeA a b = ⟨#[]⟩) := if_neg (fun h => h1 h.1)
    go_enter Tryd.func62, Tryd.ntmps62
    go_wp2
    go_ret
    exact ⟨ret_str' HR.out.symm, Below.refl _ _⟩
end Go.Proofs.YtdfglpbappeoaabDoor
