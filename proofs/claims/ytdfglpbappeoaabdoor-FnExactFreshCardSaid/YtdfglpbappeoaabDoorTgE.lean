/- Are two rows of targets the same? slices.Equal at targets, targetsSame. -/
import Derived.Test.YtdfglpbappeoaabDoorTgL
import Derived.Test.YtdfglpbappeoaabDoorMetL
namespace Go.Proofs.YtdfglpbappeoaabDoor
open Go.RowKit
set_option linter.unusedVariables false

def TarV.same (x y : TarV) : Bool := decide (x.nm = y.nm) && (decide (x.im = y.im) && decide (x.sz = y.sz))
def tgsSame (l1 l2 : List TarV) : Bool := decide (l1.length = l2.length) && (l1.zip l2).all (fun p => p.1.same p.2)
theorem tgsSame_yes {l1 l2 : List TarV} (hn : l1.length = l2.length) (h : ∀ k (h1 : k < l1.length) (h2 : k < l2.length), l1[k].same l2[k] = true) : tgsSame l1 l2 = true := by
  unfold tgsSame
  rw [decide_eq_true hn, Bool.true_and, List.all_eq_true]
  intro p hp
  obtain ⟨k, hk, rfl⟩ := List.mem_iff_getElem.1 hp
  rw [List.length_zip] at hk
  rw [List.getElem_zip]
  exact h k (by omega) (by omega)
theorem tgsSame_no {l1 l2 : List TarV} {k : Nat} (h1 : k < l1.length) (h2 : k < l2.length) (h : l1[k].same l2[k] = false) : tgsSame l1 l2 = false := by
  cases ho : tgsSame l1 l2 with
  | false => rfl
  | true =>
    unfold tgsSame at ho
    rw [Bool.and_eq_true, List.all_eq_true] at ho
    have hz : k < (l1.zip l2).length := by rw [List.length_zip]; omega
    have := ho.2 _ (List.getElem_mem hz)
    rw [List.getElem_zip, h] at this
    cases this
theorem tgsSame_len {l1 l2 : List TarV} (h : ¬ l1.length = l2.length) : tgsSame l1 l2 = false := by
  unfold tgsSame
  rw [decide_eq_false h]
  rfl
theorem tgsSame_nil (l : List TarV) : tgsSame l [] = decide (l.length = 0) := by
  unfold tgsSame
  rw [List.zip_nil_right]
  simp
theorem tgsSame_self (l : List TarV) : tgsSame l l = true := tgsSame_yes rfl fun k h1 h2 => by
  unfold TarV.same
  rw [decide_eq_true rfl, decide_eq_true rfl, decide_eq_true rfl]
  rfl
structure KpE2 (w : World) (a1 a2 : Option Addr) (l1 l2 : List TarV) (w' : World) : Prop where
  below : Below w.heap.size w w'
  s1 : TgsAt w' a1 l1
  s2 : TgsAt w' a2 l2
theorem KpE2.start {w : World} {a1 a2 : Option Addr} {l1 l2 : List TarV} (h1 : TgsAt w a1 l1) (h2 : TgsAt w a2 l2) : Hid (KpE2 w a1 a2 l1 l2 w) := ⟨Below.refl _ _, h1, h2⟩
theorem KpE2.call {w w' w2 : World} {a1 a2 : Option Addr} {l1 l2 : List TarV} (h : Hid (KpE2 w a1 a2 l1 l2 w')) (hb : Below w'.heap.size w' w2) : Hid (KpE2 w a1 a2 l1 l2 w2) := ⟨h.out.below.trans (hb.mono h.out.below.size), TgsAt.below h.out.s1 hb, TgsAt.below h.out.s2 hb⟩
theorem KpE2.drewN {w w' : World} {a1 a2 : Option Addr} {l1 l2 : List TarV} (h : Hid (KpE2 w a1 a2 l1 l2 w')) (n : Nat) : Hid (KpE2 w a1 a2 l1 l2 (w'.drewN n)) := ⟨belowN h.out.below n, h.out.s1, h.out.s2⟩
set_option maxRecDepth 100000 in
set_option maxHeartbeats 4000000 in
theorem tgEqI (a1 a2 : Option Addr) (c1 c2 n1 n2 : Nat) (l1 l2 : List TarV) (w : World) (hn1 : l1.length = n1) (hn2 : l2.length = n2) (h1 : TgsAt w a1 l1) (h2 : TgsAt w a2 l2) (m1 : n1 ≤ maxLen) (m2 : n2 ≤ maxLen) :
    Calls Tryd.prog 139 #[.slice a1 n1 c1, .slice a2 n2 c2] w fun e w' => e = .returned (.bool (tgsSame l1 l2)) ∧ Below w.heap.size w w' := by
  unfold maxLen at m1 m2
  by_cases hlen : n1 = n2
  case neg =>
    have hd : tgsSame l1 l2 = false := tgsSame_len (by omega)
    have d1 : ((n1 : Int) == (n2 : Int)) = false := beq_eq_false_iff_ne.2 (by omega)
    have d1' : ((n1 : Int) != (n2 : Int)) = true := by simp; omega
    rw [hd]
    clear hd hn1 hn2 h1 h2
    go_enter Tryd.func139, Tryd.ntmps139
    go_wp2
    go_ret
    exact ⟨rfl, Below.refl _ _⟩
  subst hlen
  have HS0 := KpE2.start h1 h2
  have HN1 : Hid (l1.length = n1) := hn1
  have HN2 : Hid (l2.length = n1) := hn2
  have HY : Hid ((∀ k, k < n1 → ∀ (h1 : k < l1.length) (h2 : k < l2.length), l1[k].same l2[k] = true) → tgsSame l1 l2 = true) := fun h => tgsSame_yes (by omega) (fun k x y => h k (by omega) x y)
  have HNo : Hid (∀ (k : Nat) (x : k < l1.length) (y : k < l2.length), l1[k].same l2[k] = false → tgsSame l1 l2 = false) := fun k x y h => tgsSame_no x y h
  obtain ⟨R, hR⟩ : ∃ R, tgsSame l1 l2 = R := ⟨_, rfl⟩
  rw [hR] at HY HNo ⊢
  clear hR hn1 hn2 h1 h2
  have e0 : ((n1 : Int) == (n1 : Int)) = true := by simp
  have e0' : ((n1 : Int) != (n1 : Int)) = false := by simp
  go_enter Tryd.func139, Tryd.ntmps139
  go_wp2_with fail
  go_loopw [13] (fun i wr => ∃ k : Nat, i = .int .i64 (k : Int) ∧ k ≤ n1 ∧ Hid (∀ j, j < k → ∀ (x : j < l1.length) (y : j < l2.length), l1[j].same l2[j] = true) ∧ Hid (KpE2 w a1 a2 l1 l2 wr)) (fun i _ => n1 - (intOf i).toNat)
  case atStart => exact ⟨0, rfl, Nat.zero_le _, fun j hj => absurd hj (Nat.not_lt_zero _), HS0⟩
  case round =>
    clear HS0
    obtain ⟨k, rfl, hk, HT, HS⟩ := hrel
    by_cases hlt : k < n1
    case neg =>
      obtain rfl : k = n1 := by omega
      have HF : Hid (R = true) := HY.out HT.out
      go_wp2
      go_ret
      exact ⟨retY HF.out.symm, HS.out.below⟩
    have k1 : k < l1.length := by have := HN1.out; omega
    have k2 : k < l2.length := by have := HN2.out; omega
    obtain ⟨b1, o1, rfl, c0, c1', c2'⟩ := HS.out.s1 k k1
    obtain ⟨b2, o2, rfl, d0, d1, d2⟩ := HS.out.s2 k k2
    have HNk : Hid (l1[k].same l2[k] = false → R = false) := HNo.out k k1 k2
    have HYk : Hid (l1[k].same l2[k] = true → ∀ j, j < k + 1 → ∀ (x : j < l1.length) (y : j < l2.length), l1[j].same l2[j] = true) := fun h j hj x y => by
      by_cases hjk : j < k
      · exact HT.out j hjk x y
      · obtain rfl : j = k := by omega
        exact h
    have HE : Hid (l1[k].same l2[k] = (decide (l1[k].nm = l2[k].nm) && (decide (l1[k].im = l2[k].im) && decide (l1[k].sz = l2[k].sz)))) := rfl
    generalize l1[k].same l2[k] = S at *
    generalize l1[k].nm = x1 at *
    generalize l1[k].im = y1 at *
    generalize l1[k].sz = z1 at *
    generalize l2[k].nm = x2 at *
    generalize l2[k].im = y2 at *
    generalize l2[k].sz = z2 at *
    have lk : (k : Int) < n1 := by omega
    have l0 : (0 : Int) ≤ k := by omega
    clear k1 k2 HT HNo HY e0 e0'
    by_cases hx : x1 = x2
    case neg =>
      as_aux_lemma =>
      have HF : Hid (R = false) := HNk.out (by rw [HE.out, decide_eq_false hx]; rfl)
      have f1 := txt_ne hx
      clear HNk HYk HE hx
      go_wp2_with fail
      go_quiet (fail)
      go_wp2
      go_ret
      exact ⟨retY HF.out.symm, belowN HS.out.below _⟩
    subst hx
    have g1 := txt_eq x1
    by_cases hy : y1 = y2
    case neg =>
      as_aux_lemma =>
      have HF : Hid (R = false) := HNk.out (by rw [HE.out, decide_eq_false hy, Bool.false_and, Bool.and_false])
      have f1 := txt_ne hy
      clear HNk HYk HE hy
      go_wp2_with fail
      go_quiet (fail)
      go_wp2
      go_ret
      exact ⟨retY HF.out.symm, belowN HS.out.below _⟩
    subst hy
    have g2 := txt_eq y1
    by_cases hz : z1 = z2
    case neg =>
      as_aux_lemma =>
      have HF : Hid (R = false) := HNk.out (by rw [HE.out, decide_eq_false hz, Bool.and_false, Bool.and_false])
      have f1 : (z1 == z2) = false := beq_eq_false_iff_ne.2 hz
      clear HNk HYk HE hz
      go_wp2_with fail
      go_quiet (fail)
      go_wp2
      go_ret
      exact ⟨retY HF.out.symm, belowN HS.out.below _⟩
    subst hz
    have g3 : (z1 == z1) = true := by simp
    have HT2 := HYk.out (by rw [HE.out]; simp)
    have HT3 : Hid (∀ j, j < k + 1 → ∀ (x : j < l1.length) (y : j < l2.length), l1[j].same l2[j] = true) := HT2
    clear HNk HYk HE HT2
    as_aux_lemma =>
    go_wp2_with fail
    go_quiet (fail)
    go_wp2
    go_roundw
    case rel => exact ⟨k + 1, by go_num, hlt, HT3, KpE2.drewN HS _⟩
    case measure => simp [intOf]; omega
def tsSame (v1 e1 : Int) (l1 : List TarV) (v2 e2 : Int) (l2 : List TarV) : Bool := decide (v1 = v2) && (decide (e1 = e2) && tgsSame l1 l2)
set_option maxRecDepth 100000 in
set_option maxHeartbeats 4000000 in
theorem tsSameI (v1 e1 v2 e2 : Int) (a1 a2 : Option Addr) (c1 c2 n1 n2 : Nat) (l1 l2 : List TarV) (w : World) (hn1 : l1.length = n1) (hn2 : l2.length = n2) (h1 : TgsAt w a1 l1) (h2 : TgsAt w a2 l2) (m1 : n1 ≤ maxLen) (m2 : n2 ≤ maxLen) :
    Calls Tryd.prog 114 #[.agg #[.int .i64 v1, .int .i64 e1, .slice a1 n1 c1], .agg #[.int .i64 v2, .int .i64 e2, .slice a2 n2 c2]] w fun e w' => e = .returned (.bool (tsSame v1 e1 l1 v2 e2 l2)) ∧ Below w.heap.size w w' := by
  have HS0 := KpE2.start h1 h2
  have hE : ∀ w0, Hid (KpE2 w a1 a2 l1 l2 w0) → Calls Tryd.prog 139 #[.slice a1 n1 c1, .slice a2 n2 c2] w0 fun e w' => e = .returned (.bool (tgsSame l1 l2)) ∧ Below w0.heap.size w0 w' := fun w0 h0 => tgEqI a1 a2 c1 c2 n1 n2 l1 l2 w0 hn1 hn2 h0.out.s1 h0.out.s2 m1 m2
  unfold tsSame
  generalize tgsSame l1 l2 = bR at *
  have BX : True := trivial
  clear h1 h2 hn1 hn2 m1 m2
  by_cases hv : v1 = v2
  case neg =>
    have d1 : (v1 == v2) = false := beq_eq_false_iff_ne.2 hv
    rw [decide_eq_false hv]
    clear hv
    go_enter Tryd.func114, Tryd.ntmps114
    go_wp2_with (first
      | (with_reducible refine wpList_boxV (w := w) (by with_unfolding_all rfl) 63 (.tmp 0) (by with_unfolding_all rfl) (rtv v1 e1 a1 n1 c1) (by with_unfolding_all rfl) ?_; intro w1 hA1 hB1 hS1; have z1 : w.heap.size < w1.heap.size := (by omega); clear hS1; have HS1 := KpE2.call HS0 hB1)
      | (with_reducible refine wpList_boxV (w := w1) (by with_unfolding_all rfl) 63 (.tmp 1) (by with_unfolding_all rfl) (rtv v2 e2 a2 n2 c2) (by with_unfolding_all rfl) ?_; intro w2 hA2 hB2 hS2; clear hS2; obtain ⟨p0, p1, p2⟩ := (hA1.below hB2 z1).rt3; obtain ⟨q0, q1, q2⟩ := hA2.rt3; have HS2 := KpE2.call HS1 hB2))
    go_ret
    exact ⟨rfl, HS2.out.below⟩
  subst hv
  have g1 : (v1 == v1) = true := by simp
  rw [decide_eq_true rfl, Bool.true_and]
  by_cases hw : e1 = e2
  case neg =>
    have d1 : (e1 == e2) = false := beq_eq_false_iff_ne.2 hw
    rw [decide_eq_false hw]
    clear hw
    go_enter Tryd.func114, Tryd.ntmps114
    go_wp2_with (first
      | (with_reducible refine wpList_boxV (w := w) (by with_unfolding_all rfl) 63 (.tmp 0) (by with_unfolding_all rfl) (rtv v1 e1 a1 n1 c1) (by with_unfolding_all rfl) ?_; intro w1 hA1 hB1 hS1; have z1 : w.heap.size < w1.heap.size := (by omega); clear hS1; have HS1 := KpE2.call HS0 hB1)
      | (with_reducible refine wpList_boxV (w := w1) (by with_unfolding_all rfl) 63 (.tmp 1) (by with_unfolding_all rfl) (rtv v1 e2 a2 n2 c2) (by with_unfolding_all rfl) ?_; intro w2 hA2 hB2 hS2; clear hS2; obtain ⟨p0, p1, p2⟩ := (hA1.below hB2 z1).rt3; obtain ⟨q0, q1, q2⟩ := hA2.rt3; have HS2 := KpE2.call HS1 hB2))
    go_ret
    exact ⟨rfl, HS2.out.below⟩
  subst hw
  have g2 : (e1 == e1) = true := by simp
  rw [decide_eq_true rfl, Bool.true_and]
  go_enter Tryd.func114, Tryd.ntmps114
  go_wp2_with (first
    | (with_reducible refine wpList_boxV (w := w) (by with_unfolding_all rfl) 63 (.tmp 0) (by with_unfolding_all rfl) (rtv v1 e1 a1 n1 c1) (by with_unfolding_all rfl) ?_; intro w1 hA1 hB1 hS1; have z1 : w.heap.size < w1.heap.size := (by omega); clear hS1; have HS1 := KpE2.call HS0 hB1)
    | (with_reducible refine wpList_boxV (w := w1) (by with_unfolding_all rfl) 63 (.tmp 1) (by with_unfolding_all rfl) (rtv v1 e1 a2 n2 c2) (by with_unfolding_all rfl) ?_; intro w2 hA2 hB2 hS2; clear hS2; obtain ⟨p0, p1, p2⟩ := (hA1.below hB2 z1).rt3; obtain ⟨q0, q1, q2⟩ := hA2.rt3; have HS2 := KpE2.call HS1 hB2)
    | (go_at_call 139; with_reducible refine (hE w2 HS2).mono ?_; rintro e w3 ⟨rfl, hB3⟩; have HS3 := KpE2.call HS2 hB3))
  go_ret
  exact ⟨rfl, HS3.out.below⟩
end Go.Proofs.YtdfglpbappeoaabDoor
