/- Are two roots the same? slices.Equal at int64, roleSame, slices.EqualFunc at roles, rootSame. -/
import Derived.Test.YtlhdmoinbifjdaaRlL
import Derived.Test.YtlhdmoinbifjdaaMetI
namespace Go.Proofs.Ytlhdmoinbifjdaa
open Go.RowKit
set_option linter.unusedVariables false

theorem ints_yes {l1 l2 : List Int} (hn : l1.length = l2.length) (h : ∀ k (h1 : k < l1.length) (h2 : k < l2.length), l1[k] = l2[k]) : decide (l1 = l2) = true := decide_eq_true (List.ext_getElem hn h)
theorem ints_no {l1 l2 : List Int} {k : Nat} (h1 : k < l1.length) (h2 : k < l2.length) (h : ¬ l1[k] = l2[k]) : decide (l1 = l2) = false := decide_eq_false fun e => by
  subst e
  exact h rfl
structure KpI2 (w : World) (a1 a2 : Option Addr) (l1 l2 : List Int) (w' : World) : Prop where
  below : Below w.heap.size w w'
  s1 : AI w' a1 l1
  s2 : AI w' a2 l2
theorem KpI2.start {w : World} {a1 a2 : Option Addr} {l1 l2 : List Int} (h1 : AI w a1 l1) (h2 : AI w a2 l2) : Hid (KpI2 w a1 a2 l1 l2 w) := ⟨Below.refl _ _, h1, h2⟩
theorem KpI2.call {w w' w2 : World} {a1 a2 : Option Addr} {l1 l2 : List Int} (h : Hid (KpI2 w a1 a2 l1 l2 w')) (hb : Below w'.heap.size w' w2) : Hid (KpI2 w a1 a2 l1 l2 w2) := ⟨h.out.below.trans (hb.mono h.out.below.size), h.out.s1.below hb, h.out.s2.below hb⟩
theorem KpI2.drewN {w w' : World} {a1 a2 : Option Addr} {l1 l2 : List Int} (h : Hid (KpI2 w a1 a2 l1 l2 w')) (n : Nat) : Hid (KpI2 w a1 a2 l1 l2 (w'.drewN n)) := ⟨belowN h.out.below n, h.out.s1, h.out.s2⟩
set_option maxRecDepth 100000 in
set_option maxHeartbeats 4000000 in
theorem eqIntsI (a1 a2 : Option Addr) (c1 c2 n1 n2 : Nat) (l1 l2 : List Int) (w : World) (hn1 : l1.length = n1) (hn2 : l2.length = n2) (h1 : AI w a1 l1) (h2 : AI w a2 l2) (m1 : n1 ≤ maxLen) (m2 : n2 ≤ maxLen) :
    Calls Try.prog 154 #[.slice a1 n1 c1, .slice a2 n2 c2] w fun e w' => e = .returned (.bool (decide (l1 = l2))) ∧ Below w.heap.size w w' := by
  unfold maxLen at m1 m2
  by_cases hlen : n1 = n2
  case neg =>
    have hd : decide (l1 = l2) = false := decide_eq_false fun e => by subst e; omega
    have d1 : ((n1 : Int) == (n2 : Int)) = false := beq_eq_false_iff_ne.2 (by omega)
    have d1' : ((n1 : Int) != (n2 : Int)) = true := by simp; omega
    rw [hd]
    clear hd hn1 hn2 h1 h2
    go_enter Try.func154, Try.ntmps154
    go_wp2
    go_ret
    exact ⟨rfl, Below.refl _ _⟩
  subst hlen
  have HS0 := KpI2.start h1 h2
  have HN1 : Hid (l1.length = n1) := hn1
  have HN2 : Hid (l2.length = n1) := hn2
  have HY : Hid ((∀ k, k < n1 → ∀ (h1 : k < l1.length) (h2 : k < l2.length), l1[k] = l2[k]) → decide (l1 = l2) = true) := fun h => ints_yes (by omega) (fun k x y => h k (by omega) x y)
  have HNo : Hid (∀ (k : Nat) (x : k < l1.length) (y : k < l2.length), ¬ l1[k] = l2[k] → decide (l1 = l2) = false) := fun k x y h => ints_no x y h
  obtain ⟨R, hR⟩ : ∃ R, decide (l1 = l2) = R := ⟨_, rfl⟩
  rw [hR] at HY HNo ⊢
  clear hR hn1 hn2 h1 h2
  have e0 : ((n1 : Int) == (n1 : Int)) = true := by simp
  have e0' : ((n1 : Int) != (n1 : Int)) = false := by simp
  go_enter Try.func154, Try.ntmps154
  go_wp2_with fail
  go_loopw [13] (fun i wr => ∃ k : Nat, i = .int .i64 (k : Int) ∧ k ≤ n1 ∧ Hid (∀ j, j < k → ∀ (x : j < l1.length) (y : j < l2.length), l1[j] = l2[j]) ∧ Hid (KpI2 w a1 a2 l1 l2 wr)) (fun i _ => n1 - (intOf i).toNat)
  case atStart => exact ⟨0, rfl, Nat.zero_le _, fun j hj => absurd hj (Nat.not_lt_zero _), HS0⟩
  case round =>
    clear HS0
    obtain ⟨k, rfl, hk, HT, HS⟩ := hrel
    by_cases hlt : k < n1
    case neg =>
      obtain rfl : k = n1 := by omega
      have HF : Hid (R = true) := HY.out HT.out
      go_wp2
      go_ret
      exact ⟨retY HF.out.symm, HS.out.below⟩
    have k1 : k < l1.length := by have := HN1.out; omega
    have k2 : k < l2.length := by have := HN2.out; omega
    obtain ⟨b1, o1, rfl, c0⟩ := HS.out.s1 k k1
    obtain ⟨b2, o2, rfl, d0⟩ := HS.out.s2 k k2
    have HNk : Hid (¬ l1[k] = l2[k] → R = false) := HNo.out k k1 k2
    have HYk : Hid (l1[k] = l2[k] → ∀ j, j < k + 1 → ∀ (x : j < l1.length) (y : j < l2.length), l1[j] = l2[j]) := fun h j hj x y => by
      by_cases hjk : j < k
      · exact HT.out j hjk x y
      · obtain rfl : j = k := by omega
        exact h
    generalize l1[k] = x1 at *
    generalize l2[k] = x2 at *
    have lk : (k : Int) < n1 := by omega
    have l0 : (0 : Int) ≤ k := by omega
    clear k1 k2 HT HNo HY e0 e0'
    by_cases hx : x1 = x2
    case neg =>
      as_aux_lemma =>
      have HF : Hid (R = false) := HNk.out hx
      have f1 : (x1 == x2) = false := beq_eq_false_iff_ne.2 hx
      have f2 : (x1 != x2) = true := by simp [hx]
      clear HNk HYk hx
      go_wp2_with fail
      go_quiet (fail)
      go_wp2
      go_ret
      exact ⟨retY HF.out.symm, belowN HS.out.below _⟩
    subst hx
    have HT3 : Hid (∀ j, j < k + 1 → ∀ (x : j < l1.length) (y : j < l2.length), l1[j] = l2[j]) := HYk.out rfl
    have f1 : (x1 == x1) = true := by simp
    have f2 : (x1 != x1) = false := by simp
    clear HNk HYk
    as_aux_lemma =>
    go_wp2_with fail
    go_quiet (fail)
    go_wp2
    go_roundw
    case rel => exact ⟨k + 1, by go_num, hlt, HT3, KpI2.drewN HS _⟩
    case measure => simp [intOf]; omega
def rlSame (d1 : Int) (k1 : List Int) (d2 : Int) (k2 : List Int) : Bool := decide (d1 = d2) && decide (k1 = k2)
set_option maxRecDepth 100000 in
set_option maxHeartbeats 4000000 in
theorem rlSameI (nd1 nd2 : Int) (a1 a2 : Option Addr) (c1 c2 n1 n2 : Nat) (l1 l2 : List Int) (w : World) (hn1 : l1.length = n1) (hn2 : l2.length = n2) (h1 : AI w a1 l1) (h2 : AI w a2 l2) (m1 : n1 ≤ maxLen) (m2 : n2 ≤ maxLen) :
    Calls Try.prog 117 #[.agg #[.int .i64 nd1, .slice a1 n1 c1], .agg #[.int .i64 nd2, .slice a2 n2 c2]] w fun e w' => e = .returned (.bool (rlSame nd1 l1 nd2 l2)) ∧ Below w.heap.size w w' := by
  have HS0 := KpI2.start h1 h2
  have hE : ∀ w0, Hid (KpI2 w a1 a2 l1 l2 w0) → Calls Try.prog 154 #[.slice a1 n1 c1, .slice a2 n2 c2] w0 fun e w' => e = .returned (.bool (decide (l1 = l2))) ∧ Below w0.heap.size w0 w' := fun w0 h0 => eqIntsI a1 a2 c1 c2 n1 n2 l1 l2 w0 hn1 hn2 h0.out.s1 h0.out.s2 m1 m2
  unfold rlSame
  generalize decide (l1 = l2) = bR at *
  clear h1 h2 hn1 hn2 m1 m2
  by_cases hv : nd1 = nd2
  case neg =>
    have d1 : (nd1 == nd2) = false := beq_eq_false_iff_ne.2 hv
    rw [decide_eq_false hv]
    clear hv
    go_enter Try.func117, Try.ntmps117
    go_wp2_with (first
      | (with_reducible refine wpList_boxV (w := w) (by with_unfolding_all rfl) 105 (.tmp 0) (by with_unfolding_all rfl) (rlv nd1 a1 n1 c1) (by with_unfolding_all rfl) ?_; intro w1 hA1 hB1 hS1; have z1 : w.heap.size < w1.heap.size := (by omega); clear hS1; have HS1 := KpI2.call HS0 hB1)
      | (with_reducible refine wpList_boxV (w := w1) (by with_unfolding_all rfl) 105 (.tmp 1) (by with_unfolding_all rfl) (rlv nd2 a2 n2 c2) (by with_unfolding_all rfl) ?_; intro w2 hA2 hB2 hS2; clear hS2; obtain ⟨p0, p1⟩ := (hA1.below hB2 z1).rl; obtain ⟨q0, q1⟩ := hA2.rl; have HS2 := KpI2.call HS1 hB2))
    go_ret
    exact ⟨rfl, HS2.out.below⟩
  subst hv
  have g1 : (nd1 == nd1) = true := by simp
  rw [decide_eq_true rfl, Bool.true_and]
  go_enter Try.func117, Try.ntmps117
  go_wp2_with (first
    | (with_reducible refine wpList_boxV (w := w) (by with_unfolding_all rfl) 105 (.tmp 0) (by with_unfolding_all rfl) (rlv nd1 a1 n1 c1) (by with_unfolding_all rfl) ?_; intro w1 hA1 hB1 hS1; have z1 : w.heap.size < w1.heap.size := (by omega); clear hS1; have HS1 := KpI2.call HS0 hB1)
    | (with_reducible refine wpList_boxV (w := w1) (by with_unfolding_all rfl) 105 (.tmp 1) (by with_unfolding_all rfl) (rlv nd1 a2 n2 c2) (by with_unfolding_all rfl) ?_; intro w2 hA2 hB2 hS2; clear hS2; obtain ⟨p0, p1⟩ := (hA1.below hB2 z1).rl; obtain ⟨q0, q1⟩ := hA2.rl; have HS2 := KpI2.call HS1 hB2)
    | (go_at_call 154; with_reducible refine (hE w2 HS2).mono ?_; rintro e w3 ⟨rfl, hB3⟩; have HS3 := KpI2.call HS2 hB3))
  go_ret
  exact ⟨rfl, HS3.out.below⟩
def rlsSame (r1 r2 : List RoleV) : Bool := decide (rkeys r1 = rkeys r2)
theorem rlsSame_yes {r1 r2 : List RoleV} (hn : r1.length = r2.length) (h : ∀ k (h1 : k < r1.length) (h2 : k < r2.length), rlSame r1[k].need r1[k].ks r2[k].need r2[k].ks = true) : rlsSame r1 r2 = true := by
  refine decide_eq_true (List.ext_getElem (by unfold rkeys; rw [List.length_map, List.length_map]; exact hn) fun k h1 h2 => ?_)
  unfold rkeys at h1 h2 ⊢
  rw [List.length_map] at h1 h2
  rw [List.getElem_map, List.getElem_map]
  have := h k h1 h2
  unfold rlSame at this
  rw [Bool.and_eq_true, decide_eq_true_eq, decide_eq_true_eq] at this
  unfold RoleV.key
  rw [this.1, this.2]
theorem rlsSame_no {r1 r2 : List RoleV} {k : Nat} (h1 : k < r1.length) (h2 : k < r2.length) (h : rlSame r1[k].need r1[k].ks r2[k].need r2[k].ks = false) : rlsSame r1 r2 = false := decide_eq_false fun e => by
  obtain ⟨x, y⟩ := rkeys_get e h1 h2
  unfold rlSame at h
  rw [decide_eq_true x, decide_eq_true y] at h
  cases h
theorem rlsSame_len {r1 r2 : List RoleV} (h : ¬ r1.length = r2.length) : rlsSame r1 r2 = false := decide_eq_false fun e => h (rkeys_len e)
structure KpQ2 (w : World) (a1 a2 : Option Addr) (r1 r2 : List RoleV) (w' : World) : Prop where
  below : Below w.heap.size w w'
  s1 : RlsAt w' a1 r1
  s2 : RlsAt w' a2 r2
theorem KpQ2.start {w : World} {a1 a2 : Option Addr} {r1 r2 : List RoleV} (h1 : RlsAt w a1 r1) (h2 : RlsAt w a2 r2) : Hid (KpQ2 w a1 a2 r1 r2 w) := ⟨Below.refl _ _, h1, h2⟩
theorem KpQ2.call {w w' w2 : World} {a1 a2 : Option Addr} {r1 r2 : List RoleV} (h : Hid (KpQ2 w a1 a2 r1 r2 w')) (hb : Below w'.heap.size w' w2) : Hid (KpQ2 w a1 a2 r1 r2 w2) := ⟨h.out.below.trans (hb.mono h.out.below.size), h.out.s1.below hb, h.out.s2.below hb⟩
set_option maxRecDepth 100000 in
set_option maxHeartbeats 4000000 in
theorem eqRlsI (a1 a2 : Option Addr) (c1 c2 n1 n2 : Nat) (r1 r2 : List RoleV) (w : World) (hn1 : r1.length = n1) (hn2 : r2.length = n2) (h1 : RlsAt w a1 r1) (h2 : RlsAt w a2 r2) (m1 : n1 ≤ maxLen) (m2 : n2 ≤ maxLen) (w1 : ∀ r ∈ r1, r.ks.length ≤ maxLen) (w2 : ∀ r ∈ r2, r.ks.length ≤ maxLen) :
    Calls Try.prog 116 #[.slice a1 n1 c1, .slice a2 n2 c2, .func (.func 117) #[] #[]] w fun e w' => e = .returned (.bool (rlsSame r1 r2)) ∧ Below w.heap.size w w' := by
  unfold maxLen at m1 m2
  by_cases hlen : n1 = n2
  case neg =>
    have hd : rlsSame r1 r2 = false := rlsSame_len (by omega)
    have d1 : ((n1 : Int) == (n2 : Int)) = false := beq_eq_false_iff_ne.2 (by omega)
    have d1' : ((n1 : Int) != (n2 : Int)) = true := by simp; omega
    rw [hd]
    clear hd hn1 hn2 h1 h2 w1 w2
    go_enter Try.func116, Try.ntmps116
    go_wp2
    go_ret
    exact ⟨rfl, Below.refl _ _⟩
  subst hlen
  have HS0 := KpQ2.start h1 h2
  have HN1 : Hid (r1.length = n1) := hn1
  have HN2 : Hid (r2.length = n1) := hn2
  have HW1 : Hid (∀ r ∈ r1, r.ks.length ≤ maxLen) := w1
  have HW2 : Hid (∀ r ∈ r2, r.ks.length ≤ maxLen) := w2
  have HY : Hid ((∀ k, k < n1 → ∀ (h1 : k < r1.length) (h2 : k < r2.length), rlSame r1[k].need r1[k].ks r2[k].need r2[k].ks = true) → rlsSame r1 r2 = true) := fun h => rlsSame_yes (by omega) (fun k x y => h k (by omega) x y)
  have HNo : Hid (∀ (k : Nat) (x : k < r1.length) (y : k < r2.length), rlSame r1[k].need r1[k].ks r2[k].need r2[k].ks = false → rlsSame r1 r2 = false) := fun k x y h => rlsSame_no x y h
  obtain ⟨R, hR⟩ : ∃ R, rlsSame r1 r2 = R := ⟨_, rfl⟩
  rw [hR] at HY HNo ⊢
  clear hR hn1 hn2 h1 h2 w1 w2
  have e0 : ((n1 : Int) == (n1 : Int)) = true := by simp
  have e0' : ((n1 : Int) != (n1 : Int)) = false := by simp
  go_enter Try.func116, Try.ntmps116
  go_wp2_with fail
  go_loopw [17] (fun i wr => ∃ k : Nat, i = .int .i64 (k : Int) ∧ k ≤ n1 ∧ Hid (∀ j, j < k → ∀ (x : j < r1.length) (y : j < r2.length), rlSame r1[j].need r1[j].ks r2[j].need r2[j].ks = true) ∧ Hid (KpQ2 w a1 a2 r1 r2 wr)) (fun i _ => n1 - (intOf i).toNat)
  case atStart => exact ⟨0, rfl, Nat.zero_le _, fun j hj => absurd hj (Nat.not_lt_zero _), HS0⟩
  case round =>
    clear HS0
    obtain ⟨k, rfl, hk, HT, HS⟩ := hrel
    by_cases hlt : k < n1
    case neg =>
      obtain rfl : k = n1 := by omega
      have HF : Hid (R = true) := HY.out HT.out
      go_wp2
      go_ret
      exact ⟨retY HF.out.symm, HS.out.below⟩
    have k1 : k < r1.length := by have := HN1.out; omega
    have k2 : k < r2.length := by have := HN2.out; omega
    obtain ⟨b1, o1, rfl, c0, c1', hai1⟩ := HS.out.s1 k k1
    obtain ⟨b2, o2, rfl, d0, d1', hai2⟩ := HS.out.s2 k k2
    have x1 := HW1.out r1[k] (List.getElem_mem k1)
    have x2 := HW2.out r2[k] (List.getElem_mem k2)
    have HNk : Hid (rlSame r1[k].need r1[k].ks r2[k].need r2[k].ks = false → R = false) := HNo.out k k1 k2
    have HYk : Hid (rlSame r1[k].need r1[k].ks r2[k].need r2[k].ks = true → ∀ j, j < k + 1 → ∀ (x : j < r1.length) (y : j < r2.length), rlSame r1[j].need r1[j].ks r2[j].need r2[j].ks = true) := fun h j hj x y => by
      by_cases hjk : j < k
      · exact HT.out j hjk x y
      · obtain rfl : j = k := by omega
        exact h
    have hG : ∀ w0, Hid (KpQ2 w (some ⟨b1, o1, none⟩) (some ⟨b2, o2, none⟩) r1 r2 w0) → Calls Try.prog 117 #[.agg #[.int .i64 r1[k].need, .slice r1[k].ka r1[k].ks.length r1[k].kc], .agg #[.int .i64 r2[k].need, .slice r2[k].ka r2[k].ks.length r2[k].kc]] w0 fun e w' => e = .returned (.bool (rlSame r1[k].need r1[k].ks r2[k].need r2[k].ks)) ∧ Below w0.heap.size w0 w' := fun w0 h0 => rlSameI r1[k].need r2[k].need r1[k].ka r2[k].ka r1[k].kc r2[k].kc _ _ r1[k].ks r2[k].ks w0 rfl rfl (by obtain ⟨_, _, _, _, _, h⟩ := h0.out.s1 k k1; exact h) (by obtain ⟨_, _, _, _, _, h⟩ := h0.out.s2 k k2; exact h) x1 x2
    generalize rlSame r1[k].need r1[k].ks r2[k].need r2[k].ks = S at *
    generalize r1[k].need = nd1 at *
    generalize r1[k].ka = ka1 at *
    generalize r1[k].kc = kc1 at *
    generalize r1[k].ks.length = km1 at *
    generalize r2[k].need = nd2 at *
    generalize r2[k].ka = ka2 at *
    generalize r2[k].kc = kc2 at *
    generalize r2[k].ks.length = km2 at *
    have lk : (k : Int) < n1 := by omega
    have l0 : (0 : Int) ≤ k := by omega
    have HS1 := KpQ2.call HS (below_alloc _ (.cells #[.int .i64 nd1, .slice ka1 km1 kc1] 105))
    have HS2 := KpQ2.call HS1 (below_alloc _ (.cells #[.int .i64 nd2, .slice ka2 km2 kc2] 105))
    have y0 := ((below_alloc wr (.cells #[.int .i64 nd1, .slice ka1 km1 kc1] 105)).cell (p := ⟨b2, o2 + k * 2, none⟩) (cellLt d0)).trans d0
    have y1 := ((below_alloc wr (.cells #[.int .i64 nd1, .slice ka1 km1 kc1] 105)).cell (p := ⟨b2, o2 + k * 2 + 1, none⟩) (cellLt d1')).trans d1'
    clear k1 k2 HT HNo HY e0 e0' hai1 hai2 x1 x2
    cases S with
    | false =>
      as_aux_lemma =>
      have HF : Hid (R = false) := HNk.out rfl
      clear HNk HYk
      go_wp2_with (go_at_call 117; with_reducible refine (hG _ HS2).mono ?_; rintro e w5 ⟨rfl, hB5⟩; have HS5 := KpQ2.call HS2 hB5)
      go_ret
      exact ⟨retY HF.out.symm, HS5.out.below⟩
    | true =>
      as_aux_lemma =>
      have HT3 : Hid (∀ j, j < k + 1 → ∀ (x : j < r1.length) (y : j < r2.length), rlSame r1[j].need r1[j].ks r2[j].need r2[j].ks = true) := HYk.out rfl
      clear HNk HYk
      go_wp2_with (go_at_call 117; with_reducible refine (hG _ HS2).mono ?_; rintro e w5 ⟨rfl, hB5⟩; have HS5 := KpQ2.call HS2 hB5)
      go_roundw
      case rel => exact ⟨k + 1, by go_num, hlt, HT3, HS5⟩
      case measure => simp [intOf]; omega
def rtSame (v1 e1 : Int) (r1 : List RoleV) (v2 e2 : Int) (r2 : List RoleV) : Bool := decide (v1 = v2) && (decide (e1 = e2) && rlsSame r1 r2)
set_option maxRecDepth 100000 in
set_option maxHeartbeats 4000000 in
theorem rtSameI (v1 e1 v2 e2 : Int) (a1 a2 : Option Addr) (c1 c2 n1 n2 : Nat) (r1 r2 : List RoleV) (w : World) (hn1 : r1.length = n1) (hn2 : r2.length = n2) (h1 : RlsAt w a1 r1) (h2 : RlsAt w a2 r2) (m1 : n1 ≤ maxLen) (m2 : n2 ≤ maxLen) (x1 : ∀ r ∈ r1, r.ks.length ≤ maxLen) (x2 : ∀ r ∈ r2, r.ks.length ≤ maxLen) :
    Calls Try.prog 72 #[.agg #[.int .i64 v1, .int .i64 e1, .slice a1 n1 c1], .agg #[.int .i64 v2, .int .i64 e2, .slice a2 n2 c2]] w fun e w' => e = .returned (.bool (rtSame v1 e1 r1 v2 e2 r2)) ∧ Below w.heap.size w w' := by
  have HS0 := KpQ2.start h1 h2
  have hE : ∀ w0, Hid (KpQ2 w a1 a2 r1 r2 w0) → Calls Try.prog 116 #[.slice a1 n1 c1, .slice a2 n2 c2, .func (.func 117) #[] #[]] w0 fun e w' => e = .returned (.bool (rlsSame r1 r2)) ∧ Below w0.heap.size w0 w' := fun w0 h0 => eqRlsI a1 a2 c1 c2 n1 n2 r1 r2 w0 hn1 hn2 h0.out.s1 h0.out.s2 m1 m2 x1 x2
  unfold rtSame
  generalize rlsSame r1 r2 = bR at *
  clear h1 h2 hn1 hn2 m1 m2 x1 x2
  by_cases hv : v1 = v2
  case neg =>
    have d1 : (v1 == v2) = false := beq_eq_false_iff_ne.2 hv
    rw [decide_eq_false hv]
    clear hv
    go_enter Try.func72, Try.ntmps72
    go_wp2_with (first
      | (with_reducible refine wpList_boxV (w := w) (by with_unfolding_all rfl) 43 (.tmp 0) (by with_unfolding_all rfl) (rtv v1 e1 a1 n1 c1) (by with_unfolding_all rfl) ?_; intro w1 hA1 hB1 hS1; have z1 : w.heap.size < w1.heap.size := (by omega); clear hS1; have HS1 := KpQ2.call HS0 hB1)
      | (with_reducible refine wpList_boxV (w := w1) (by with_unfolding_all rfl) 43 (.tmp 1) (by with_unfolding_all rfl) (rtv v2 e2 a2 n2 c2) (by with_unfolding_all rfl) ?_; intro w2 hA2 hB2 hS2; clear hS2; obtain ⟨p0, p1, p2⟩ := (hA1.below hB2 z1).rt3; obtain ⟨q0, q1, q2⟩ := hA2.rt3; have HS2 := KpQ2.call HS1 hB2))
    go_ret
    exact ⟨rfl, HS2.out.below⟩
  subst hv
  have g1 : (v1 == v1) = true := by simp
  rw [decide_eq_true rfl, Bool.true_and]
  by_cases hw : e1 = e2
  case neg =>
    have d1 : (e1 == e2) = false := beq_eq_false_iff_ne.2 hw
    rw [decide_eq_false hw]
    clear hw
    go_enter Try.func72, Try.ntmps72
    go_wp2_with (first
      | (with_reducible refine wpList_boxV (w := w) (by with_unfolding_all rfl) 43 (.tmp 0) (by with_unfolding_all rfl) (rtv v1 e1 a1 n1 c1) (by with_unfolding_all rfl) ?_; intro w1 hA1 hB1 hS1; have z1 : w.heap.size < w1.heap.size := (by omega); clear hS1; have HS1 := KpQ2.call HS0 hB1)
      | (with_reducible refine wpList_boxV (w := w1) (by with_unfolding_all rfl) 43 (.tmp 1) (by with_unfolding_all rfl) (rtv v1 e2 a2 n2 c2) (by with_unfolding_all rfl) ?_; intro w2 hA2 hB2 hS2; clear hS2; obtain ⟨p0, p1, p2⟩ := (hA1.below hB2 z1).rt3; obtain ⟨q0, q1, q2⟩ := hA2.rt3; have HS2 := KpQ2.call HS1 hB2))
    go_ret
    exact ⟨rfl, HS2.out.below⟩
  subst hw
  have g2 : (e1 == e1) = true := by simp
  rw [decide_eq_true rfl, Bool.true_and]
  go_enter Try.func72, Try.ntmps72
  go_wp2_with (first
    | (with_reducible refine wpList_boxV (w := w) (by with_unfolding_all rfl) 43 (.tmp 0) (by with_unfolding_all rfl) (rtv v1 e1 a1 n1 c1) (by with_unfolding_all rfl) ?_; intro w1 hA1 hB1 hS1; have z1 : w.heap.size < w1.heap.size := (by omega); clear hS1; have HS1 := KpQ2.call HS0 hB1)
    | (with_reducible refine wpList_boxV (w := w1) (by with_unfolding_all rfl) 43 (.tmp 1) (by with_unfolding_all rfl) (rtv v1 e1 a2 n2 c2) (by with_unfolding_all rfl) ?_; intro w2 hA2 hB2 hS2; clear hS2; obtain ⟨p0, p1, p2⟩ := (hA1.below hB2 z1).rt3; obtain ⟨q0, q1, q2⟩ := hA2.rt3; have HS2 := KpQ2.call HS1 hB2)
    | (go_at_call 116; with_reducible refine (hE w2 HS2).mono ?_; rintro e w3 ⟨rfl, hB3⟩; have HS3 := KpQ2.call HS2 hB3))
  go_ret
  exact ⟨rfl, HS3.out.below⟩
end Go.Proofs.Ytlhdmoinbifjdaa
