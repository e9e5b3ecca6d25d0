/- Are two roots the same? On the specification's side. -/
import Derived.Test.YtlhdmoinbifjdaaSmR
namespace Go.Proofs.Ytlhdmoinbifjdaa
open Go.RowKit
set_option linter.unusedVariables false

/- two roots -/
structure KpU (w : World) (g1 g2 : Nat) (L1 L2 : List Value) (a1 a2 : Option Addr) (r1 r2 : List RoleV) (w' : World) : Prop where
  kp : KpQ2 w a1 a2 r1 r2 w'
  x1 : RowV w' g1 L1
  x2 : RowV w' g2 L2
theorem KpU.drewN {w w' : World} {g1 g2 : Nat} {L1 L2 : List Value} {a1 a2 : Option Addr} {r1 r2 : List RoleV} (h : Hid (KpU w g1 g2 L1 L2 a1 a2 r1 r2 w')) (n : Nat) : Hid (KpU w g1 g2 L1 L2 a1 a2 r1 r2 (w'.drewN n)) := ⟨⟨belowN h.out.kp.below n, h.out.kp.s1, h.out.kp.s2⟩, h.out.x1.drewN n, h.out.x2.drewN n⟩
theorem KpU.six {w w' : World} {g1 g2 : Nat} {v1 e1 v2 e2 : Int} {n1 n2 c1 c2 : Nat} {a1 a2 : Option Addr} {r1 r2 : List RoleV} (h : Hid (KpU w g1 g2 (rtv v1 e1 a1 n1 c1) (rtv v2 e2 a2 n2 c2) a1 a2 r1 r2 w')) :
    w'.cell? ⟨g1, 0, none⟩ = some (.int .i64 v1) ∧ w'.cell? ⟨g1, 1, none⟩ = some (.int .i64 e1) ∧ w'.cell? ⟨g1, 2, none⟩ = some (.slice a1 n1 c1) ∧ w'.cell? ⟨g2, 0, none⟩ = some (.int .i64 v2) ∧ w'.cell? ⟨g2, 1, none⟩ = some (.int .i64 e2) ∧ w'.cell? ⟨g2, 2, none⟩ = some (.slice a2 n2 c2) :=
  ⟨h.out.x1.rt3.1, h.out.x1.rt3.2.1, h.out.x1.rt3.2.2, h.out.x2.rt3.1, h.out.x2.rt3.2.1, h.out.x2.rt3.2.2⟩
theorem rls_at {w : World} {b o k m kc : Nat} {rs : List RoleV} {nd : Int} {ka : Option Addr} {ks : List Int} (h : RlsAt w (some ⟨b, o, none⟩) rs) (he : Hid (True → ∃ h : k < rs.length, rs[k].need = nd ∧ rs[k].ka = ka ∧ rs[k].kc = kc ∧ rs[k].ks = ks)) (hm : Hid (ks.length = m)) :
    w.cell? ⟨b, o + k * 2, none⟩ = some (.int .i64 nd) ∧ w.cell? ⟨b, o + k * 2 + 1, none⟩ = some (.slice ka m kc) ∧ AI w ka ks := by
  obtain ⟨hk, rfl, rfl, rfl, rfl⟩ := he.out trivial
  obtain ⟨b', o', e, h1, h2, h3⟩ := h k hk
  injection e with e
  injection e with e1 e2
  subst e1 e2
  rw [← hm.out]
  exact ⟨h1, h2, h3⟩
set_option maxRecDepth 100000 in
set_option maxHeartbeats 8000000 in
theorem rtSameS (v1 e1 v2 e2 : Int) (a1 a2 : Option Addr) (c1 c2 n1 n2 : Nat) (r1 r2 : List RoleV) (w : World) (hn1 : r1.length = n1) (hn2 : r2.length = n2) (h1 : RlsAt w a1 r1) (h2 : RlsAt w a2 r2) (m1 : n1 ≤ maxLen) (m2 : n2 ≤ maxLen) (x1 : ∀ r ∈ r1, r.ks.length ≤ maxLen) (x2 : ∀ r ∈ r2, r.ks.length ≤ maxLen) :
    Calls Try.prog 70 #[.agg #[.int .i64 v1, .int .i64 e1, .slice a1 n1 c1], .agg #[.int .i64 v2, .int .i64 e2, .slice a2 n2 c2]] w fun e w' => e = .returned (.bool (rtSame v1 e1 r1 v2 e2 r2)) ∧ Below w.heap.size w w' := by
  unfold maxLen at m1 m2
  have HS0 := KpQ2.start h1 h2
  unfold rtSame
  by_cases hv : v1 = v2
  case neg =>
    have d1 : (v1 == v2) = false := beq_eq_false_iff_ne.2 hv
    have d2 : (v1 != v2) = true := by simp [hv]
    rw [decide_eq_false hv]
    clear hv
    go_enter Try.func70, Try.ntmps70
    go_wp2_with (first
      | (with_reducible refine wpList_boxV (w := w) (by with_unfolding_all rfl) 43 (.tmp 0) (by with_unfolding_all rfl) (rtv v1 e1 a1 n1 c1) (by with_unfolding_all rfl) ?_; intro w1 hA1 hB1 hS1; have z1 : w.heap.size < w1.heap.size := (by omega); clear hS1; have HS1 := KpQ2.call HS0 hB1)
      | (with_reducible refine wpList_boxV (w := w1) (by with_unfolding_all rfl) 43 (.tmp 1) (by with_unfolding_all rfl) (rtv v2 e2 a2 n2 c2) (by with_unfolding_all rfl) ?_; intro w2 hA2 hB2 hS2; clear hS2; obtain ⟨p0, p1, p2⟩ := (hA1.below hB2 z1).rt3; obtain ⟨q0, q1, q2⟩ := hA2.rt3; have HS2 := KpQ2.call HS1 hB2))
    go_ret
    exact ⟨rfl, HS2.out.below⟩
  subst hv
  have g1 : (v1 == v1) = true := by simp
  have g1' : (v1 != v1) = false := by simp
  rw [decide_eq_true rfl, Bool.true_and]
  by_cases hw : e1 = e2
  case neg =>
    have d1 : (e1 == e2) = false := beq_eq_false_iff_ne.2 hw
    have d2 : (e1 != e2) = true := by simp [hw]
    rw [decide_eq_false hw]
    clear hw
    go_enter Try.func70, Try.ntmps70
    go_wp2_with (first
      | (with_reducible refine wpList_boxV (w := w) (by with_unfolding_all rfl) 43 (.tmp 0) (by with_unfolding_all rfl) (rtv v1 e1 a1 n1 c1) (by with_unfolding_all rfl) ?_; intro w1 hA1 hB1 hS1; have z1 : w.heap.size < w1.heap.size := (by omega); clear hS1; have HS1 := KpQ2.call HS0 hB1)
      | (with_reducible refine wpList_boxV (w := w1) (by with_unfolding_all rfl) 43 (.tmp 1) (by with_unfolding_all rfl) (rtv v1 e2 a2 n2 c2) (by with_unfolding_all rfl) ?_; intro w2 hA2 hB2 hS2; clear hS2; obtain ⟨p0, p1, p2⟩ := (hA1.below hB2 z1).rt3; obtain ⟨q0, q1, q2⟩ := hA2.rt3; have HS2 := KpQ2.call HS1 hB2))
    go_ret
    exact ⟨rfl, HS2.out.below⟩
  subst hw
  have g2 : (e1 == e1) = true := by simp
  have g2' : (e1 != e1) = false := by simp
  rw [decide_eq_true rfl, Bool.true_and]
  by_cases hlen : n1 = n2
  case neg =>
    have hd : rlsSame r1 r2 = false := rlsSame_len (by omega)
    have d1 : ((n1 : Int) == (n2 : Int)) = false := beq_eq_false_iff_ne.2 (by omega)
    have d1' : ((n1 : Int) != (n2 : Int)) = true := by simp; omega
    rw [hd]
    clear hd hn1 hn2 h1 h2 x1 x2
    go_enter Try.func70, Try.ntmps70
    go_wp2_with (first
      | (with_reducible refine wpList_boxV (w := w) (by with_unfolding_all rfl) 43 (.tmp 0) (by with_unfolding_all rfl) (rtv v1 e1 a1 n1 c1) (by with_unfolding_all rfl) ?_; intro w1 hA1 hB1 hS1; have z1 : w.heap.size < w1.heap.size := (by omega); clear hS1; have HS1 := KpQ2.call HS0 hB1)
      | (with_reducible refine wpList_boxV (w := w1) (by with_unfolding_all rfl) 43 (.tmp 1) (by with_unfolding_all rfl) (rtv v1 e1 a2 n2 c2) (by with_unfolding_all rfl) ?_; intro w2 hA2 hB2 hS2; clear hS2; obtain ⟨p0, p1, p2⟩ := (hA1.below hB2 z1).rt3; obtain ⟨q0, q1, q2⟩ := hA2.rt3; have HS2 := KpQ2.call HS1 hB2))
    go_ret
    exact ⟨rfl, HS2.out.below⟩
  subst hlen
  have HN1 : Hid (r1.length = n1) := hn1
  have HN2 : Hid (r2.length = n1) := hn2
  have HW1 : Hid (∀ r ∈ r1, r.ks.length ≤ maxLen) := x1
  have HW2 : Hid (∀ r ∈ r2, r.ks.length ≤ maxLen) := x2
  have HY : Hid ((∀ k, k < n1 → ∀ (h1 : k < r1.length) (h2 : k < r2.length), rlSame r1[k].need r1[k].ks r2[k].need r2[k].ks = true) → rlsSame r1 r2 = true) := fun h => rlsSame_yes (by omega) (fun k x y => h k (by omega) x y)
  have HNo : Hid (∀ (k : Nat) (x : k < r1.length) (y : k < r2.length), rlSame r1[k].need r1[k].ks r2[k].need r2[k].ks = false → rlsSame r1 r2 = false) := fun k x y h => rlsSame_no x y h
  obtain ⟨R, hR⟩ : ∃ R, rlsSame r1 r2 = R := ⟨_, rfl⟩
  rw [hR] at HY HNo ⊢
  clear hR hn1 hn2 h1 h2 x1 x2
  have e0 : ((n1 : Int) == (n1 : Int)) = true := by simp
  have e0' : ((n1 : Int) != (n1 : Int)) = false := by simp
  go_enter Try.func70, Try.ntmps70
  go_wp2_with (first
    | (with_reducible refine wpList_boxV (w := w) (by with_unfolding_all rfl) 43 (.tmp 0) (by with_unfolding_all rfl) (rtv v1 e1 a1 n1 c1) (by with_unfolding_all rfl) ?_; intro w1 hA1 hB1 hS1; have z1 : w.heap.size < w1.heap.size := (by omega); clear hS1; have HS1 := KpQ2.call HS0 hB1)
    | (with_reducible refine wpList_boxV (w := w1) (by with_unfolding_all rfl) 43 (.tmp 1) (by with_unfolding_all rfl) (rtv v1 e1 a2 n1 c2) (by with_unfolding_all rfl) ?_; intro w2 hA2 hB2 hS2; clear hS2; obtain ⟨p0, p1, p2⟩ := (hA1.below hB2 z1).rt3; obtain ⟨q0, q1, q2⟩ := hA2.rt3; have HS2 := KpQ2.call HS1 hB2))
  have HK : Hid (KpU w w.heap.size w1.heap.size (rtv v1 e1 a1 n1 c1) (rtv v1 e1 a2 n1 c2) a1 a2 r1 r2 w2) := ⟨HS2.out, hA1.below hB2 z1, hA2⟩
  clear HS2 HS1 HS0 hA1 hA2 hB1 hB2 p0 p1 p2 q0 q1 q2
  go_loopw [5] (fun i wr => ∃ k : Nat, i = .int .i64 (k : Int) ∧ k ≤ n1 ∧ Hid (∀ j, j < k → ∀ (x : j < r1.length) (y : j < r2.length), rlSame r1[j].need r1[j].ks r2[j].need r2[j].ks = true) ∧ Hid (KpU w w.heap.size w1.heap.size (rtv v1 e1 a1 n1 c1) (rtv v1 e1 a2 n1 c2) a1 a2 r1 r2 wr)) (fun i _ => n1 - (intOf i).toNat)
  case atStart => exact ⟨0, rfl, Nat.zero_le _, fun j hj => absurd hj (Nat.not_lt_zero _), HK⟩
  case round =>
    clear HK
    obtain ⟨k, rfl, hk, HT, HS⟩ := hrel
    obtain ⟨p0, p1, p2, q0, q1, q2⟩ := KpU.six HS
    by_cases hlt : k < n1
    case neg =>
      obtain rfl : k = n1 := by omega
      have HF : Hid (R = true) := HY.out HT.out
      go_wp2
      go_ret
      exact ⟨retY HF.out.symm, HS.out.kp.below⟩
    have k1 : k < r1.length := by have := HN1.out; omega
    have k2 : k < r2.length := by have := HN2.out; omega
    obtain ⟨b1, o1, rfl, -, -, -⟩ := HS.out.kp.s1 k k1
    obtain ⟨b2, o2, rfl, -, -, -⟩ := HS.out.kp.s2 k k2
    have y1 := HW1.out r1[k] (List.getElem_mem k1)
    have y2 := HW2.out r2[k] (List.getElem_mem k2)
    have HNk : Hid (rlSame r1[k].need r1[k].ks r2[k].need r2[k].ks = false → R = false) := HNo.out k k1 k2
    have HYk : Hid (rlSame r1[k].need r1[k].ks r2[k].need r2[k].ks = true → ∀ j, j < k + 1 → ∀ (x : j < r1.length) (y : j < r2.length), rlSame r1[j].need r1[j].ks r2[j].need r2[j].ks = true) := fun h j hj x y => by
      by_cases hjk : j < k
      · exact HT.out j hjk x y
      · obtain rfl : j = k := by omega
        exact h
    obtain ⟨nd1, hnd1⟩ : ∃ x, r1[k].need = x := ⟨_, rfl⟩
    obtain ⟨ka1, hka1⟩ : ∃ x, r1[k].ka = x := ⟨_, rfl⟩
    obtain ⟨kc1, hkc1⟩ : ∃ x, r1[k].kc = x := ⟨_, rfl⟩
    obtain ⟨ks1, hks1⟩ : ∃ x, r1[k].ks = x := ⟨_, rfl⟩
    obtain ⟨nd2, hnd2⟩ : ∃ x, r2[k].need = x := ⟨_, rfl⟩
    obtain ⟨ka2, hka2⟩ : ∃ x, r2[k].ka = x := ⟨_, rfl⟩
    obtain ⟨kc2, hkc2⟩ : ∃ x, r2[k].kc = x := ⟨_, rfl⟩
    obtain ⟨ks2, hks2⟩ : ∃ x, r2[k].ks = x := ⟨_, rfl⟩
    have HE1 : Hid (True → ∃ h : k < r1.length, r1[k].need = nd1 ∧ r1[k].ka = ka1 ∧ r1[k].kc = kc1 ∧ r1[k].ks = ks1) := fun _ => ⟨k1, hnd1, hka1, hkc1, hks1⟩
    have HE2 : Hid (True → ∃ h : k < r2.length, r2[k].need = nd2 ∧ r2[k].ka = ka2 ∧ r2[k].kc = kc2 ∧ r2[k].ks = ks2) := fun _ => ⟨k2, hnd2, hka2, hkc2, hks2⟩
    rw [hnd1, hks1, hnd2, hks2] at HNk HYk
    rw [hks1] at y1
    rw [hks2] at y2
    obtain ⟨u1, hu1⟩ : ∃ m, ks1.length = m := ⟨_, rfl⟩
    obtain ⟨u2, hu2⟩ : ∃ m, ks2.length = m := ⟨_, rfl⟩
    rw [hu1] at y1
    rw [hu2] at y2
    have HM1 : Hid (ks1.length = u1) := hu1
    have HM2 : Hid (ks2.length = u2) := hu2
    unfold maxLen at y1 y2
    obtain ⟨c0, c1', -⟩ := rls_at HS.out.kp.s1 HE1 HM1
    obtain ⟨d0, d1, -⟩ := rls_at HS.out.kp.s2 HE2 HM2
    have lk : (k : Int) < n1 := by omega
    have l0 : (0 : Int) ≤ k := by omega
    clear k1 k2 HT HNo HY e0 e0' hnd1 hka1 hkc1 hks1 hnd2 hka2 hkc2 hks2 hu1 hu2
    by_cases hx : nd1 = nd2
    case neg =>
      as_aux_lemma =>
      have HF : Hid (R = false) := HNk.out (by unfold rlSame; rw [decide_eq_false hx]; rfl)
      have f1 : (nd1 == nd2) = false := beq_eq_false_iff_ne.2 hx
      have f2 : (nd1 != nd2) = true := by simp [hx]
      clear HNk HYk hx
      go_wp2_with fail
      go_quiet (fail)
      go_wp2
      go_ret
      exact ⟨retY HF.out.symm, belowN HS.out.kp.below _⟩
    subst hx
    have g3 : (nd1 == nd1) = true := by simp
    have g3' : (nd1 != nd1) = false := by simp
    by_cases hy : u1 = u2
    case neg =>
      as_aux_lemma =>
      have HF : Hid (R = false) := HNk.out (by unfold rlSame; rw [decide_eq_false (show ¬ ks1 = ks2 from fun e => hy (by rw [← HM1.out, ← HM2.out, e])), Bool.and_false])
      have f1 : ((u1 : Int) == (u2 : Int)) = false := beq_eq_false_iff_ne.2 (by omega)
      have f2 : ((u1 : Int) != (u2 : Int)) = true := by simp; omega
      clear HNk HYk
      go_wp2_with fail
      go_quiet (fail)
      go_wp2
      go_ret
      exact ⟨retY HF.out.symm, belowN HS.out.kp.below _⟩
    subst hy
    have g4 : ((u1 : Int) == (u1 : Int)) = true := by simp
    have g4' : ((u1 : Int) != (u1 : Int)) = false := by simp
    have HSN : ∀ n, Hid (KpU w w.heap.size w1.heap.size (rtv v1 e1 (some ⟨b1, o1, none⟩) n1 c1) (rtv v1 e1 (some ⟨b2, o2, none⟩) n1 c2) (some ⟨b1, o1, none⟩) (some ⟨b2, o2, none⟩) r1 r2 (wr.drewN n)) := fun n => KpU.drewN HS n
    go_wp2_with fail
    go_quiet (fail)
    go_wp2_with fail
    go_loopw [6] (fun i wq => ∃ j : Nat, i = .int .i64 (j : Int) ∧ j ≤ u1 ∧ Hid (∀ q, q < j → ∀ (x : q < ks1.length) (y : q < ks2.length), ks1[q] = ks2[q]) ∧ Hid (KpU w w.heap.size w1.heap.size (rtv v1 e1 (some ⟨b1, o1, none⟩) n1 c1) (rtv v1 e1 (some ⟨b2, o2, none⟩) n1 c2) (some ⟨b1, o1, none⟩) (some ⟨b2, o2, none⟩) r1 r2 wq)) (fun i _ => u1 - (intOf i).toNat)
    case atStart => exact ⟨0, rfl, Nat.zero_le _, fun q hq => absurd hq (Nat.not_lt_zero _), HSN _⟩
    case round =>
    clear HSN HS p0 p1 p2 q0 q1 q2 c0 c1' d0 d1
    obtain ⟨j, rfl, hj, HQ, HS⟩ := hrel
    obtain ⟨p0, p1, p2, q0, q1, q2⟩ := KpU.six HS
    obtain ⟨c0, c1', hai1⟩ := rls_at HS.out.kp.s1 HE1 HM1
    obtain ⟨d0, d1, hai2⟩ := rls_at HS.out.kp.s2 HE2 HM2
    by_cases hjm : j < u1
    case neg =>
      as_aux_lemma =>
      obtain rfl : j = u1 := by omega
      have HT3 : Hid (∀ i, i < k + 1 → ∀ (x : i < r1.length) (y : i < r2.length), rlSame r1[i].need r1[i].ks r2[i].need r2[i].ks = true) := HYk.out (by unfold rlSame; rw [decide_eq_true rfl, ints_yes (HM1.out.trans HM2.out.symm) (fun q x y => HQ.out q (by have := HM1.out; omega) x y)]; rfl)
      clear HNk HYk HQ hai1 hai2
      go_wp2
      go_roundw
      case rel => exact ⟨k + 1, by go_num, hlt, HT3, HS⟩
      case measure => simp [intOf]; omega
    have j1 : j < ks1.length := by have := HM1.out; omega
    have j2 : j < ks2.length := by have := HM2.out; omega
    obtain ⟨t1, s1, rfl, hc1⟩ := hai1 j j1
    obtain ⟨t2, s2, rfl, hc2⟩ := hai2 j j2
    have HNq : Hid (¬ ks1[j] = ks2[j] → R = false) := fun h => HNk.out (by unfold rlSame; rw [ints_no j1 j2 h, Bool.and_false])
    have HYq : Hid (ks1[j] = ks2[j] → ∀ q, q < j + 1 → ∀ (x : q < ks1.length) (y : q < ks2.length), ks1[q] = ks2[q]) := fun h q hq x y => by
      by_cases hjk : q < j
      · exact HQ.out q hjk x y
      · obtain rfl : q = j := by omega
        exact h
    generalize ks1[j] = z1 at *
    generalize ks2[j] = z2 at *
    have lj : (j : Int) < u1 := by omega
    have l1 : (0 : Int) ≤ j := by omega
    clear j1 j2 hai1 hai2 HNk HYk HQ
    by_cases hz : z1 = z2
    case neg =>
      as_aux_lemma =>
      have HF : Hid (R = false) := HNq.out hz
      have f1 : (z1 == z2) = false := beq_eq_false_iff_ne.2 hz
      have f2 : (z1 != z2) = true := by simp [hz]
      clear HNq HYq hz
      go_wp2_with fail
      go_quiet (fail)
      go_wp2
      go_ret
      exact ⟨retY HF.out.symm, belowN HS.out.kp.below _⟩
    subst hz
    have g5 : (z1 == z1) = true := by simp
    have g5' : (z1 != z1) = false := by simp
    have HQ3 : Hid (∀ q, q < j + 1 → ∀ (x : q < ks1.length) (y : q < ks2.length), ks1[q] = ks2[q]) := HYq.out rfl
    clear HNq HYq
    as_aux_lemma =>
    go_wp2_with fail
    go_quiet (fail)
    go_wp2
    go_roundw
    case rel => exact ⟨j + 1, by go_num, by omega, HQ3, KpU.drewN HS _⟩
    case measure => simp [intOf]; omega
end Go.Proofs.Ytlhdmoinbifjdaa
