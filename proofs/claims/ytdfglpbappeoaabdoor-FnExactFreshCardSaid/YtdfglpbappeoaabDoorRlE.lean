/- Roles and roots held against others by the laws' helpers. -/
import Derived.Test.YtdfglpbappeoaabDoorRlL
import Derived.Deep.RegionHeld3
namespace Go.Proofs.YtdfglpbappeoaabDoor
open Go.RowKit
set_option linter.unusedVariables false

set_option maxRecDepth 100000 in
set_option maxHeartbeats 1000000 in
theorem eqAI_any (a1 a2 : Option Addr) (c1 c2 n : Nat) (l : List Int) (w : World) (hn : l.length = n) (h1 : AI w a1 l) (h2 : AI w a2 l) (hb : n ≤ maxLen) :
    Calls Tryd.prog 159 #[.slice a1 n c1, .slice a2 n c2] w fun e w' => e = .returned (.bool true) ∧ Below w.heap.size w w' := by
  unfold maxLen at hb
  have H1 : Hid (AI w a1 l) := h1
  have H2 : Hid (AI w a2 l) := h2
  have HN : Hid (l.length = n) := hn
  clear h1 h2 hn
  go_enter Tryd.func159, Tryd.ntmps159
  go_wp2_with fail
  go_loopw [5] (fun i wr => ∃ k : Nat, i = .int .i64 (k : Int) ∧ k ≤ n ∧ Below w.heap.size w wr) (fun i _ => n - (intOf i).toNat)
  case atStart => exact ⟨0, rfl, Nat.zero_le _, Below.refl _ _⟩
  case round =>
    obtain ⟨k, rfl, hk, hb'⟩ := hrel
    have HB : Hid (Below w.heap.size w wr) := hb'
    clear hb'
    by_cases hlt : k < n
    case neg =>
      obtain rfl : k = n := by omega
      go_wp2
      go_ret
      exact ⟨rfl, HB.out⟩
    have hkl : k < l.length := by have := HN.out; omega
    obtain ⟨b1, o1, rfl, d1⟩ := H1.out.below HB.out k hkl
    obtain ⟨b2, o2, rfl, d2⟩ := H2.out.below HB.out k hkl
    generalize l[k] = x at *
    have ex : (x == x) = true := by simp
    have lk : (k : Int) < n := by omega
    have l0 : (0 : Int) ≤ k := by omega
    clear hkl
    go_wp2_with fail
    go_quiet (fail)
    go_wp2
    go_roundw
    case rel => exact ⟨k + 1, by go_num, hlt, belowN HB.out _⟩
    case measure => simp [intOf]; omega
structure KpR1 (w : World) (a1 a2 : Option Addr) (l : List Int) (w' : World) : Prop where
  below : Below w.heap.size w w'
  s1 : AI w' a1 l
  s2 : AI w' a2 l
theorem KpR1.start {w : World} {a1 a2 : Option Addr} {l : List Int} (h1 : AI w a1 l) (h2 : AI w a2 l) : Hid (KpR1 w a1 a2 l w) := ⟨Below.refl _ _, h1, h2⟩
theorem KpR1.call {w w' w2 : World} {a1 a2 : Option Addr} {l : List Int} (h : Hid (KpR1 w a1 a2 l w')) (hb : Below w'.heap.size w' w2) : Hid (KpR1 w a1 a2 l w2) := ⟨h.out.below.trans (hb.mono h.out.below.size), h.out.s1.below hb, h.out.s2.below hb⟩
set_option maxRecDepth 100000 in
set_option maxHeartbeats 1000000 in
theorem eqRl1 (nd : Int) (a1 a2 : Option Addr) (c1 c2 n : Nat) (l : List Int) (w : World) (hn : l.length = n) (h1 : AI w a1 l) (h2 : AI w a2 l) (hb : n ≤ maxLen) :
    Calls Tryd.prog 142 #[.agg #[.int .i64 nd, .slice a1 n c1], .agg #[.int .i64 nd, .slice a2 n c2]] w fun e w' => e = .returned (.bool true) ∧ Below w.heap.size w w' := by
  have HS0 := KpR1.start h1 h2
  have hE : ∀ w0, Hid (KpR1 w a1 a2 l w0) → Calls Tryd.prog 159 #[.slice a1 n c1, .slice a2 n c2] w0 fun e w' => e = .returned (.bool true) ∧ Below w0.heap.size w0 w' := fun w0 h0 => eqAI_any a1 a2 c1 c2 n l w0 hn h0.out.s1 h0.out.s2 hb
  have ex : (nd == nd) = true := by simp
  clear h1 h2 hn
  go_enter Tryd.func142, Tryd.ntmps142
  go_wp2_with (first
    | (with_reducible refine wpList_boxV (w := w) (by with_unfolding_all rfl) 161 (.tmp 0) (by with_unfolding_all rfl) (rlv nd a1 n c1) (by with_unfolding_all rfl) ?_; intro w1 hA1 hB1 hS1; have z1 : w.heap.size < w1.heap.size := (by omega); clear hS1; have HS1 := KpR1.call HS0 hB1)
    | (with_reducible refine wpList_boxV (w := w1) (by with_unfolding_all rfl) 161 (.tmp 1) (by with_unfolding_all rfl) (rlv nd a2 n c2) (by with_unfolding_all rfl) ?_; intro w2 hA2 hB2 hS2; clear hS2; obtain ⟨p0, p1⟩ := (hA1.below hB2 z1).rl; obtain ⟨q0, q1⟩ := hA2.rl; have HS2 := KpR1.call HS1 hB2)
    | (go_at_call 159; with_reducible refine (hE w2 HS2).mono ?_; rintro e w3 ⟨rfl, hB3⟩; have HS3 := KpR1.call HS2 hB3))
  go_ret
  exact ⟨rfl, HS3.out.below⟩
structure KpR2 (w : World) (a1 a2 : Option Addr) (r1 r2 : List RoleV) (w' : World) : Prop where
  below : Below w.heap.size w w'
  s1 : RlsAt w' a1 r1
  s2 : RlsAt w' a2 r2
theorem KpR2.start {w : World} {a1 a2 : Option Addr} {r1 r2 : List RoleV} (h1 : RlsAt w a1 r1) (h2 : RlsAt w a2 r2) : Hid (KpR2 w a1 a2 r1 r2 w) := ⟨Below.refl _ _, h1, h2⟩
theorem KpR2.call {w w' w2 : World} {a1 a2 : Option Addr} {r1 r2 : List RoleV} (h : Hid (KpR2 w a1 a2 r1 r2 w')) (hb : Below w'.heap.size w' w2) : Hid (KpR2 w a1 a2 r1 r2 w2) := ⟨h.out.below.trans (hb.mono h.out.below.size), h.out.s1.below hb, h.out.s2.below hb⟩
theorem KpR2.drew {w w' : World} {a1 a2 : Option Addr} {r1 r2 : List RoleV} (h : Hid (KpR2 w a1 a2 r1 r2 w')) : Hid (KpR2 w a1 a2 r1 r2 w'.drew) := ⟨h.out.below.drew, h.out.s1, h.out.s2⟩
theorem KpR2.four {w w' : World} {b1 o1 b2 o2 i m kc1 kc2 : Nat} {r1 r2 : List RoleV} {nd : Int} {ka1 ka2 : Option Addr} (hr : Hid (True → ∃ (h : i < r1.length) (h' : i < r2.length), r1[i].need = nd ∧ r2[i].need = nd ∧ r1[i].ka = ka1 ∧ r2[i].ka = ka2 ∧ r1[i].kc = kc1 ∧ r2[i].kc = kc2 ∧ r1[i].ks.length = m ∧ r2[i].ks.length = m)) (h : Hid (KpR2 w (some ⟨b1, o1, none⟩) (some ⟨b2, o2, none⟩) r1 r2 w')) :
    w'.cell? ⟨b1, o1 + i * 2, none⟩ = some (.int .i64 nd) ∧ w'.cell? ⟨b1, o1 + i * 2 + 1, none⟩ = some (.slice ka1 m kc1) ∧ w'.cell? ⟨b2, o2 + i * 2, none⟩ = some (.int .i64 nd) ∧ w'.cell? ⟨b2, o2 + i * 2 + 1, none⟩ = some (.slice ka2 m kc2) ∧ Hid (KpR2 w (some ⟨b1, o1, none⟩) (some ⟨b2, o2, none⟩) r1 r2 w') := by
  obtain ⟨hi, hi', e1, e2, e3, e4, e5, e6, e7, e8⟩ := hr.out trivial
  obtain ⟨b', o', h1, h2, h3, h4⟩ := h.out.s1 i hi
  injection h1 with h1
  injection h1 with f1 f2
  subst f1 f2
  obtain ⟨b', o', k1, k2, k3, k4⟩ := h.out.s2 i hi'
  injection k1 with k1
  injection k1 with f1 f2
  subst f1 f2
  rw [e1] at h2
  rw [e3, e5, e7] at h3
  rw [e2] at k2
  rw [e4, e6, e8] at k3
  exact ⟨h2, h3, k2, k3, h⟩
set_option maxRecDepth 100000 in
set_option maxHeartbeats 1000000 in
theorem eqRls_any (a1 a2 : Option Addr) (c1 c2 n : Nat) (r1 r2 : List RoleV) (w : World) (hn : r1.length = n) (hk : rkeys r1 = rkeys r2) (h1 : RlsAt w a1 r1) (h2 : RlsAt w a2 r2) (hb : n ≤ maxLen) (hw : ∀ r ∈ r1, r.ks.length ≤ maxLen) :
    Calls Tryd.prog 117 #[.slice a1 n c1, .slice a2 n c2] w fun e w' => e = .returned (.bool true) ∧ Below w.heap.size w w' := by
  unfold maxLen at hb
  have HN : Hid (r1.length = n) := hn
  have HK : Hid (rkeys r1 = rkeys r2) := hk
  have HW : Hid (∀ r ∈ r1, r.ks.length ≤ maxLen) := hw
  have HS0 := KpR2.start h1 h2
  clear h1 h2 hn hk hw
  go_enter Tryd.func117, Tryd.ntmps117
  go_wp2_with fail
  go_loopw [5] (fun i wr => ∃ k : Nat, i = .int .i64 (k : Int) ∧ k ≤ n ∧ Hid (KpR2 w a1 a2 r1 r2 wr)) (fun i _ => n - (intOf i).toNat)
  case atStart => exact ⟨0, rfl, Nat.zero_le _, HS0⟩
  case round =>
    clear HS0
    obtain ⟨k, rfl, hk, HS⟩ := hrel
    by_cases hlt : k < n
    case neg =>
      obtain rfl : k = n := by omega
      go_wp2
      go_ret
      exact ⟨rfl, HS.out.below⟩
    have hkl : k < r1.length := by have := HN.out; omega
    have hkl2 : k < r2.length := by have := HN.out; have := rkeys_len HK.out; omega
    obtain ⟨b1, o1, rfl, hc1⟩ := HS.out.s1 k hkl
    obtain ⟨b2, o2, rfl, hc2⟩ := HS.out.s2 k hkl2
    clear hc1 hc2
    obtain ⟨kn, kk⟩ := rkeys_get HK.out hkl hkl2
    obtain ⟨nd, e1⟩ : ∃ x, r1[k].need = x := ⟨_, rfl⟩
    obtain ⟨ka1, e3⟩ : ∃ x, r1[k].ka = x := ⟨_, rfl⟩
    obtain ⟨ka2, e4⟩ : ∃ x, r2[k].ka = x := ⟨_, rfl⟩
    obtain ⟨kc1, e5⟩ : ∃ x, r1[k].kc = x := ⟨_, rfl⟩
    obtain ⟨kc2, e6⟩ : ∃ x, r2[k].kc = x := ⟨_, rfl⟩
    obtain ⟨m, e7⟩ : ∃ x, r1[k].ks.length = x := ⟨_, rfl⟩
    have HE : Hid (True → ∃ (h : k < r1.length) (h' : k < r2.length), r1[k].need = nd ∧ r2[k].need = nd ∧ r1[k].ka = ka1 ∧ r2[k].ka = ka2 ∧ r1[k].kc = kc1 ∧ r2[k].kc = kc2 ∧ r1[k].ks.length = m ∧ r2[k].ks.length = m) := fun _ => ⟨hkl, hkl2, e1, by rw [← kn]; exact e1, e3, e4, e5, e6, e7, by rw [← kk]; exact e7⟩
    have hT : ∀ w0, Hid (KpR2 w (some ⟨b1, o1, none⟩) (some ⟨b2, o2, none⟩) r1 r2 w0) → Calls Tryd.prog 142 #[.agg #[.int .i64 nd, .slice ka1 m kc1], .agg #[.int .i64 nd, .slice ka2 m kc2]] w0 fun r w' => r = .returned (.bool true) ∧ Below w0.heap.size w0 w' := fun w0 h0 => by
      obtain ⟨_, _, _, _, _, i1⟩ := h0.out.s1 k hkl
      obtain ⟨_, _, _, _, _, i2⟩ := h0.out.s2 k hkl2
      rw [e3] at i1
      rw [e4, ← kk] at i2
      exact eqRl1 nd ka1 ka2 kc1 kc2 m r1[k].ks w0 e7 i1 i2 (by rw [← e7]; exact HW.out _ (List.getElem_mem hkl))
    clear e1 e3 e4 e5 e6 e7 kn kk hkl hkl2
    have lk : (k : Int) < n := by omega
    have l0 : (0 : Int) ≤ k := by omega
    have HSd := KpR2.drew HS
    clear HS
    go_wp2_with fail
    go_region_held3 (fun w' => w'.cell? ⟨b1, o1 + k * 2, none⟩ = some (.int .i64 nd) ∧ w'.cell? ⟨b1, o1 + k * 2 + 1, none⟩ = some (.slice ka1 m kc1) ∧ w'.cell? ⟨b2, o2 + k * 2, none⟩ = some (.int .i64 nd) ∧ w'.cell? ⟨b2, o2 + k * 2 + 1, none⟩ = some (.slice ka2 m kc2) ∧ Hid (KpR2 w (some ⟨b1, o1, none⟩) (some ⟨b2, o2, none⟩) r1 r2 w'))
      (first | exact KpR2.four HE HSd | exact KpR2.four HE (KpR2.call HSd h8))
      (first
        | (go_at_call 142; with_reducible refine (hT _ HSd).mono ?_; rintro r w8 ⟨rfl, h8⟩))
    all_goals
      have HS9 := KpR2.call HSd h8
      go_wp2_with fail
      go_roundw
      case rel => exact ⟨k + 1, by go_num, by omega, HS9⟩
      case measure => simp [intOf]; omega
set_option maxRecDepth 100000 in
set_option maxHeartbeats 1000000 in
theorem eqRt_any (v e : Int) (a1 a2 : Option Addr) (c1 c2 n : Nat) (r1 r2 : List RoleV) (w : World) (hn : r1.length = n) (hk : rkeys r1 = rkeys r2) (h1 : RlsAt w a1 r1) (h2 : RlsAt w a2 r2) (hb : n ≤ maxLen) (hw : ∀ r ∈ r1, r.ks.length ≤ maxLen) :
    Calls Tryd.prog 80 #[.agg #[.int .i64 v, .int .i64 e, .slice a1 n c1], .agg #[.int .i64 v, .int .i64 e, .slice a2 n c2]] w fun e w' => e = .returned (.bool true) ∧ Below w.heap.size w w' := by
  have HS0 := KpR2.start h1 h2
  have hE : ∀ w0, Hid (KpR2 w a1 a2 r1 r2 w0) → Calls Tryd.prog 117 #[.slice a1 n c1, .slice a2 n c2] w0 fun e w' => e = .returned (.bool true) ∧ Below w0.heap.size w0 w' := fun w0 h0 => eqRls_any a1 a2 c1 c2 n r1 r2 w0 hn hk h0.out.s1 h0.out.s2 hb hw
  have ex : (v == v) = true := by simp
  have ey : (e == e) = true := by simp
  clear h1 h2 hn hk hw
  go_enter Tryd.func80, Tryd.ntmps80
  go_wp2_with (first
    | (with_reducible refine wpList_boxV (w := w) (by with_unfolding_all rfl) 59 (.tmp 0) (by with_unfolding_all rfl) (rtv v e a1 n c1) (by with_unfolding_all rfl) ?_; intro w1 hA1 hB1 hS1; have z1 : w.heap.size < w1.heap.size := (by omega); clear hS1; have HS1 := KpR2.call HS0 hB1)
    | (with_reducible refine wpList_boxV (w := w1) (by with_unfolding_all rfl) 59 (.tmp 1) (by with_unfolding_all rfl) (rtv v e a2 n c2) (by with_unfolding_all rfl) ?_; intro w2 hA2 hB2 hS2; clear hS2; obtain ⟨p0, p1, p2⟩ := (hA1.below hB2 z1).rt3; obtain ⟨q0, q1, q2⟩ := hA2.rt3; have HS2 := KpR2.call HS1 hB2)
    | (go_at_call 117; with_reducible refine (hE w2 HS2).mono ?_; rintro e w3 ⟨rfl, hB3⟩; have HS3 := KpR2.call HS2 hB3))
  go_ret
  exact ⟨rfl, HS3.out.below⟩
end Go.Proofs.YtdfglpbappeoaabDoor
