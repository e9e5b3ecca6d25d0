/- The room that roots take, with how many marks they bear. Roots and trusts in the form of things that were made: turned, marked, held. -/
import Derived.Test.YtdfglpbappeoaaaTrZ
import Derived.Test.YtdfglpbappeoaaaMkR
import Derived.Test.YtdfglpbappeoaaaJn12
namespace Go.Proofs.Ytdfglpbappeoaaa
open Go.RowKit
set_option linter.unusedVariables false

set_option maxRecDepth 100000 in
set_option maxHeartbeats 1000000 in
theorem szRls_t (a : Option Addr) (c n : Nat) (rs : List RoleV) (w : World) (hn : rs.length = n) (h : RlsAt w a rs) (hM : n ≤ maxLen) (hw : ∀ r ∈ rs, RoleW r) (q0 : Int) (g0 : 0 ≤ q0) (g1 : q0 ≤ 1048576) :
    Calls Try.prog 42 #[.slice a n c, .int .i64 q0] w fun e w' => (∃ z : Int, e = .returned (.int .i64 z) ∧ z ≤ 1048576 ∧ (0 ≤ z → (n ≤ 1048576 ∧ ∀ r ∈ rs, r.ks.length ≤ 1048576) ∧ tot rs ≤ 1048576)) ∧ Below w.heap.size w w' := by
  have HS0 := KpZ.start h
  have HN : Hid (rs.length = n) := hn
  have HW : Hid (∀ r ∈ rs, RoleW r) := hw
  clear h hn hw
  unfold maxLen at hM
  by_cases hb : q0 - (n : Int) < 0
  · go_enter Try.func42, Try.ntmps42
    go_wp2
    go_ret
    exact ⟨⟨_, rfl, by omega, fun h => absurd h (by omega)⟩, Below.refl _ _⟩
  · have hn1 : n ≤ 1048576 := by omega
    have hn2 : 0 ≤ q0 - (n : Int) := by omega
    go_enter Try.func42, Try.ntmps42
    go_wp2_with fail
    go_loopw [1, 5] (fun vq vi wr => ∃ (k : Nat) (q : Int), vi = .int .i64 (k : Int) ∧ vq = .int .i64 q ∧ k ≤ n ∧ 0 ≤ q ∧ q ≤ 1048576 ∧ Hid (∀ i (hi : i < rs.length), i < k → rs[i].ks.length ≤ 1048576) ∧ Hid ((tot (rs.take k) : Int) + q + n = q0 + k) ∧ Hid (KpZ w a rs wr)) (fun _ vi _ => n - (intOf vi).toNat)
    case atStart => exact ⟨0, _, rfl, rfl, Nat.zero_le _, by omega, by omega, fun i hi h0 => absurd h0 (Nat.not_lt_zero _), by show ((0 : Nat) : Int) + _ + _ = _; omega, HS0⟩
    case round =>
      clear HS0
      obtain ⟨k, q, rfl, rfl, hk, hq0, hq1, HE, HQ, HS⟩ := hrel
      by_cases hlt : k < n
      case neg =>
        obtain rfl : k = n := by omega
        have HF : Hid (∀ r ∈ rs, r.ks.length ≤ 1048576) := fun r hr => by
          obtain ⟨i, hi, rfl⟩ := List.mem_iff_getElem.1 hr
          exact HE.out i hi (by have := HN.out; omega)
        have HTt : Hid (tot rs ≤ 1048576) := by
          have h1 := HQ.out
          rw [List.take_of_length_le (by have := HN.out; omega)] at h1
          show tot rs ≤ 1048576
          omega
        go_wp2
        go_ret
        exact ⟨⟨_, rfl, hq1, fun _ => ⟨⟨hn1, HF.out⟩, HTt.out⟩⟩, HS.out.below⟩
      have hkl : k < rs.length := by have := HN.out; omega
      obtain ⟨b, o, rfl, c0, c1, hai⟩ := HS.out.rl k hkl
      have HQ2 : Hid ((tot (rs.take (k + 1)) : Int) + (q - (rs[k].ks.length : Int)) + n = q0 + ((k + 1 : Nat) : Int)) := by
        have h1 := HQ.out
        have h2 := tot_succ rs hkl
        show _ = _
        omega
      have x2 := (HW.out rs[k] (List.getElem_mem hkl)).2.1
      have HE2 : Hid (rs[k].ks.length ≤ 1048576 → ∀ i (hi : i < rs.length), i < k + 1 → rs[i].ks.length ≤ 1048576) := fun h i hi hik => by
        by_cases he : i < k
        · exact HE.out i hi he
        · obtain rfl : i = k := by omega
          exact h
      generalize rs[k].need = nd at *
      generalize rs[k].ka = ka at *
      generalize rs[k].kc = kc at *
      obtain ⟨m, hm⟩ : ∃ m, rs[k].ks.length = m := ⟨_, rfl⟩
      rw [hm] at c1 HE2 x2 HQ2
      have hZ : ∀ w0, Calls Try.prog 94 #[.agg #[.int .i64 nd, .slice ka m kc], .int .i64 q] w0 fun e w' => e = .returned (.int .i64 (if q - (m : Int) < 0 then -1 else q - m)) ∧ Below w0.heap.size w0 w' := fun w0 => szRl_any nd ka kc m q w0 x2 hq0 hq1
      have lk : (k : Int) < n := by omega
      have l0 : (0 : Int) ≤ k := by omega
      clear hai hm HE hkl x2 HQ
      by_cases hneg : q - (m : Int) < 0
      · rw [if_pos hneg] at hZ
        clear HE2 hneg
        go_wp2_with (go_at_call 94; with_reducible refine (hZ _).mono ?_; rintro r w5 ⟨rfl, hB5⟩; have HS5 := KpZ.call HS hB5)
        go_ret
        exact ⟨⟨_, rfl, by omega, fun h => absurd h (by omega)⟩, HS5.out.below⟩
      · rw [if_neg hneg] at hZ
        have HE3 := HE2.out (by omega)
        have HE4 : Hid (∀ i (hi : i < rs.length), i < k + 1 → rs[i].ks.length ≤ 1048576) := HE3
        obtain ⟨d, hd⟩ : ∃ d, q - (m : Int) = d := ⟨_, rfl⟩
        have hd0 : 0 ≤ d := by omega
        have hd1 : d ≤ 1048576 := by omega
        rw [hd] at hZ HQ2
        clear HE2 HE3 hneg hd hq0 hq1
        go_wp2_with (go_at_call 94; with_reducible refine (hZ _).mono ?_; rintro r w5 ⟨rfl, hB5⟩; have HS5 := KpZ.call HS hB5)
        go_roundw
        case rel => exact ⟨k + 1, d, by go_num, rfl, by omega, hd0, hd1, HE4, HQ2, HS5⟩
        case measure => simp [intOf]; omega
set_option maxRecDepth 100000 in
theorem szRt_t (v e : Int) (a : Option Addr) (c n : Nat) (rs : List RoleV) (w : World) (hn : rs.length = n) (h : RlsAt w a rs) (hM : n ≤ maxLen) (hw : ∀ r ∈ rs, RoleW r) (q0 : Int) (g0 : 0 ≤ q0) (g1 : q0 ≤ 1048576) :
    Calls Try.prog 10 #[.agg #[.int .i64 v, .int .i64 e, .slice a n c], .int .i64 q0] w fun e w' => (∃ z : Int, e = .returned (.int .i64 z) ∧ z ≤ 1048576 ∧ (0 ≤ z → (n ≤ 1048576 ∧ ∀ r ∈ rs, r.ks.length ≤ 1048576) ∧ tot rs ≤ 1048576)) ∧ Below w.heap.size w w' := by
  have HZ : Hid (∀ w0, RlsAt w0 a rs → Calls Try.prog 42 #[.slice a n c, .int .i64 q0] w0 fun e w' => (∃ z : Int, e = .returned (.int .i64 z) ∧ z ≤ 1048576 ∧ (0 ≤ z → (n ≤ 1048576 ∧ ∀ r ∈ rs, r.ks.length ≤ 1048576) ∧ tot rs ≤ 1048576)) ∧ Below w0.heap.size w0 w') := fun w0 h0 => szRls_t a c n rs w0 hn h0 hM hw q0 g0 g1
  have HA : Hid (RlsAt w a rs) := h
  clear h hn hw hM
  go_enter Try.func10, Try.ntmps10
  go_wp2_with (first
    | (with_reducible refine wpList_boxV (w := w) (by with_unfolding_all rfl) 24 (.tmp 0) (by with_unfolding_all rfl) (rtv v e a n c) (by with_unfolding_all rfl) ?_; intro w1 hA1 hB1 hS1; obtain ⟨p0, p1, p2⟩ := hA1.rt3; clear hS1))
  refine (HZ.out w1 (HA.out.below hB1)).mono ?_
  rintro r w2 ⟨⟨z, rfl, hz1, hz⟩, hB2⟩
  have HZ2 : Hid (0 ≤ z → (n ≤ 1048576 ∧ ∀ r ∈ rs, r.ks.length ≤ 1048576) ∧ tot rs ≤ 1048576) := hz
  clear hz HZ
  by_cases hneg : z < 0
  · go_wp2
    go_ret
    exact ⟨⟨_, rfl, by omega, fun h => absurd h (by omega)⟩, hB1.trans (hB2.mono hB1.size)⟩
  · go_wp2
    go_ret
    exact ⟨⟨_, rfl, hz1, HZ2.out⟩, hB1.trans (hB2.mono hB1.size)⟩
end Go.Proofs.Ytdfglpbappeoaaa
namespace Go.Proofs.Ytdfglpbappeoaaa
open Go.RowKit
set_option linter.unusedVariables false

theorem RtO.lt {w : World} {a : Option Addr} {rs : List RoleV} (h : RtO w a rs) : ∀ b, TR a rs b → b < w.heap.size := by
  rintro b (⟨h1, ad, h2, h3⟩ | ⟨i, hi, h1, ad, h2, h3⟩)
  · obtain ⟨g, e1, e2⟩ := h h1
    rw [e1] at h2
    injection h2 with h2
    subst h2
    have := e2.row.lt (flR_ne h1)
    simp only at h3
    omega
  · obtain ⟨g, e1, e2⟩ := h (fun e => by rw [e] at hi; exact absurd hi (Nat.not_lt_zero _))
    obtain ⟨b', hb, hc⟩ := e2.ks i hi h1
    rw [hb] at h2
    injection h2 with h2
    subst h2
    have hl : 0 < rs[i].ks.length := List.length_pos_iff.2 h1
    have := cellLt (hc 0 hl).1
    simp only at h3 this
    omega
theorem RtO.made {w0 w : World} {a : Option Addr} {rs : List RoleV} (h : RtO w a rs) (hlo : ∀ b, TR a rs b → w0.heap.size ≤ b) : Made w0 w (fun w2 => RtO w2 a rs) := fun w2 hw => h.far hw fun b hb hn => hn ⟨hlo b hb, h.lt b hb⟩
theorem tot_rkeys {rs rs' : List RoleV} (h : rkeys rs = rkeys rs') : tot rs = tot rs' := by
  induction rs generalizing rs' with
  | nil =>
    cases rs' with
    | nil => rfl
    | cons y ys => exact absurd (rkeys_len h) (by simp)
  | cons x xs ih =>
    cases rs' with
    | nil => exact absurd (rkeys_len h) (by simp)
    | cons y ys =>
      have h0 := (rkeys_get h (i := 0) (by simp) (by simp)).2
      simp only [List.getElem_cons_zero] at h0
      have ht : rkeys xs = rkeys ys := (List.cons.inj h).2
      show 1 + x.ks.length + tot xs = 1 + y.ks.length + tot ys
      rw [h0, ih ht]
theorem toRtM (v e : Int) (a : Option Addr) (c n : Nat) (rs : List RoleV) (w : World) (hn : rs.length = n) (h : RlsAt w a rs) (hb : n ≤ 1048576 ∧ ∀ r ∈ rs, r.ks.length ≤ 1048576) :
    Calls Try.prog 12 #[.agg #[.int .i64 v, .int .i64 e, .slice a n c]] w fun r w' => ∃ (g : Nat) (r2 : List RoleV), r = .returned (.agg #[.int .i64 v, .int .i64 e, .slice (some ⟨g, 0, none⟩) n n]) ∧ rkeys r2 = rkeys rs ∧ (∀ b, TR (some ⟨g, 0, none⟩) r2 b → w.heap.size ≤ b ∧ b < w'.heap.size) ∧ Made w w' (fun w2 => RtO w2 (some ⟨g, 0, none⟩) r2) ∧ Below w.heap.size w w' :=
  (toRtO v e a c n rs w hn h hb.1 hb.2).mono fun r w' ⟨g, r2, h1, h2, h3, h4, h5, h6⟩ => by
    have hr : RtO w' (some ⟨g, 0, none⟩) r2 := fun _ => ⟨g, rfl, h3⟩
    have hlo : ∀ b, TR (some ⟨g, 0, none⟩) r2 b → w.heap.size ≤ b := by
      rintro b (⟨_, ad, e1, e2⟩ | ⟨i, hi, _, ad, e1, e2⟩)
      · injection e1 with e1
        subst e1
        simp only at e2
        omega
      · obtain ⟨b', e3, e4⟩ := h5 _ (List.getElem_mem hi)
        rw [e3] at e1
        injection e1 with e1
        subst e1
        simp only at e2
        omega
    exact ⟨g, r2, h1, h2, fun b hb => ⟨hlo b hb, hr.lt b hb⟩, hr.made hlo, h6⟩
theorem OwR.made {w0 w : World} {B n c : Nat} {a : Option Addr} {ys : List RoleV} (h : OwR w B (.slice a n c) ys) (hB : w0.heap.size ≤ B) : (∀ b, TR a ys b → w0.heap.size ≤ b ∧ b < w.heap.size) ∧ Made w0 w (fun w2 => RtO w2 a ys) :=
  ⟨fun b hb => ⟨Nat.le_trans hB (h.ge b hb).1, (h.ge b hb).2⟩, h.rto.made fun b hb => Nat.le_trans hB (h.ge b hb).1⟩
theorem markRtM {dom : Nat → Prop} (v e : Int) (a : Option Addr) (c n k0 : Nat) (rs : List RoleV) (w : World) (hn : rs.length = n) (h : RtO w a rs) (hd : ∀ b, TR a rs b → dom b) (hT : k0 + tot rs ≤ 900000000) :
    Calls Try.prog 16 #[.agg #[.int .i64 v, .int .i64 e, .slice a n c], .int .i64 (k0 : Int)] w fun r w' => r = .returned (.int .i64 ((k0 + tot rs : Nat) : Int)) ∧ (∀ w3, Mrk (fun k => ¬ dom k) w' w3 → RtO w3 a (mrks (k0 : Int) rs)) ∧ Mrk (TR a rs) w w' :=
  (markRt_any v e a c n k0 rs w hn h hT).mono fun r w' ⟨h1, h2, h3⟩ => ⟨h1, fun w3 hw => h2.far hw fun b hb hn => hn (hd b (TR_mrks hb)), h3⟩
def trz (v e : Int) (a : Option Addr) (n c : Nat) : List Value := [.int .i64 v, .int .i64 e, .slice a n c, .int .i64 0, .int .i64 0, .int .i64 0, .int .i64 0, .int .i64 0, .int .i64 0, .int .i64 0, .int .i64 0, .slice none 0 0, .int .i64 0, .string ⟨#[]⟩, .int .i64 0]
theorem VR.none {w : World} : VR w none [] := fun h => absurd rfl h
theorem eqTr0 (v e : Int) (a1 a2 : Option Addr) (n c1 c2 : Nat) (r1 r2 : List RoleV) (w : World) (hn : r1.length = n) (hk : rkeys r1 = rkeys r2) (hm : n ≤ maxLen) (hw : ∀ r ∈ r1, r.ks.length ≤ maxLen) (h1 : RtO w a1 r1) (h2 : RtO w a2 r2) :
    Calls Try.prog 14 #[.agg #[.int .i64 v, .int .i64 e, .slice a1 n c1, .int .i64 0, .int .i64 0, .int .i64 0, .int .i64 0, .int .i64 0, .int .i64 0, .int .i64 0, .int .i64 0, .slice none 0 0, .int .i64 0, .string ⟨#[]⟩, .int .i64 0], .agg #[.int .i64 v, .int .i64 e, .slice a2 n c2, .int .i64 0, .int .i64 0, .int .i64 0, .int .i64 0, .int .i64 0, .int .i64 0, .int .i64 0, .int .i64 0, .slice none 0 0, .int .i64 0, .string ⟨#[]⟩, .int .i64 0]] w fun r w' => r = .returned (.bool true) ∧ Below w.heap.size w w' :=
  eqTr_any v e n 0 0 0 0 0 0 0 0 0 0 ⟨#[]⟩ 0 a1 none a2 none c1 0 c2 0 r1 r2 [] w hn hk hm hw rfl (Nat.zero_le _) h1.at (fun i hi => absurd hi (Nat.not_lt_zero _)) h2.at (fun i hi => absurd hi (Nat.not_lt_zero _))
theorem markTr0 {dom : Nat → Prop} (v e : Int) (a : Option Addr) (n c k0 : Nat) (rs : List RoleV) (w : World) (hn : rs.length = n) (h : RtO w a rs) (hd : ∀ b, TR a rs b → dom b) (h0 : 1 ≤ k0) (hT : k0 + tot rs ≤ 900000000) :
    Calls Try.prog 17 #[.agg #[.int .i64 v, .int .i64 e, .slice a n c, .int .i64 0, .int .i64 0, .int .i64 0, .int .i64 0, .int .i64 0, .int .i64 0, .int .i64 0, .int .i64 0, .slice none 0 0, .int .i64 0, .string ⟨#[]⟩, .int .i64 0], .int .i64 (k0 : Int)] w fun r w' => r = .returned (.int .i64 ((k0 + tot rs : Nat) : Int)) ∧ (∀ w3, Mrk (fun k => ¬ dom k) w' w3 → RtO w3 a (mrks (k0 : Int) rs)) ∧ Mrk (TR a rs) w w' :=
  (markTr_any v e n 0 0 0 0 0 0 0 0 0 0 ⟨#[]⟩ 0 a c k0 rs none 0 [] w hn ⟨h, VR.none⟩ rfl (fun b _ ⟨ad, had, _⟩ => by cases had) (Nat.zero_le _) h0 hT).mono fun r w' ⟨h1, h2, h3⟩ =>
    ⟨h1, fun w3 hw => h2.r.far hw fun b hb hn => hn (hd b (TR_mrks hb)), h3.mono fun b hb => hb.elim id fun ⟨ad, had, _⟩ => by cases had⟩
theorem heldTr0 (v e : Int) (a : Option Addr) (n c k0 : Nat) (rs : List RoleV) (w : World) (hn : rs.length = n) (h : RtO w a (mrks (k0 : Int) rs)) (h0 : 1 ≤ k0) (hT : k0 + tot rs ≤ 900000000) :
    Calls Try.prog 18 #[.agg #[.int .i64 v, .int .i64 e, .slice a n c, .int .i64 0, .int .i64 0, .int .i64 0, .int .i64 0, .int .i64 0, .int .i64 0, .int .i64 0, .int .i64 0, .slice none 0 0, .int .i64 0, .string ⟨#[]⟩, .int .i64 0], .int .i64 (k0 : Int)] w fun r w' => r = .returned (.int .i64 ((k0 + tot rs : Nat) : Int)) ∧ Below w.heap.size w w' :=
  heldTr_any v e n 0 0 0 0 0 0 0 0 0 0 ⟨#[]⟩ 0 a c k0 rs none 0 w hn ⟨h, VR.none⟩ (Nat.zero_le _) h0 hT
end Go.Proofs.Ytdfglpbappeoaaa
