/- TrustRight of the program. -/
import Derived.Test.YtdfglpbappeoaabDoorTrS
import Derived.Test.YtdfglpbappeoaabDoorTgE
import Derived.Test.YtdfglpbappeoaabDoorRlI
import Derived.Test.YtdfglpbappeoaabDoorTgI
namespace Go.Proofs.YtdfglpbappeoaabDoor
open Go.RowKit
set_option linter.unusedVariables false

theorem okB_turn (u : TruU) (rs : List RoleV) (gs : List TarV) : u.okB rs gs = (rootB u.rv u.re rs && ((linkB u.t1 u.t2 u.t3 || noLk u.t1 u.t2 u.t3) && ((linkB u.s1 u.s2 u.s3 || noLk u.s1 u.s2 u.s3) && ((targetsB u.gv u.ge gs || noTs u.gv u.ge u.gn) && (headB u.hs u.hr u.ht || noHd u.hs u.hr u.ht))))) := by
  unfold TruU.okB
  rw [Bool.or_comm (noLk u.t1 u.t2 u.t3), Bool.or_comm (noLk u.s1 u.s2 u.s3), Bool.or_comm (noTs _ _ _), Bool.or_comm (noHd _ _ _)]
theorem tsSame_zero (v e : Int) (l : List TarV) (n : Nat) (hn : l.length = n) : tsSame v e l 0 0 [] = noTs v e n := by
  unfold tsSame noTs
  rw [tgsSame_nil, hn]
set_option maxRecDepth 100000 in
set_option maxHeartbeats 16000000 in
theorem implTrustR (rv re : Int) (rn : Nat) (t1 t2 t3 s1 s2 s3 gv ge : Int) (gn : Nat) (hs : Int) (hr : ByteArray) (ht : Int) (ra : Option Addr) (rc : Nat) (rs : List RoleV) (ga : Option Addr) (gc : Nat) (gs : List TarV) (w : World) (hW : TrW ⟨rv, re, rn, t1, t2, t3, s1, s2, s3, gv, ge, gn, hs, hr, ht⟩ rs gs) (h1 : RlsAt w ra rs) (h2 : TgsAt w ga gs) :
    Calls Tryd.prog 75 #[.agg #[.int .i64 rv, .int .i64 re, .slice ra rn rc, .int .i64 t1, .int .i64 t2, .int .i64 t3, .int .i64 s1, .int .i64 s2, .int .i64 s3, .int .i64 gv, .int .i64 ge, .slice ga gn gc, .int .i64 hs, .string hr, .int .i64 ht]] w fun e w' => e = .returned (.bool (TruU.okB ⟨rv, re, rn, t1, t2, t3, s1, s2, s3, gv, ge, gn, hs, hr, ht⟩ rs gs)) ∧ Below w.heap.size w w' := by
  have HA1 : Hid (RlsAt w ra rs) := h1
  have HA2 : Hid (TgsAt w ga gs) := h2
  have hR : ∀ w0, Hid (KpTr w w.heap.size ⟨rv, re, rn, t1, t2, t3, s1, s2, s3, gv, ge, gn, hs, hr, ht⟩ ra rc rs ga gc gs w0) → Calls Tryd.prog 111 #[.agg #[.int .i64 rv, .int .i64 re, .slice ra rn rc]] w0 fun r w' => r = .returned (.bool (rootB rv re rs)) ∧ Below w0.heap.size w0 w' := fun w0 h0 => implRootR rv re ra rc rn rs w0 hW.rn h0.out.rl hW.rm hW.rw
  have hT : ∀ w0, Hid (KpTr w w.heap.size ⟨rv, re, rn, t1, t2, t3, s1, s2, s3, gv, ge, gn, hs, hr, ht⟩ ra rc rs ga gc gs w0) → Calls Tryd.prog 113 #[.agg #[.int .i64 gv, .int .i64 ge, .slice ga gn gc]] w0 fun r w' => r = .returned (.bool (targetsB gv ge gs)) ∧ Below w0.heap.size w0 w' := fun w0 h0 => implTargetsR gv ge ga gc gn gs w0 hW.gn h0.out.tg hW.gm hW.gw
  have hN3 : ∀ w0, Hid (KpTr w w.heap.size ⟨rv, re, rn, t1, t2, t3, s1, s2, s3, gv, ge, gn, hs, hr, ht⟩ ra rc rs ga gc gs w0) → Calls Tryd.prog 114 #[.agg #[.int .i64 gv, .int .i64 ge, .slice ga gn gc], .agg #[.int .i64 0, .int .i64 0, .slice none 0 0]] w0 fun r w' => r = .returned (.bool (noTs gv ge gn)) ∧ Below w0.heap.size w0 w' := fun w0 h0 => by
    rw [← tsSame_zero gv ge gs gn hW.gn]
    exact tsSameI gv ge 0 0 ga none gc 0 gn 0 gs [] w0 hW.gn rfl h0.out.tg (fun i hi => absurd hi (Nat.not_lt_zero _)) hW.gm (Nat.zero_le _)
  have hL1 : ∀ w0, Calls Tryd.prog 112 #[.agg #[.int .i64 t1, .int .i64 t2, .int .i64 t3]] w0 fun r w' => r = .returned (.bool (linkB t1 t2 t3)) ∧ Below w0.heap.size w0 w' := fun w0 => implLink t1 t2 t3 w0
  have hL2 : ∀ w0, Calls Tryd.prog 112 #[.agg #[.int .i64 s1, .int .i64 s2, .int .i64 s3]] w0 fun r w' => r = .returned (.bool (linkB s1 s2 s3)) ∧ Below w0.heap.size w0 w' := fun w0 => implLink s1 s2 s3 w0
  have hH : ∀ w0, Calls Tryd.prog 115 #[.agg #[.int .i64 hs, .string hr, .int .i64 ht]] w0 fun r w' => r = .returned (.bool (headB hs hr ht)) ∧ Below w0.heap.size w0 w' := fun w0 => implHead hs hr ht w0 hW.hr
  rw [okB_turn]
  dsimp only
  have HN1 : Hid (noLk t1 t2 t3 = (decide (t1 = 0) && (decide (t2 = 0) && decide (t3 = 0)))) := rfl
  have HN2 : Hid (noLk s1 s2 s3 = (decide (s1 = 0) && (decide (s2 = 0) && decide (s3 = 0)))) := rfl
  have HN4 : Hid (noHd hs hr ht = (decide (hs = 0) && (decide (hr = ⟨#[]⟩) && decide (ht = 0)))) := rfl
  generalize rootB rv re rs = bR at *
  generalize noLk t1 t2 t3 = n1 at *
  generalize linkB t1 t2 t3 = l1 at *
  generalize noLk s1 s2 s3 = n2 at *
  generalize linkB s1 s2 s3 = l2 at *
  generalize noTs gv ge gn = n3 at *
  generalize targetsB gv ge gs = l3 at *
  generalize headB hs hr ht = l4 at *
  generalize noHd hs hr ht = n4 at *
  clear h1 h2 hW
  go_enter Tryd.func75, Tryd.ntmps75
  go_wp2_with (first
    | (with_reducible refine wpList_boxV (w := w) (by with_unfolding_all rfl) 66 (.tmp 0) (by with_unfolding_all rfl) (trv rv re ra rn rc t1 t2 t3 s1 s2 s3 gv ge ga gn gc hs hr ht) (by with_unfolding_all rfl) ?_; intro w1 hA1 hB1 hS1; clear hS1; have HS1 := KpTr.start (u := ⟨rv, re, rn, t1, t2, t3, s1, s2, s3, gv, ge, gn, hs, hr, ht⟩) HA1.out HA2.out hB1 hA1; obtain ⟨p0, p1, p2, p3, p4, p5, p6, p7, p8, p9, p10, p11, p12, p13, p14, _⟩ := KpTr.all HS1; clear hA1 hB1))
  refine (hR w1 HS1).mono ?_
  rintro e w2 ⟨rfl, hB2⟩
  have HS2 := KpTr.call HS1 hB2
  clear p0 p1 p2 p3 p4 p5 p6 p7 p8 p9 p10 p11 p12 p13 p14
  obtain ⟨q0, q1, q2, q3, q4, q5, q6, q7, q8, q9, q10, q11, q12, q13, q14, _⟩ := KpTr.all HS2
  clear HS1 hB2
  cases bR with
  | false =>
    as_aux_lemma =>
    go_wp2
    go_ret
    exact ⟨rfl, HS2.out.below⟩
  | true =>
  go_wp2_with fail
  refine (hL1 w2).mono ?_
  rintro e w3 ⟨rfl, hB3⟩
  have HS3 := KpTr.call HS2 hB3
  clear q0 q1 q2 q3 q4 q5 q6 q7 q8 q9 q10 q11 q12 q13 q14
  obtain ⟨p0, p1, p2, p3, p4, p5, p6, p7, p8, p9, p10, p11, p12, p13, p14, _⟩ := KpTr.all HS3
  clear HS2 hB3
  cases l1 with
  | true =>
    as_aux_lemma =>
    clear HN1
    go_wp2_with fail
    refine (hL2 w3).mono ?_
    rintro e w4 ⟨rfl, hB4⟩
    have HS4 := KpTr.call HS3 hB4
    clear p0 p1 p2 p3 p4 p5 p6 p7 p8 p9 p10 p11 p12 p13 p14
    obtain ⟨q0, q1, q2, q3, q4, q5, q6, q7, q8, q9, q10, q11, q12, q13, q14, _⟩ := KpTr.all HS4
    clear HS3 hB4
    cases l2 with
    | true =>
      as_aux_lemma =>
      clear HN2
      go_wp2_with fail
      refine (hT w4 HS4).mono ?_
      rintro e w5 ⟨rfl, hB5⟩
      have HS5 := KpTr.call HS4 hB5
      clear q0 q1 q2 q3 q4 q5 q6 q7 q8 q9 q10 q11 q12 q13 q14
      obtain ⟨p0, p1, p2, p3, p4, p5, p6, p7, p8, p9, p10, p11, p12, p13, p14, _⟩ := KpTr.all HS5
      clear HS4 hB5
      cases l3 with
      | true =>
        as_aux_lemma =>
        go_wp2_with fail
        refine (hH w5).mono ?_
        rintro e w6 ⟨rfl, hB6⟩
        have HS6 := KpTr.call HS5 hB6
        clear p0 p1 p2 p3 p4 p5 p6 p7 p8 p9 p10 p11 p12 p13 p14
        obtain ⟨q0, q1, q2, q3, q4, q5, q6, q7, q8, q9, q10, q11, q12, q13, q14, _⟩ := KpTr.all HS6
        clear HS5 hB6
        cases l4 with
        | true =>
          as_aux_lemma =>
          go_wp2
          go_ret
          exact ⟨rfl, HS6.out.below⟩
        | false =>
          as_aux_lemma =>
          by_cases z0 : hs = 0
          case neg =>
            as_aux_lemma =>
            have d0 := z_eq z0
            obtain rfl : n4 = false := by rw [HN4.out, decide_eq_false z0]; rfl
            clear HN4
            go_wp2
            go_ret
            exact ⟨rfl, HS6.out.below⟩
          subst z0
          by_cases z1 : hr = ⟨#[]⟩
          case neg =>
            as_aux_lemma =>
            have d1 := txt_z z1
            obtain rfl : n4 = false := by rw [HN4.out, decide_eq_false z1]; rfl
            clear HN4
            go_wp2
            go_ret
            exact ⟨rfl, HS6.out.below⟩
          subst z1
          by_cases z2 : ht = 0
          case neg =>
            as_aux_lemma =>
            have d2 := z_eq z2
            obtain rfl : n4 = false := by rw [HN4.out, decide_eq_false z2]; rfl
            clear HN4
            go_wp2
            go_ret
            exact ⟨rfl, HS6.out.below⟩
          subst z2
          obtain rfl : n4 = true := HN4.out
          clear HN4
          go_wp2
          go_ret
          exact ⟨rfl, HS6.out.below⟩
      | false =>
        as_aux_lemma =>
        go_wp2_with fail
        refine (hN3 w5 HS5).mono ?_
        rintro e w6 ⟨rfl, hB6⟩
        have HS6 := KpTr.call HS5 hB6
        clear p0 p1 p2 p3 p4 p5 p6 p7 p8 p9 p10 p11 p12 p13 p14
        obtain ⟨q0, q1, q2, q3, q4, q5, q6, q7, q8, q9, q10, q11, q12, q13, q14, _⟩ := KpTr.all HS6
        clear HS5 hB6
        cases n3 with
        | false =>
          as_aux_lemma =>
          go_wp2
          go_ret
          exact ⟨rfl, HS6.out.below⟩
        | true =>
          as_aux_lemma =>
          go_wp2_with fail
          refine (hH w6).mono ?_
          rintro e w7 ⟨rfl, hB7⟩
          have HS7 := KpTr.call HS6 hB7
          clear q0 q1 q2 q3 q4 q5 q6 q7 q8 q9 q10 q11 q12 q13 q14
          obtain ⟨p0, p1, p2, p3, p4, p5, p6, p7, p8, p9, p10, p11, p12, p13, p14, _⟩ := KpTr.all HS7
          clear HS6 hB7
          cases l4 with
          | true =>
            as_aux_lemma =>
            go_wp2
            go_ret
            exact ⟨rfl, HS7.out.below⟩
          | false =>
            as_aux_lemma =>
            by_cases z0 : hs = 0
            case neg =>
              as_aux_lemma =>
              have d0 := z_eq z0
              obtain rfl : n4 = false := by rw [HN4.out, decide_eq_false z0]; rfl
              clear HN4
              go_wp2
              go_ret
              exact ⟨rfl, HS7.out.below⟩
            subst z0
            by_cases z1 : hr = ⟨#[]⟩
            case neg =>
              as_aux_lemma =>
              have d1 := txt_z z1
              obtain rfl : n4 = false := by rw [HN4.out, decide_eq_false z1]; rfl
              clear HN4
              go_wp2
              go_ret
              exact ⟨rfl, HS7.out.below⟩
            subst z1
            by_cases z2 : ht = 0
            case neg =>
              as_aux_lemma =>
              have d2 := z_eq z2
              obtain rfl : n4 = false := by rw [HN4.out, decide_eq_false z2]; rfl
              clear HN4
              go_wp2
              go_ret
              exact ⟨rfl, HS7.out.below⟩
            subst z2
            obtain rfl : n4 = true := HN4.out
            clear HN4
            go_wp2
            go_ret
            exact ⟨rfl, HS7.out.below⟩
    | false =>
      as_aux_lemma =>
      by_cases z0 : s1 = 0
      case neg =>
        as_aux_lemma =>
        have d0 := z_eq z0
        obtain rfl : n2 = false := by rw [HN2.out, decide_eq_false z0]; rfl
        clear HN2
        go_wp2
        go_ret
        exact ⟨rfl, HS4.out.below⟩
      subst z0
      by_cases z1 : s2 = 0
      case neg =>
        as_aux_lemma =>
        have d1 := z_eq z1
        obtain rfl : n2 = false := by rw [HN2.out, decide_eq_false z1]; rfl
        clear HN2
        go_wp2
        go_ret
        exact ⟨rfl, HS4.out.below⟩
      subst z1
      by_cases z2 : s3 = 0
      case neg =>
        as_aux_lemma =>
        have d2 := z_eq z2
        obtain rfl : n2 = false := by rw [HN2.out, decide_eq_false z2]; rfl
        clear HN2
        go_wp2
        go_ret
        exact ⟨rfl, HS4.out.below⟩
      subst z2
      obtain rfl : n2 = true := HN2.out
      clear HN2
      go_wp2_with fail
      refine (hT w4 HS4).mono ?_
      rintro e w5 ⟨rfl, hB5⟩
      have HS5 := KpTr.call HS4 hB5
      clear q0 q1 q2 q3 q4 q5 q6 q7 q8 q9 q10 q11 q12 q13 q14
      obtain ⟨p0, p1, p2, p3, p4, p5, p6, p7, p8, p9, p10, p11, p12, p13, p14, _⟩ := KpTr.all HS5
      clear HS4 hB5
      cases l3 with
      | true =>
        as_aux_lemma =>
        go_wp2_with fail
        refine (hH w5).mono ?_
        rintro e w6 ⟨rfl, hB6⟩
        have HS6 := KpTr.call HS5 hB6
        clear p0 p1 p2 p3 p4 p5 p6 p7 p8 p9 p10 p11 p12 p13 p14
        obtain ⟨q0, q1, q2, q3, q4, q5, q6, q7, q8, q9, q10, q11, q12, q13, q14, _⟩ := KpTr.all HS6
        clear HS5 hB6
        cases l4 with
        | true =>
          as_aux_lemma =>
          go_wp2
          go_ret
          exact ⟨rfl, HS6.out.below⟩
        | false =>
          as_aux_lemma =>
          by_cases z0 : hs = 0
          case neg =>
            as_aux_lemma =>
            have d0 := z_eq z0
            obtain rfl : n4 = false := by rw [HN4.out, decide_eq_false z0]; rfl
            clear HN4
            go_wp2
            go_ret
            exact ⟨rfl, HS6.out.below⟩
          subst z0
          by_cases z1 : hr = ⟨#[]⟩
          case neg =>
            as_aux_lemma =>
            have d1 := txt_z z1
            obtain rfl : n4 = false := by rw [HN4.out, decide_eq_false z1]; rfl
            clear HN4
            go_wp2
            go_ret
            exact ⟨rfl, HS6.out.below⟩
          subst z1
          by_cases z2 : ht = 0
          case neg =>
            as_aux_lemma =>
            have d2 := z_eq z2
            obtain rfl : n4 = false := by rw [HN4.out, decide_eq_false z2]; rfl
            clear HN4
            go_wp2
            go_ret
            exact ⟨rfl, HS6.out.below⟩
          subst z2
          obtain rfl : n4 = true := HN4.out
          clear HN4
          go_wp2
          go_ret
          exact ⟨rfl, HS6.out.below⟩
      | false =>
        as_aux_lemma =>
        go_wp2_with fail
        refine (hN3 w5 HS5).mono ?_
        rintro e w6 ⟨rfl, hB6⟩
        have HS6 := KpTr.call HS5 hB6
        clear p0 p1 p2 p3 p4 p5 p6 p7 p8 p9 p10 p11 p12 p13 p14
        obtain ⟨q0, q1, q2, q3, q4, q5, q6, q7, q8, q9, q10, q11, q12, q13, q14, _⟩ := KpTr.all HS6
        clear HS5 hB6
        cases n3 with
        | false =>
          as_aux_lemma =>
          go_wp2
          go_ret
          exact ⟨rfl, HS6.out.below⟩
        | true =>
          as_aux_lemma =>
          go_wp2_with fail
          refine (hH w6).mono ?_
          rintro e w7 ⟨rfl, hB7⟩
          have HS7 := KpTr.call HS6 hB7
          clear q0 q1 q2 q3 q4 q5 q6 q7 q8 q9 q10 q11 q12 q13 q14
          obtain ⟨p0, p1, p2, p3, p4, p5, p6, p7, p8, p9, p10, p11, p12, p13, p14, _⟩ := KpTr.all HS7
          clear HS6 hB7
          cases l4 with
          | true =>
            as_aux_lemma =>
            go_wp2
            go_ret
            exact ⟨rfl, HS7.out.below⟩
          | false =>
            as_aux_lemma =>
            by_cases z0 : hs = 0
            case neg =>
              as_aux_lemma =>
              have d0 := z_eq z0
              obtain rfl : n4 = false := by rw [HN4.out, decide_eq_false z0]; rfl
              clear HN4
              go_wp2
              go_ret
              exact ⟨rfl, HS7.out.below⟩
            subst z0
            by_cases z1 : hr = ⟨#[]⟩
            case neg =>
              as_aux_lemma =>
              have d1 := txt_z z1
              obtain rfl : n4 = false := by rw [HN4.out, decide_eq_false z1]; rfl
              clear HN4
              go_wp2
              go_ret
              exact ⟨rfl, HS7.out.below⟩
            subst z1
            by_cases z2 : ht = 0
            case neg =>
              as_aux_lemma =>
              have d2 := z_eq z2
              obtain rfl : n4 = false := by rw [HN4.out, decide_eq_false z2]; rfl
              clear HN4
              go_wp2
              go_ret
              exact ⟨rfl, HS7.out.below⟩
            subst z2
            obtain rfl : n4 = true := HN4.out
            clear HN4
            go_wp2
            go_ret
            exact ⟨rfl, HS7.out.below⟩
  | false =>
    as_aux_lemma =>
    by_cases z0 : t1 = 0
    case neg =>
      as_aux_lemma =>
      have d0 := z_eq z0
      obtain rfl : n1 = false := by rw [HN1.out, decide_eq_false z0]; rfl
      clear HN1
      go_wp2
      go_ret
      exact ⟨rfl, HS3.out.below⟩
    subst z0
    by_cases z1 : t2 = 0
    case neg =>
      as_aux_lemma =>
      have d1 := z_eq z1
      obtain rfl : n1 = false := by rw [HN1.out, decide_eq_false z1]; rfl
      clear HN1
      go_wp2
      go_ret
      exact ⟨rfl, HS3.out.below⟩
    subst z1
    by_cases z2 : t3 = 0
    case neg =>
      as_aux_lemma =>
      have d2 := z_eq z2
      obtain rfl : n1 = false := by rw [HN1.out, decide_eq_false z2]; rfl
      clear HN1
      go_wp2
      go_ret
      exact ⟨rfl, HS3.out.below⟩
    subst z2
    obtain rfl : n1 = true := HN1.out
    clear HN1
    go_wp2_with fail
    refine (hL2 w3).mono ?_
    rintro e w4 ⟨rfl, hB4⟩
    have HS4 := KpTr.call HS3 hB4
    clear p0 p1 p2 p3 p4 p5 p6 p7 p8 p9 p10 p11 p12 p13 p14
    obtain ⟨q0, q1, q2, q3, q4, q5, q6, q7, q8, q9, q10, q11, q12, q13, q14, _⟩ := KpTr.all HS4
    clear HS3 hB4
    cases l2 with
    | true =>
      as_aux_lemma =>
      clear HN2
      go_wp2_with fail
      refine (hT w4 HS4).mono ?_
      rintro e w5 ⟨rfl, hB5⟩
      have HS5 := KpTr.call HS4 hB5
      clear q0 q1 q2 q3 q4 q5 q6 q7 q8 q9 q10 q11 q12 q13 q14
      obtain ⟨p0, p1, p2, p3, p4, p5, p6, p7, p8, p9, p10, p11, p12, p13, p14, _⟩ := KpTr.all HS5
      clear HS4 hB5
      cases l3 with
      | true =>
        as_aux_lemma =>
        go_wp2_with fail
        refine (hH w5).mono ?_
        rintro e w6 ⟨rfl, hB6⟩
        have HS6 := KpTr.call HS5 hB6
        clear p0 p1 p2 p3 p4 p5 p6 p7 p8 p9 p10 p11 p12 p13 p14
        obtain ⟨q0, q1, q2, q3, q4, q5, q6, q7, q8, q9, q10, q11, q12, q13, q14, _⟩ := KpTr.all HS6
        clear HS5 hB6
        cases l4 with
        | true =>
          as_aux_lemma =>
          go_wp2
          go_ret
          exact ⟨rfl, HS6.out.below⟩
        | false =>
          as_aux_lemma =>
          by_cases z0 : hs = 0
          case neg =>
            as_aux_lemma =>
            have d0 := z_eq z0
            obtain rfl : n4 = false := by rw [HN4.out, decide_eq_false z0]; rfl
            clear HN4
            go_wp2
            go_ret
            exact ⟨rfl, HS6.out.below⟩
          subst z0
          by_cases z1 : hr = ⟨#[]⟩
          case neg =>
            as_aux_lemma =>
            have d1 := txt_z z1
            obtain rfl : n4 = false := by rw [HN4.out, decide_eq_false z1]; rfl
            clear HN4
            go_wp2
            go_ret
            exact ⟨rfl, HS6.out.below⟩
          subst z1
          by_cases z2 : ht = 0
          case neg =>
            as_aux_lemma =>
            have d2 := z_eq z2
            obtain rfl : n4 = false := by rw [HN4.out, decide_eq_false z2]; rfl
            clear HN4
            go_wp2
            go_ret
            exact ⟨rfl, HS6.out.below⟩
          subst z2
          obtain rfl : n4 = true := HN4.out
          clear HN4
          go_wp2
          go_ret
          exact ⟨rfl, HS6.out.below⟩
      | false =>
        as_aux_lemma =>
        go_wp2_with fail
        refine (hN3 w5 HS5).mono ?_
        rintro e w6 ⟨rfl, hB6⟩
        have HS6 := KpTr.call HS5 hB6
        clear p0 p1 p2 p3 p4 p5 p6 p7 p8 p9 p10 p11 p12 p13 p14
        obtain ⟨q0, q1, q2, q3, q4, q5, q6, q7, q8, q9, q10, q11, q12, q13, q14, _⟩ := KpTr.all HS6
        clear HS5 hB6
        cases n3 with
        | false =>
          as_aux_lemma =>
          go_wp2
          go_ret
          exact ⟨rfl, HS6.out.below⟩
        | true =>
          as_aux_lemma =>
          go_wp2_with fail
          refine (hH w6).mono ?_
          rintro e w7 ⟨rfl, hB7⟩
          have HS7 := KpTr.call HS6 hB7
          clear q0 q1 q2 q3 q4 q5 q6 q7 q8 q9 q10 q11 q12 q13 q14
          obtain ⟨p0, p1, p2, p3, p4, p5, p6, p7, p8, p9, p10, p11, p12, p13, p14, _⟩ := KpTr.all HS7
          clear HS6 hB7
          cases l4 with
          | true =>
            as_aux_lemma =>
            go_wp2
            go_ret
            exact ⟨rfl, HS7.out.below⟩
          | false =>
            as_aux_lemma =>
            by_cases z0 : hs = 0
            case neg =>
              as_aux_lemma =>
              have d0 := z_eq z0
              obtain rfl : n4 = false := by rw [HN4.out, decide_eq_false z0]; rfl
              clear HN4
              go_wp2
              go_ret
              exact ⟨rfl, HS7.out.below⟩
            subst z0
            by_cases z1 : hr = ⟨#[]⟩
            case neg =>
              as_aux_lemma =>
              have d1 := txt_z z1
              obtain rfl : n4 = false := by rw [HN4.out, decide_eq_false z1]; rfl
              clear HN4
              go_wp2
              go_ret
              exact ⟨rfl, HS7.out.below⟩
            subst z1
            by_cases z2 : ht = 0
            case neg =>
              as_aux_lemma =>
              have d2 := z_eq z2
              obtain rfl : n4 = false := by rw [HN4.out, decide_eq_false z2]; rfl
              clear HN4
              go_wp2
              go_ret
              exact ⟨rfl, HS7.out.below⟩
            subst z2
            obtain rfl : n4 = true := HN4.out
            clear HN4
            go_wp2
            go_ret
            exact ⟨rfl, HS7.out.below⟩
    | false =>
      as_aux_lemma =>
      by_cases z0 : s1 = 0
      case neg =>
        as_aux_lemma =>
        have d0 := z_eq z0
        obtain rfl : n2 = false := by rw [HN2.out, decide_eq_false z0]; rfl
        clear HN2
        go_wp2
        go_ret
        exact ⟨rfl, HS4.out.below⟩
      subst z0
      by_cases z1 : s2 = 0
      case neg =>
        as_aux_lemma =>
        have d1 := z_eq z1
        obtain rfl : n2 = false := by rw [HN2.out, decide_eq_false z1]; rfl
        clear HN2
        go_wp2
        go_ret
        exact ⟨rfl, HS4.out.below⟩
      subst z1
      by_cases z2 : s3 = 0
      case neg =>
        as_aux_lemma =>
        have d2 := z_eq z2
        obtain rfl : n2 = false := by rw [HN2.out, decide_eq_false z2]; rfl
        clear HN2
        go_wp2
        go_ret
        exact ⟨rfl, HS4.out.below⟩
      subst z2
      obtain rfl : n2 = true := HN2.out
      clear HN2
      go_wp2_with fail
      refine (hT w4 HS4).mono ?_
      rintro e w5 ⟨rfl, hB5⟩
      have HS5 := KpTr.call HS4 hB5
      clear q0 q1 q2 q3 q4 q5 q6 q7 q8 q9 q10 q11 q12 q13 q14
      obtain ⟨p0, p1, p2, p3, p4, p5, p6, p7, p8, p9, p10, p11, p12, p13, p14, _⟩ := KpTr.all HS5
      clear HS4 hB5
      cases l3 with
      | true =>
        as_aux_lemma =>
        go_wp2_with fail
        refine (hH w5).mono ?_
        rintro e w6 ⟨rfl, hB6⟩
        have HS6 := KpTr.call HS5 hB6
        clear p0 p1 p2 p3 p4 p5 p6 p7 p8 p9 p10 p11 p12 p13 p14
        obtain ⟨q0, q1, q2, q3, q4, q5, q6, q7, q8, q9, q10, q11, q12, q13, q14, _⟩ := KpTr.all HS6
        clear HS5 hB6
        cases l4 with
        | true =>
          as_aux_lemma =>
          go_wp2
          go_ret
          exact ⟨rfl, HS6.out.below⟩
        | false =>
          as_aux_lemma =>
          by_cases z0 : hs = 0
          case neg =>
            as_aux_lemma =>
            have d0 := z_eq z0
            obtain rfl : n4 = false := by rw [HN4.out, decide_eq_false z0]; rfl
            clear HN4
            go_wp2
            go_ret
            exact ⟨rfl, HS6.out.below⟩
          subst z0
          by_cases z1 : hr = ⟨#[]⟩
          case neg =>
            as_aux_lemma =>
            have d1 := txt_z z1
            obtain rfl : n4 = false := by rw [HN4.out, decide_eq_false z1]; rfl
            clear HN4
            go_wp2
            go_ret
            exact ⟨rfl, HS6.out.below⟩
          subst z1
          by_cases z2 : ht = 0
          case neg =>
            as_aux_lemma =>
            have d2 := z_eq z2
            obtain rfl : n4 = false := by rw [HN4.out, decide_eq_false z2]; rfl
            clear HN4
            go_wp2
            go_ret
            exact ⟨rfl, HS6.out.below⟩
          subst z2
          obtain rfl : n4 = true := HN4.out
          clear HN4
          go_wp2
          go_ret
          exact ⟨rfl, HS6.out.below⟩
      | false =>
        as_aux_lemma =>
        go_wp2_with fail
        refine (hN3 w5 HS5).mono ?_
        rintro e w6 ⟨rfl, hB6⟩
        have HS6 := KpTr.call HS5 hB6
        clear p0 p1 p2 p3 p4 p5 p6 p7 p8 p9 p10 p11 p12 p13 p14
        obtain ⟨q0, q1, q2, q3, q4, q5, q6, q7, q8, q9, q10, q11, q12, q13, q14, _⟩ := KpTr.all HS6
        clear HS5 hB6
        cases n3 with
        | false =>
          as_aux_lemma =>
          go_wp2
          go_ret
          exact ⟨rfl, HS6.out.below⟩
        | true =>
          as_aux_lemma =>
          go_wp2_with fail
          refine (hH w6).mono ?_
          rintro e w7 ⟨rfl, hB7⟩
          have HS7 := KpTr.call HS6 hB7
          clear q0 q1 q2 q3 q4 q5 q6 q7 q8 q9 q10 q11 q12 q13 q14
          obtain ⟨p0, p1, p2, p3, p4, p5, p6, p7, p8, p9, p10, p11, p12, p13, p14, _⟩ := KpTr.all HS7
          clear HS6 hB7
          cases l4 with
          | true =>
            as_aux_lemma =>
            go_wp2
            go_ret
            exact ⟨rfl, HS7.out.below⟩
          | false =>
            as_aux_lemma =>
            by_cases z0 : hs = 0
            case neg =>
              as_aux_lemma =>
              have d0 := z_eq z0
              obtain rfl : n4 = false := by rw [HN4.out, decide_eq_false z0]; rfl
              clear HN4
              go_wp2
              go_ret
              exact ⟨rfl, HS7.out.below⟩
            subst z0
            by_cases z1 : hr = ⟨#[]⟩
            case neg =>
              as_aux_lemma =>
              have d1 := txt_z z1
              obtain rfl : n4 = false := by rw [HN4.out, decide_eq_false z1]; rfl
              clear HN4
              go_wp2
              go_ret
              exact ⟨rfl, HS7.out.below⟩
            subst z1
            by_cases z2 : ht = 0
            case neg =>
              as_aux_lemma =>
              have d2 := z_eq z2
              obtain rfl : n4 = false := by rw [HN4.out, decide_eq_false z2]; rfl
              clear HN4
              go_wp2
              go_ret
              exact ⟨rfl, HS7.out.below⟩
            subst z2
            obtain rfl : n4 = true := HN4.out
            clear HN4
            go_wp2
            go_ret
            exact ⟨rfl, HS7.out.below⟩
end Go.Proofs.YtdfglpbappeoaabDoor
