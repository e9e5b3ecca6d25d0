/- TrustRight of the specification. -/
import Derived.Test.YtdfglpbappeoaabDoorTrA
import Derived.Test.YtdfglpbappeoaabDoorMetU
namespace Go.Proofs.YtdfglpbappeoaabDoor
open Go.RowKit
set_option linter.unusedVariables false

def noLk (v e x : Int) : Bool := decide (v = 0) && (decide (e = 0) && decide (x = 0))
def noTs (v e : Int) (n : Nat) : Bool := decide (v = 0) && (decide (e = 0) && decide (n = 0))
def noHd (s : Int) (r : ByteArray) (t : Int) : Bool := decide (s = 0) && (decide (r = ⟨#[]⟩) && decide (t = 0))
def TruU.okB (u : TruU) (rs : List RoleV) (gs : List TarV) : Bool := rootB u.rv u.re rs && ((noLk u.t1 u.t2 u.t3 || linkB u.t1 u.t2 u.t3) && ((noLk u.s1 u.s2 u.s3 || linkB u.s1 u.s2 u.s3) && ((noTs u.gv u.ge u.gn || targetsB u.gv u.ge gs) && (noHd u.hs u.hr u.ht || headB u.hs u.hr u.ht))))
theorem z_eq {v : Int} (h : ¬ v = 0) : (v == 0) = false := beq_eq_false_iff_ne.2 h
theorem txt_z {x : ByteArray} (h : ¬ x = ⟨#[]⟩) : ¬ x.toList = [] := fun e => by
  have := txt_ne h
  rw [e] at this
  exact absurd this (by simp [ByteArray.toList_eq])
theorem z_eq' {v : Int} (h : ¬ v = 0) : ((0 : Int) == v) = false := beq_eq_false_iff_ne.2 (fun e => h e.symm)
set_option maxRecDepth 100000 in
set_option maxHeartbeats 2000000 in
theorem specNoLk (v e x : Int) (w : World) : Calls Tryd.prog 69 #[.agg #[.int .i64 v, .int .i64 e, .int .i64 x]] w fun r w' => r = .returned (.bool (noLk v e x)) ∧ Below w.heap.size w w' := by
  unfold noLk
  by_cases h1 : v = 0
  case neg =>
    have d1 := z_eq h1
    rw [decide_eq_false h1]
    go_enter Tryd.func69, Tryd.ntmps69
    go_wp2_with (first
      | (with_reducible refine wpList_boxV (w := w) (by with_unfolding_all rfl) 60 (.tmp 0) (by with_unfolding_all rfl) (lkv v e x) (by with_unfolding_all rfl) ?_; intro w1 hA1 hB1 hS1; obtain ⟨p0, p1, p2⟩ := hA1.lk; clear hS1))
    go_ret
    exact ⟨rfl, hB1⟩
  subst h1
  by_cases h2 : e = 0
  case neg =>
    have d2 := z_eq h2
    rw [decide_eq_false h2]
    go_enter Tryd.func69, Tryd.ntmps69
    go_wp2_with (first
      | (with_reducible refine wpList_boxV (w := w) (by with_unfolding_all rfl) 60 (.tmp 0) (by with_unfolding_all rfl) (lkv 0 e x) (by with_unfolding_all rfl) ?_; intro w1 hA1 hB1 hS1; obtain ⟨p0, p1, p2⟩ := hA1.lk; clear hS1))
    go_ret
    exact ⟨rfl, hB1⟩
  subst h2
  by_cases h3 : x = 0
  case neg =>
    have d3 := z_eq h3
    rw [decide_eq_false h3]
    go_enter Tryd.func69, Tryd.ntmps69
    go_wp2_with (first
      | (with_reducible refine wpList_boxV (w := w) (by with_unfolding_all rfl) 60 (.tmp 0) (by with_unfolding_all rfl) (lkv 0 0 x) (by with_unfolding_all rfl) ?_; intro w1 hA1 hB1 hS1; obtain ⟨p0, p1, p2⟩ := hA1.lk; clear hS1))
    go_ret
    exact ⟨rfl, hB1⟩
  subst h3
  go_enter Tryd.func69, Tryd.ntmps69
  go_wp2_with (first
    | (with_reducible refine wpList_boxV (w := w) (by with_unfolding_all rfl) 60 (.tmp 0) (by with_unfolding_all rfl) (lkv 0 0 0) (by with_unfolding_all rfl) ?_; intro w1 hA1 hB1 hS1; obtain ⟨p0, p1, p2⟩ := hA1.lk; clear hS1))
  go_ret
  exact ⟨rfl, hB1⟩
set_option maxRecDepth 100000 in
set_option maxHeartbeats 2000000 in
theorem specNoTs (v e : Int) (a : Option Addr) (n c : Nat) (w : World) (hn : n ≤ maxLen) : Calls Tryd.prog 70 #[.agg #[.int .i64 v, .int .i64 e, .slice a n c]] w fun r w' => r = .returned (.bool (noTs v e n)) ∧ Below w.heap.size w w' := by
  unfold maxLen at hn
  unfold noTs
  have BX : True := trivial
  by_cases h1 : v = 0
  case neg =>
    have d1 := z_eq h1
    rw [decide_eq_false h1]
    go_enter Tryd.func70, Tryd.ntmps70
    go_wp2_with (first
      | (with_reducible refine wpList_boxV (w := w) (by with_unfolding_all rfl) 63 (.tmp 0) (by with_unfolding_all rfl) (rtv v e a n c) (by with_unfolding_all rfl) ?_; intro w1 hA1 hB1 hS1; obtain ⟨p0, p1, p2⟩ := hA1.rt3; clear hS1))
    go_ret
    exact ⟨rfl, hB1⟩
  subst h1
  by_cases h2 : e = 0
  case neg =>
    have d2 := z_eq h2
    rw [decide_eq_false h2]
    go_enter Tryd.func70, Tryd.ntmps70
    go_wp2_with (first
      | (with_reducible refine wpList_boxV (w := w) (by with_unfolding_all rfl) 63 (.tmp 0) (by with_unfolding_all rfl) (rtv 0 e a n c) (by with_unfolding_all rfl) ?_; intro w1 hA1 hB1 hS1; obtain ⟨p0, p1, p2⟩ := hA1.rt3; clear hS1))
    go_ret
    exact ⟨rfl, hB1⟩
  subst h2
  by_cases h3 : n = 0
  case neg =>
    have d3 : ((n : Int) == 0) = false := z_eq (by omega)
    rw [decide_eq_false h3]
    go_enter Tryd.func70, Tryd.ntmps70
    go_wp2_with (first
      | (with_reducible refine wpList_boxV (w := w) (by with_unfolding_all rfl) 63 (.tmp 0) (by with_unfolding_all rfl) (rtv 0 0 a n c) (by with_unfolding_all rfl) ?_; intro w1 hA1 hB1 hS1; obtain ⟨p0, p1, p2⟩ := hA1.rt3; clear hS1))
    go_ret
    exact ⟨rfl, hB1⟩
  subst h3
  go_enter Tryd.func70, Tryd.ntmps70
  go_wp2_with (first
    | (with_reducible refine wpList_boxV (w := w) (by with_unfolding_all rfl) 63 (.tmp 0) (by with_unfolding_all rfl) (rtv 0 0 a 0 c) (by with_unfolding_all rfl) ?_; intro w1 hA1 hB1 hS1; obtain ⟨p0, p1, p2⟩ := hA1.rt3; clear hS1))
  go_ret
  exact ⟨rfl, hB1⟩
set_option maxRecDepth 100000 in
set_option maxHeartbeats 8000000 in
theorem specTrustR (rv re : Int) (rn : Nat) (t1 t2 t3 s1 s2 s3 gv ge : Int) (gn : Nat) (hs : Int) (hr : ByteArray) (ht : Int) (ra : Option Addr) (rc : Nat) (rs : List RoleV) (ga : Option Addr) (gc : Nat) (gs : List TarV) (w : World) (hW : TrW ⟨rv, re, rn, t1, t2, t3, s1, s2, s3, gv, ge, gn, hs, hr, ht⟩ rs gs) (h1 : RlsAt w ra rs) (h2 : TgsAt w ga gs) :
    Calls Tryd.prog 67 #[.agg #[.int .i64 rv, .int .i64 re, .slice ra rn rc, .int .i64 t1, .int .i64 t2, .int .i64 t3, .int .i64 s1, .int .i64 s2, .int .i64 s3, .int .i64 gv, .int .i64 ge, .slice ga gn gc, .int .i64 hs, .string hr, .int .i64 ht]] w fun e w' => e = .returned (.bool (TruU.okB ⟨rv, re, rn, t1, t2, t3, s1, s2, s3, gv, ge, gn, hs, hr, ht⟩ rs gs)) ∧ Below w.heap.size w w' := by
  have HA1 : Hid (RlsAt w ra rs) := h1
  have HA2 : Hid (TgsAt w ga gs) := h2
  have hR : ∀ w0, Hid (KpTr w w.heap.size ⟨rv, re, rn, t1, t2, t3, s1, s2, s3, gv, ge, gn, hs, hr, ht⟩ ra rc rs ga gc gs w0) → Calls Tryd.prog 105 #[.agg #[.int .i64 rv, .int .i64 re, .slice ra rn rc]] w0 fun r w' => r = .returned (.bool (rootB rv re rs)) ∧ Below w0.heap.size w0 w' := fun w0 h0 => specRootR rv re ra rc rn rs w0 hW.rn h0.out.rl hW.rm hW.rw
  have hT : ∀ w0, Hid (KpTr w w.heap.size ⟨rv, re, rn, t1, t2, t3, s1, s2, s3, gv, ge, gn, hs, hr, ht⟩ ra rc rs ga gc gs w0) → Calls Tryd.prog 107 #[.agg #[.int .i64 gv, .int .i64 ge, .slice ga gn gc]] w0 fun r w' => r = .returned (.bool (targetsB gv ge gs)) ∧ Below w0.heap.size w0 w' := fun w0 h0 => specTargetsR gv ge ga gc gn gs w0 hW.gn h0.out.tg hW.gm hW.gw
  have hN1 : ∀ w0, Calls Tryd.prog 69 #[.agg #[.int .i64 t1, .int .i64 t2, .int .i64 t3]] w0 fun r w' => r = .returned (.bool (noLk t1 t2 t3)) ∧ Below w0.heap.size w0 w' := fun w0 => specNoLk t1 t2 t3 w0
  have hN2 : ∀ w0, Calls Tryd.prog 69 #[.agg #[.int .i64 s1, .int .i64 s2, .int .i64 s3]] w0 fun r w' => r = .returned (.bool (noLk s1 s2 s3)) ∧ Below w0.heap.size w0 w' := fun w0 => specNoLk s1 s2 s3 w0
  have hN3 : ∀ w0, Calls Tryd.prog 70 #[.agg #[.int .i64 gv, .int .i64 ge, .slice ga gn gc]] w0 fun r w' => r = .returned (.bool (noTs gv ge gn)) ∧ Below w0.heap.size w0 w' := fun w0 => specNoTs gv ge ga gn gc w0 hW.gm
  have hL1 : ∀ w0, Calls Tryd.prog 106 #[.agg #[.int .i64 t1, .int .i64 t2, .int .i64 t3]] w0 fun r w' => r = .returned (.bool (linkB t1 t2 t3)) ∧ Below w0.heap.size w0 w' := fun w0 => specLink t1 t2 t3 w0
  have hL2 : ∀ w0, Calls Tryd.prog 106 #[.agg #[.int .i64 s1, .int .i64 s2, .int .i64 s3]] w0 fun r w' => r = .returned (.bool (linkB s1 s2 s3)) ∧ Below w0.heap.size w0 w' := fun w0 => specLink s1 s2 s3 w0
  have hH : ∀ w0, Calls Tryd.prog 108 #[.agg #[.int .i64 hs, .string hr, .int .i64 ht]] w0 fun r w' => r = .returned (.bool (headB hs hr ht)) ∧ Below w0.heap.size w0 w' := fun w0 => specHead hs hr ht w0 hW.hr
  unfold TruU.okB
  dsimp only
  generalize rootB rv re rs = bR at *
  generalize noLk t1 t2 t3 = n1 at *
  generalize linkB t1 t2 t3 = l1 at *
  generalize noLk s1 s2 s3 = n2 at *
  generalize linkB s1 s2 s3 = l2 at *
  generalize noTs gv ge gn = n3 at *
  generalize targetsB gv ge gs = l3 at *
  generalize headB hs hr ht = l4 at *
  have HN4 : Hid (noHd hs hr ht = (decide (hs = 0) && (decide (hr = ⟨#[]⟩) && decide (ht = 0)))) := rfl
  generalize noHd hs hr ht = n4 at *
  clear h1 h2 hW
  go_enter Tryd.func67, Tryd.ntmps67
  go_wp2_with (first
    | (with_reducible refine wpList_boxV (w := w) (by with_unfolding_all rfl) 66 (.tmp 0) (by with_unfolding_all rfl) (trv rv re ra rn rc t1 t2 t3 s1 s2 s3 gv ge ga gn gc hs hr ht) (by with_unfolding_all rfl) ?_; intro w1 hA1 hB1 hS1; clear hS1; have HS1 := KpTr.start (u := ⟨rv, re, rn, t1, t2, t3, s1, s2, s3, gv, ge, gn, hs, hr, ht⟩) HA1.out HA2.out hB1 hA1; obtain ⟨p0, p1, p2, p3, p4, p5, p6, p7, p8, p9, p10, p11, p12, p13, p14, _⟩ := KpTr.all HS1; clear hA1 hB1))
  refine (hR w1 HS1).mono ?_
  rintro e w2 ⟨rfl, hB2⟩
  have HS2 := KpTr.call HS1 hB2
  obtain ⟨q0, q1, q2, q3, q4, q5, q6, q7, q8, q9, q10, q11, q12, q13, q14, _⟩ := KpTr.all HS2
  clear p0 p1 p2 p3 p4 p5 p6 p7 p8 p9 p10 p11 p12 p13 p14 HS1 hB2
  cases bR with
  | false =>
    as_aux_lemma =>
    go_wp2
    go_ret
    exact ⟨rfl, HS2.out.below⟩
  | true =>
  go_wp2_with fail
  refine (hN1 w2).mono ?_
  rintro e w3 ⟨rfl, hB3⟩
  have HS3 := KpTr.call HS2 hB3
  obtain ⟨p0, p1, p2, p3, p4, p5, p6, p7, p8, p9, p10, p11, p12, p13, p14, _⟩ := KpTr.all HS3
  clear q0 q1 q2 q3 q4 q5 q6 q7 q8 q9 q10 q11 q12 q13 q14 HS2 hB3
  cases n1 with
  | true =>
    as_aux_lemma =>
    go_wp2_with fail
    refine (hN2 w3).mono ?_
    rintro e w4 ⟨rfl, hB4⟩
    have HS4 := KpTr.call HS3 hB4
    obtain ⟨q0, q1, q2, q3, q4, q5, q6, q7, q8, q9, q10, q11, q12, q13, q14, _⟩ := KpTr.all HS4
    clear p0 p1 p2 p3 p4 p5 p6 p7 p8 p9 p10 p11 p12 p13 p14 HS3 hB4
    cases n2 with
    | true =>
      as_aux_lemma =>
      go_wp2_with fail
      refine (hN3 w4).mono ?_
      rintro e w5 ⟨rfl, hB5⟩
      have HS5 := KpTr.call HS4 hB5
      obtain ⟨p0, p1, p2, p3, p4, p5, p6, p7, p8, p9, p10, p11, p12, p13, p14, _⟩ := KpTr.all HS5
      clear q0 q1 q2 q3 q4 q5 q6 q7 q8 q9 q10 q11 q12 q13 q14 HS4 hB5
      cases n3 with
      | true =>
        as_aux_lemma =>
        by_cases z1 : hs = 0
        case neg =>
          have d1 := z_eq z1
          obtain rfl : n4 = false := by rw [HN4.out, decide_eq_false z1]; rfl
          clear HN4
          go_wp2_with fail
          refine (hH w5).mono ?_
          rintro e w6 ⟨rfl, hB6⟩
          have HS6 := KpTr.call HS5 hB6
          clear p0 p1 p2 p3 p4 p5 p6 p7 p8 p9 p10 p11 p12 p13 p14 HS5 hB6
          cases l4 <;>
            (go_wp2
             go_ret
             exact ⟨rfl, HS6.out.below⟩)
        subst z1
        by_cases z2 : hr = ⟨#[]⟩
        case neg =>
          have d2 := txt_z z2
          obtain rfl : n4 = false := by rw [HN4.out, decide_eq_false z2]; rfl
          clear HN4
          go_wp2_with fail
          refine (hH w5).mono ?_
          rintro e w6 ⟨rfl, hB6⟩
          have HS6 := KpTr.call HS5 hB6
          clear p0 p1 p2 p3 p4 p5 p6 p7 p8 p9 p10 p11 p12 p13 p14 HS5 hB6
          cases l4 <;>
            (go_wp2
             go_ret
             exact ⟨rfl, HS6.out.below⟩)
        subst z2
        by_cases z3 : ht = 0
        case neg =>
          have d3 := z_eq z3
          obtain rfl : n4 = false := by rw [HN4.out, decide_eq_false z3]; rfl
          clear HN4
          go_wp2_with fail
          refine (hH w5).mono ?_
          rintro e w6 ⟨rfl, hB6⟩
          have HS6 := KpTr.call HS5 hB6
          clear p0 p1 p2 p3 p4 p5 p6 p7 p8 p9 p10 p11 p12 p13 p14 HS5 hB6
          cases l4 <;>
            (go_wp2
             go_ret
             exact ⟨rfl, HS6.out.below⟩)
        subst z3
        obtain rfl : n4 = true := HN4.out
        clear HN4
        go_wp2
        go_ret
        exact ⟨rfl, HS5.out.below⟩
      | false =>
        as_aux_lemma =>
        go_wp2_with fail
        refine (hT w5 HS5).mono ?_
        rintro e w6 ⟨rfl, hB6⟩
        have HS6 := KpTr.call HS5 hB6
        obtain ⟨q0, q1, q2, q3, q4, q5, q6, q7, q8, q9, q10, q11, q12, q13, q14, _⟩ := KpTr.all HS6
        clear p0 p1 p2 p3 p4 p5 p6 p7 p8 p9 p10 p11 p12 p13 p14 HS5 hB6
        cases l3 with
        | false =>
          as_aux_lemma =>
          go_wp2
          go_ret
          exact ⟨rfl, HS6.out.below⟩
        | true =>
          as_aux_lemma =>
          by_cases z1 : hs = 0
          case neg =>
            have d1 := z_eq z1
            obtain rfl : n4 = false := by rw [HN4.out, decide_eq_false z1]; rfl
            clear HN4
            go_wp2_with fail
            refine (hH w6).mono ?_
            rintro e w7 ⟨rfl, hB7⟩
            have HS7 := KpTr.call HS6 hB7
            clear q0 q1 q2 q3 q4 q5 q6 q7 q8 q9 q10 q11 q12 q13 q14 HS6 hB7
            cases l4 <;>
              (go_wp2
               go_ret
               exact ⟨rfl, HS7.out.below⟩)
          subst z1
          by_cases z2 : hr = ⟨#[]⟩
          case neg =>
            have d2 := txt_z z2
            obtain rfl : n4 = false := by rw [HN4.out, decide_eq_false z2]; rfl
            clear HN4
            go_wp2_with fail
            refine (hH w6).mono ?_
            rintro e w7 ⟨rfl, hB7⟩
            have HS7 := KpTr.call HS6 hB7
            clear q0 q1 q2 q3 q4 q5 q6 q7 q8 q9 q10 q11 q12 q13 q14 HS6 hB7
            cases l4 <;>
              (go_wp2
               go_ret
               exact ⟨rfl, HS7.out.below⟩)
          subst z2
          by_cases z3 : ht = 0
          case neg =>
            have d3 := z_eq z3
            obtain rfl : n4 = false := by rw [HN4.out, decide_eq_false z3]; rfl
            clear HN4
            go_wp2_with fail
            refine (hH w6).mono ?_
            rintro e w7 ⟨rfl, hB7⟩
            have HS7 := KpTr.call HS6 hB7
            clear q0 q1 q2 q3 q4 q5 q6 q7 q8 q9 q10 q11 q12 q13 q14 HS6 hB7
            cases l4 <;>
              (go_wp2
               go_ret
               exact ⟨rfl, HS7.out.below⟩)
          subst z3
          obtain rfl : n4 = true := HN4.out
          clear HN4
          go_wp2
          go_ret
          exact ⟨rfl, HS6.out.below⟩
    | false =>
      as_aux_lemma =>
      go_wp2_with fail
      refine (hL2 w4).mono ?_
      rintro e w5 ⟨rfl, hB5⟩
      have HS5 := KpTr.call HS4 hB5
      obtain ⟨p0, p1, p2, p3, p4, p5, p6, p7, p8, p9, p10, p11, p12, p13, p14, _⟩ := KpTr.all HS5
      clear q0 q1 q2 q3 q4 q5 q6 q7 q8 q9 q10 q11 q12 q13 q14 HS4 hB5
      cases l2 with
      | false =>
        as_aux_lemma =>
        go_wp2
        go_ret
        exact ⟨rfl, HS5.out.below⟩
      | true =>
        as_aux_lemma =>
        go_wp2_with fail
        refine (hN3 w5).mono ?_
        rintro e w6 ⟨rfl, hB6⟩
        have HS6 := KpTr.call HS5 hB6
        obtain ⟨q0, q1, q2, q3, q4, q5, q6, q7, q8, q9, q10, q11, q12, q13, q14, _⟩ := KpTr.all HS6
        clear p0 p1 p2 p3 p4 p5 p6 p7 p8 p9 p10 p11 p12 p13 p14 HS5 hB6
        cases n3 with
        | true =>
          as_aux_lemma =>
          by_cases z1 : hs = 0
          case neg =>
            have d1 := z_eq z1
            obtain rfl : n4 = false := by rw [HN4.out, decide_eq_false z1]; rfl
            clear HN4
            go_wp2_with fail
            refine (hH w6).mono ?_
            rintro e w7 ⟨rfl, hB7⟩
            have HS7 := KpTr.call HS6 hB7
            clear q0 q1 q2 q3 q4 q5 q6 q7 q8 q9 q10 q11 q12 q13 q14 HS6 hB7
            cases l4 <;>
              (go_wp2
               go_ret
               exact ⟨rfl, HS7.out.below⟩)
          subst z1
          by_cases z2 : hr = ⟨#[]⟩
          case neg =>
            have d2 := txt_z z2
            obtain rfl : n4 = false := by rw [HN4.out, decide_eq_false z2]; rfl
            clear HN4
            go_wp2_with fail
            refine (hH w6).mono ?_
            rintro e w7 ⟨rfl, hB7⟩
            have HS7 := KpTr.call HS6 hB7
            clear q0 q1 q2 q3 q4 q5 q6 q7 q8 q9 q10 q11 q12 q13 q14 HS6 hB7
            cases l4 <;>
              (go_wp2
               go_ret
               exact ⟨rfl, HS7.out.below⟩)
          subst z2
          by_cases z3 : ht = 0
          case neg =>
            have d3 := z_eq z3
            obtain rfl : n4 = false := by rw [HN4.out, decide_eq_false z3]; rfl
            clear HN4
            go_wp2_with fail
            refine (hH w6).mono ?_
            rintro e w7 ⟨rfl, hB7⟩
            have HS7 := KpTr.call HS6 hB7
            clear q0 q1 q2 q3 q4 q5 q6 q7 q8 q9 q10 q11 q12 q13 q14 HS6 hB7
            cases l4 <;>
              (go_wp2
               go_ret
               exact ⟨rfl, HS7.out.below⟩)
          subst z3
          obtain rfl : n4 = true := HN4.out
          clear HN4
          go_wp2
          go_ret
          exact ⟨rfl, HS6.out.below⟩
        | false =>
          as_aux_lemma =>
          go_wp2_with fail
          refine (hT w6 HS6).mono ?_
          rintro e w7 ⟨rfl, hB7⟩
          have HS7 := KpTr.call HS6 hB7
          obtain ⟨p0, p1, p2, p3, p4, p5, p6, p7, p8, p9, p10, p11, p12, p13, p14, _⟩ := KpTr.all HS7
          clear q0 q1 q2 q3 q4 q5 q6 q7 q8 q9 q10 q11 q12 q13 q14 HS6 hB7
          cases l3 with
          | false =>
            as_aux_lemma =>
            go_wp2
            go_ret
            exact ⟨rfl, HS7.out.below⟩
          | true =>
            as_aux_lemma =>
            by_cases z1 : hs = 0
            case neg =>
              have d1 := z_eq z1
              obtain rfl : n4 = false := by rw [HN4.out, decide_eq_false z1]; rfl
              clear HN4
              go_wp2_with fail
              refine (hH w7).mono ?_
              rintro e w8 ⟨rfl, hB8⟩
              have HS8 := KpTr.call HS7 hB8
              clear p0 p1 p2 p3 p4 p5 p6 p7 p8 p9 p10 p11 p12 p13 p14 HS7 hB8
              cases l4 <;>
                (go_wp2
                 go_ret
                 exact ⟨rfl, HS8.out.below⟩)
            subst z1
            by_cases z2 : hr = ⟨#[]⟩
            case neg =>
              have d2 := txt_z z2
              obtain rfl : n4 = false := by rw [HN4.out, decide_eq_false z2]; rfl
              clear HN4
              go_wp2_with fail
              refine (hH w7).mono ?_
              rintro e w8 ⟨rfl, hB8⟩
              have HS8 := KpTr.call HS7 hB8
              clear p0 p1 p2 p3 p4 p5 p6 p7 p8 p9 p10 p11 p12 p13 p14 HS7 hB8
              cases l4 <;>
                (go_wp2
                 go_ret
                 exact ⟨rfl, HS8.out.below⟩)
            subst z2
            by_cases z3 : ht = 0
            case neg =>
              have d3 := z_eq z3
              obtain rfl : n4 = false := by rw [HN4.out, decide_eq_false z3]; rfl
              clear HN4
              go_wp2_with fail
              refine (hH w7).mono ?_
              rintro e w8 ⟨rfl, hB8⟩
              have HS8 := KpTr.call HS7 hB8
              clear p0 p1 p2 p3 p4 p5 p6 p7 p8 p9 p10 p11 p12 p13 p14 HS7 hB8
              cases l4 <;>
                (go_wp2
                 go_ret
                 exact ⟨rfl, HS8.out.below⟩)
            subst z3
            obtain rfl : n4 = true := HN4.out
            clear HN4
            go_wp2
            go_ret
            exact ⟨rfl, HS7.out.below⟩
  | false =>
    as_aux_lemma =>
    go_wp2_with fail
    refine (hL1 w3).mono ?_
    rintro e w4 ⟨rfl, hB4⟩
    have HS4 := KpTr.call HS3 hB4
    obtain ⟨q0, q1, q2, q3, q4, q5, q6, q7, q8, q9, q10, q11, q12, q13, q14, _⟩ := KpTr.all HS4
    clear p0 p1 p2 p3 p4 p5 p6 p7 p8 p9 p10 p11 p12 p13 p14 HS3 hB4
    cases l1 with
    | false =>
      as_aux_lemma =>
      go_wp2
      go_ret
      exact ⟨rfl, HS4.out.below⟩
    | true =>
      as_aux_lemma =>
      go_wp2_with fail
      refine (hN2 w4).mono ?_
      rintro e w5 ⟨rfl, hB5⟩
      have HS5 := KpTr.call HS4 hB5
      obtain ⟨p0, p1, p2, p3, p4, p5, p6, p7, p8, p9, p10, p11, p12, p13, p14, _⟩ := KpTr.all HS5
      clear q0 q1 q2 q3 q4 q5 q6 q7 q8 q9 q10 q11 q12 q13 q14 HS4 hB5
      cases n2 with
      | true =>
        as_aux_lemma =>
        go_wp2_with fail
        refine (hN3 w5).mono ?_
        rintro e w6 ⟨rfl, hB6⟩
        have HS6 := KpTr.call HS5 hB6
        obtain ⟨q0, q1, q2, q3, q4, q5, q6, q7, q8, q9, q10, q11, q12, q13, q14, _⟩ := KpTr.all HS6
        clear p0 p1 p2 p3 p4 p5 p6 p7 p8 p9 p10 p11 p12 p13 p14 HS5 hB6
        cases n3 with
        | true =>
          as_aux_lemma =>
          by_cases z1 : hs = 0
          case neg =>
            have d1 := z_eq z1
            obtain rfl : n4 = false := by rw [HN4.out, decide_eq_false z1]; rfl
            clear HN4
            go_wp2_with fail
            refine (hH w6).mono ?_
            rintro e w7 ⟨rfl, hB7⟩
            have HS7 := KpTr.call HS6 hB7
            clear q0 q1 q2 q3 q4 q5 q6 q7 q8 q9 q10 q11 q12 q13 q14 HS6 hB7
            cases l4 <;>
              (go_wp2
               go_ret
               exact ⟨rfl, HS7.out.below⟩)
          subst z1
          by_cases z2 : hr = ⟨#[]⟩
          case neg =>
            have d2 := txt_z z2
            obtain rfl : n4 = false := by rw [HN4.out, decide_eq_false z2]; rfl
            clear HN4
            go_wp2_with fail
            refine (hH w6).mono ?_
            rintro e w7 ⟨rfl, hB7⟩
            have HS7 := KpTr.call HS6 hB7
            clear q0 q1 q2 q3 q4 q5 q6 q7 q8 q9 q10 q11 q12 q13 q14 HS6 hB7
            cases l4 <;>
              (go_wp2
               go_ret
               exact ⟨rfl, HS7.out.below⟩)
          subst z2
          by_cases z3 : ht = 0
          case neg =>
            have d3 := z_eq z3
            obtain rfl : n4 = false := by rw [HN4.out, decide_eq_false z3]; rfl
            clear HN4
            go_wp2_with fail
            refine (hH w6).mono ?_
            rintro e w7 ⟨rfl, hB7⟩
            have HS7 := KpTr.call HS6 hB7
            clear q0 q1 q2 q3 q4 q5 q6 q7 q8 q9 q10 q11 q12 q13 q14 HS6 hB7
            cases l4 <;>
              (go_wp2
               go_ret
               exact ⟨rfl, HS7.out.below⟩)
          subst z3
          obtain rfl : n4 = true := HN4.out
          clear HN4
          go_wp2
          go_ret
          exact ⟨rfl, HS6.out.below⟩
        | false =>
          as_aux_lemma =>
          go_wp2_with fail
          refine (hT w6 HS6).mono ?_
          rintro e w7 ⟨rfl, hB7⟩
          have HS7 := KpTr.call HS6 hB7
          obtain ⟨p0, p1, p2, p3, p4, p5, p6, p7, p8, p9, p10, p11, p12, p13, p14, _⟩ := KpTr.all HS7
          clear q0 q1 q2 q3 q4 q5 q6 q7 q8 q9 q10 q11 q12 q13 q14 HS6 hB7
          cases l3 with
          | false =>
            as_aux_lemma =>
            go_wp2
            go_ret
            exact ⟨rfl, HS7.out.below⟩
          | true =>
            as_aux_lemma =>
            by_cases z1 : hs = 0
            case neg =>
              have d1 := z_eq z1
              obtain rfl : n4 = false := by rw [HN4.out, decide_eq_false z1]; rfl
              clear HN4
              go_wp2_with fail
              refine (hH w7).mono ?_
              rintro e w8 ⟨rfl, hB8⟩
              have HS8 := KpTr.call HS7 hB8
              clear p0 p1 p2 p3 p4 p5 p6 p7 p8 p9 p10 p11 p12 p13 p14 HS7 hB8
              cases l4 <;>
                (go_wp2
                 go_ret
                 exact ⟨rfl, HS8.out.below⟩)
            subst z1
            by_cases z2 : hr = ⟨#[]⟩
            case neg =>
              have d2 := txt_z z2
              obtain rfl : n4 = false := by rw [HN4.out, decide_eq_false z2]; rfl
              clear HN4
              go_wp2_with fail
              refine (hH w7).mono ?_
              rintro e w8 ⟨rfl, hB8⟩
              have HS8 := KpTr.call HS7 hB8
              clear p0 p1 p2 p3 p4 p5 p6 p7 p8 p9 p10 p11 p12 p13 p14 HS7 hB8
              cases l4 <;>
                (go_wp2
                 go_ret
                 exact ⟨rfl, HS8.out.below⟩)
            subst z2
            by_cases z3 : ht = 0
            case neg =>
              have d3 := z_eq z3
              obtain rfl : n4 = false := by rw [HN4.out, decide_eq_false z3]; rfl
              clear HN4
              go_wp2_with fail
              refine (hH w7).mono ?_
              rintro e w8 ⟨rfl, hB8⟩
              have HS8 := KpTr.call HS7 hB8
              clear p0 p1 p2 p3 p4 p5 p6 p7 p8 p9 p10 p11 p12 p13 p14 HS7 hB8
              cases l4 <;>
                (go_wp2
                 go_ret
                 exact ⟨rfl, HS8.out.below⟩)
            subst z3
            obtain rfl : n4 = true := HN4.out
            clear HN4
            go_wp2
            go_ret
            exact ⟨rfl, HS7.out.below⟩
      | false =>
        as_aux_lemma =>
        go_wp2_with fail
        refine (hL2 w5).mono ?_
        rintro e w6 ⟨rfl, hB6⟩
        have HS6 := KpTr.call HS5 hB6
        obtain ⟨q0, q1, q2, q3, q4, q5, q6, q7, q8, q9, q10, q11, q12, q13, q14, _⟩ := KpTr.all HS6
        clear p0 p1 p2 p3 p4 p5 p6 p7 p8 p9 p10 p11 p12 p13 p14 HS5 hB6
        cases l2 with
        | false =>
          as_aux_lemma =>
          go_wp2
          go_ret
          exact ⟨rfl, HS6.out.below⟩
        | true =>
          as_aux_lemma =>
          go_wp2_with fail
          refine (hN3 w6).mono ?_
          rintro e w7 ⟨rfl, hB7⟩
          have HS7 := KpTr.call HS6 hB7
          obtain ⟨p0, p1, p2, p3, p4, p5, p6, p7, p8, p9, p10, p11, p12, p13, p14, _⟩ := KpTr.all HS7
          clear q0 q1 q2 q3 q4 q5 q6 q7 q8 q9 q10 q11 q12 q13 q14 HS6 hB7
          cases n3 with
          | true =>
            as_aux_lemma =>
            by_cases z1 : hs = 0
            case neg =>
              have d1 := z_eq z1
              obtain rfl : n4 = false := by rw [HN4.out, decide_eq_false z1]; rfl
              clear HN4
              go_wp2_with fail
              refine (hH w7).mono ?_
              rintro e w8 ⟨rfl, hB8⟩
              have HS8 := KpTr.call HS7 hB8
              clear p0 p1 p2 p3 p4 p5 p6 p7 p8 p9 p10 p11 p12 p13 p14 HS7 hB8
              cases l4 <;>
                (go_wp2
                 go_ret
                 exact ⟨rfl, HS8.out.below⟩)
            subst z1
            by_cases z2 : hr = ⟨#[]⟩
            case neg =>
              have d2 := txt_z z2
              obtain rfl : n4 = false := by rw [HN4.out, decide_eq_false z2]; rfl
              clear HN4
              go_wp2_with fail
              refine (hH w7).mono ?_
              rintro e w8 ⟨rfl, hB8⟩
              have HS8 := KpTr.call HS7 hB8
              clear p0 p1 p2 p3 p4 p5 p6 p7 p8 p9 p10 p11 p12 p13 p14 HS7 hB8
              cases l4 <;>
                (go_wp2
                 go_ret
                 exact ⟨rfl, HS8.out.below⟩)
            subst z2
            by_cases z3 : ht = 0
            case neg =>
              have d3 := z_eq z3
              obtain rfl : n4 = false := by rw [HN4.out, decide_eq_false z3]; rfl
              clear HN4
              go_wp2_with fail
              refine (hH w7).mono ?_
              rintro e w8 ⟨rfl, hB8⟩
              have HS8 := KpTr.call HS7 hB8
              clear p0 p1 p2 p3 p4 p5 p6 p7 p8 p9 p10 p11 p12 p13 p14 HS7 hB8
              cases l4 <;>
                (go_wp2
                 go_ret
                 exact ⟨rfl, HS8.out.below⟩)
            subst z3
            obtain rfl : n4 = true := HN4.out
            clear HN4
            go_wp2
            go_ret
            exact ⟨rfl, HS7.out.below⟩
          | false =>
            as_aux_lemma =>
            go_wp2_with fail
            refine (hT w7 HS7).mono ?_
            rintro e w8 ⟨rfl, hB8⟩
            have HS8 := KpTr.call HS7 hB8
            obtain ⟨q0, q1, q2, q3, q4, q5, q6, q7, q8, q9, q10, q11, q12, q13, q14, _⟩ := KpTr.all HS8
            clear p0 p1 p2 p3 p4 p5 p6 p7 p8 p9 p10 p11 p12 p13 p14 HS7 hB8
            cases l3 with
            | false =>
              as_aux_lemma =>
              go_wp2
              go_ret
              exact ⟨rfl, HS8.out.below⟩
            | true =>
              as_aux_lemma =>
              by_cases z1 : hs = 0
              case neg =>
                have d1 := z_eq z1
                obtain rfl : n4 = false := by rw [HN4.out, decide_eq_false z1]; rfl
                clear HN4
                go_wp2_with fail
                refine (hH w8).mono ?_
                rintro e w9 ⟨rfl, hB9⟩
                have HS9 := KpTr.call HS8 hB9
                clear q0 q1 q2 q3 q4 q5 q6 q7 q8 q9 q10 q11 q12 q13 q14 HS8 hB9
                cases l4 <;>
                  (go_wp2
                   go_ret
                   exact ⟨rfl, HS9.out.below⟩)
              subst z1
              by_cases z2 : hr = ⟨#[]⟩
              case neg =>
                have d2 := txt_z z2
                obtain rfl : n4 = false := by rw [HN4.out, decide_eq_false z2]; rfl
                clear HN4
                go_wp2_with fail
                refine (hH w8).mono ?_
                rintro e w9 ⟨rfl, hB9⟩
                have HS9 := KpTr.call HS8 hB9
                clear q0 q1 q2 q3 q4 q5 q6 q7 q8 q9 q10 q11 q12 q13 q14 HS8 hB9
                cases l4 <;>
                  (go_wp2
                   go_ret
                   exact ⟨rfl, HS9.out.below⟩)
              subst z2
              by_cases z3 : ht = 0
              case neg =>
                have d3 := z_eq z3
                obtain rfl : n4 = false := by rw [HN4.out, decide_eq_false z3]; rfl
                clear HN4
                go_wp2_with fail
                refine (hH w8).mono ?_
                rintro e w9 ⟨rfl, hB9⟩
                have HS9 := KpTr.call HS8 hB9
                clear q0 q1 q2 q3 q4 q5 q6 q7 q8 q9 q10 q11 q12 q13 q14 HS8 hB9
                cases l4 <;>
                  (go_wp2
                   go_ret
                   exact ⟨rfl, HS9.out.below⟩)
              subst z3
              obtain rfl : n4 = true := HN4.out
              clear HN4
              go_wp2
              go_ret
              exact ⟨rfl, HS8.out.below⟩
end Go.Proofs.YtdfglpbappeoaabDoor
