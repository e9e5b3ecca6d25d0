/- Fresh of the specification. -/
import Derived.Test.YtdfglpbappeoaabDoorTrS
namespace Go.Proofs.YtdfglpbappeoaabDoor
open Go.RowKit
set_option linter.unusedVariables false

def frC (ok n1 n2 n3 c1 c2 x1 x2 x3 x4 : Bool) : Int := if ok then (if n1 || (n2 || n3) then 9 else if !c1 || !c2 then 7 else if x1 || (x2 || (x3 || x4)) then 8 else 0) else 1
def TruU.fr (u : TruU) (rs : List RoleV) (gs : List TarV) (now : Int) : Int := frC (u.okB rs gs && timB now) (noLk u.t1 u.t2 u.t3) (noLk u.s1 u.s2 u.s3) (noTs u.gv u.ge u.gn) (decide (u.s1 = u.t3)) (decide (u.gv = u.s3)) (decide (u.re ≤ now)) (decide (u.t2 ≤ now)) (decide (u.s2 ≤ now)) (decide (u.ge ≤ now))
set_option maxRecDepth 100000 in
set_option maxHeartbeats 8000000 in
theorem specFreshR (rv re : Int) (rn : Nat) (t1 t2 t3 s1 s2 s3 gv ge : Int) (gn : Nat) (hs : Int) (hr : ByteArray) (ht : Int) (ra : Option Addr) (rc : Nat) (rs : List RoleV) (ga : Option Addr) (gc : Nat) (gs : List TarV) (now : Int) (w : World) (hW : TrW ⟨rv, re, rn, t1, t2, t3, s1, s2, s3, gv, ge, gn, hs, hr, ht⟩ rs gs) (h1 : RlsAt w ra rs) (h2 : TgsAt w ga gs) :
    Calls Tryd.prog 27 #[.agg #[.int .i64 rv, .int .i64 re, .slice ra rn rc, .int .i64 t1, .int .i64 t2, .int .i64 t3, .int .i64 s1, .int .i64 s2, .int .i64 s3, .int .i64 gv, .int .i64 ge, .slice ga gn gc, .int .i64 hs, .string hr, .int .i64 ht], .int .i64 now] w fun e w' => e = .returned (.int .i64 (TruU.fr ⟨rv, re, rn, t1, t2, t3, s1, s2, s3, gv, ge, gn, hs, hr, ht⟩ rs gs now)) ∧ Below w.heap.size w w' := by
  have HA1 : Hid (RlsAt w ra rs) := h1
  have HA2 : Hid (TgsAt w ga gs) := h2
  have hR : ∀ w0, Hid (KpTr w w.heap.size ⟨rv, re, rn, t1, t2, t3, s1, s2, s3, gv, ge, gn, hs, hr, ht⟩ ra rc rs ga gc gs w0) → Calls Tryd.prog 67 #[.agg #[.int .i64 rv, .int .i64 re, .slice ra rn rc, .int .i64 t1, .int .i64 t2, .int .i64 t3, .int .i64 s1, .int .i64 s2, .int .i64 s3, .int .i64 gv, .int .i64 ge, .slice ga gn gc, .int .i64 hs, .string hr, .int .i64 ht]] w0 fun r w' => r = .returned (.bool (TruU.okB ⟨rv, re, rn, t1, t2, t3, s1, s2, s3, gv, ge, gn, hs, hr, ht⟩ rs gs)) ∧ Below w0.heap.size w0 w' := fun w0 h0 => specTrustR rv re rn t1 t2 t3 s1 s2 s3 gv ge gn hs hr ht ra rc rs ga gc gs w0 hW h0.out.rl h0.out.tg
  have hT : ∀ w0, Calls Tryd.prog 68 #[.int .i64 now] w0 fun r w' => r = .returned (.bool (timB now)) ∧ w0 = w' := fun w0 => specTim now w0
  have hN1 : ∀ w0, Calls Tryd.prog 69 #[.agg #[.int .i64 t1, .int .i64 t2, .int .i64 t3]] w0 fun r w' => r = .returned (.bool (noLk t1 t2 t3)) ∧ Below w0.heap.size w0 w' := fun w0 => specNoLk t1 t2 t3 w0
  have hN2 : ∀ w0, Calls Tryd.prog 69 #[.agg #[.int .i64 s1, .int .i64 s2, .int .i64 s3]] w0 fun r w' => r = .returned (.bool (noLk s1 s2 s3)) ∧ Below w0.heap.size w0 w' := fun w0 => specNoLk s1 s2 s3 w0
  have hN3 : ∀ w0, Calls Tryd.prog 70 #[.agg #[.int .i64 gv, .int .i64 ge, .slice ga gn gc]] w0 fun r w' => r = .returned (.bool (noTs gv ge gn)) ∧ Below w0.heap.size w0 w' := fun w0 => specNoTs gv ge ga gn gc w0 hW.gm
  unfold TruU.fr
  dsimp only
  generalize TruU.okB ⟨rv, re, rn, t1, t2, t3, s1, s2, s3, gv, ge, gn, hs, hr, ht⟩ rs gs = bR at *
  generalize timB now = bT at *
  generalize noLk t1 t2 t3 = n1 at *
  generalize noLk s1 s2 s3 = n2 at *
  generalize noTs gv ge gn = n3 at *
  obtain ⟨d1, e1⟩ : ∃ b, decide (s1 = t3) = b := ⟨_, rfl⟩
  obtain ⟨d2, e2⟩ : ∃ b, decide (gv = s3) = b := ⟨_, rfl⟩
  obtain ⟨x1, f1⟩ : ∃ b, decide (re ≤ now) = b := ⟨_, rfl⟩
  obtain ⟨x2, f2⟩ : ∃ b, decide (t2 ≤ now) = b := ⟨_, rfl⟩
  obtain ⟨x3, f3⟩ : ∃ b, decide (s2 ≤ now) = b := ⟨_, rfl⟩
  obtain ⟨x4, f4⟩ : ∃ b, decide (ge ≤ now) = b := ⟨_, rfl⟩
  have HX1 : Hid (decide (s1 = t3) = d1) := e1
  have HX2 : Hid (decide (gv = s3) = d2) := e2
  rw [e1, e2, f1, f2, f3, f4]
  clear h1 h2 hW e1 e2
  go_enter Tryd.func27, Tryd.ntmps27
  go_wp2_with (first
    | (with_reducible refine wpList_boxV (w := w) (by with_unfolding_all rfl) 66 (.tmp 0) (by with_unfolding_all rfl) (trv rv re ra rn rc t1 t2 t3 s1 s2 s3 gv ge ga gn gc hs hr ht) (by with_unfolding_all rfl) ?_; intro w1 hA1 hB1 hS1; clear hS1; have HS1 := KpTr.start (u := ⟨rv, re, rn, t1, t2, t3, s1, s2, s3, gv, ge, gn, hs, hr, ht⟩) HA1.out HA2.out hB1 hA1; obtain ⟨p0, p1, p2, p3, p4, p5, p6, p7, p8, p9, p10, p11, p12, p13, p14, _⟩ := KpTr.all HS1; clear hA1 hB1))
  refine (hR w1 HS1).mono ?_
  rintro e w2 ⟨rfl, hB2⟩
  have HS2 := KpTr.call HS1 hB2
  clear p0 p1 p2 p3 p4 p5 p6 p7 p8 p9 p10 p11 p12 p13 p14
  obtain ⟨q0, q1, q2, q3, q4, q5, q6, q7, q8, q9, q10, q11, q12, q13, q14, _⟩ := KpTr.all HS2
  clear HS1 hB2
  cases bR with
  | false =>
    as_aux_lemma =>
    go_wp2
    go_ret
    exact ⟨rfl, HS2.out.below⟩
  | true =>
  go_wp2_with fail
  refine (hT w2).mono ?_
  rintro e w' ⟨rfl, rfl⟩
  cases bT with
  | false =>
    as_aux_lemma =>
    go_wp2
    go_ret
    exact ⟨rfl, HS2.out.below⟩
  | true =>
  go_wp2_with fail
  refine (hN1 w2).mono ?_
  rintro e w3 ⟨rfl, hB3⟩
  have HS3 := KpTr.call HS2 hB3
  clear q0 q1 q2 q3 q4 q5 q6 q7 q8 q9 q10 q11 q12 q13 q14
  obtain ⟨p0, p1, p2, p3, p4, p5, p6, p7, p8, p9, p10, p11, p12, p13, p14, _⟩ := KpTr.all HS3
  clear HS2 hB3
  cases n1 with
  | true =>
    as_aux_lemma =>
    go_wp2
    go_ret
    exact ⟨rfl, HS3.out.below⟩
  | false =>
  go_wp2_with fail
  refine (hN2 w3).mono ?_
  rintro e w4 ⟨rfl, hB4⟩
  have HS4 := KpTr.call HS3 hB4
  clear p0 p1 p2 p3 p4 p5 p6 p7 p8 p9 p10 p11 p12 p13 p14
  obtain ⟨q0, q1, q2, q3, q4, q5, q6, q7, q8, q9, q10, q11, q12, q13, q14, _⟩ := KpTr.all HS4
  clear HS3 hB4
  cases n2 with
  | true =>
    as_aux_lemma =>
    go_wp2
    go_ret
    exact ⟨rfl, HS4.out.below⟩
  | false =>
  go_wp2_with fail
  refine (hN3 w4).mono ?_
  rintro e w5 ⟨rfl, hB5⟩
  have HS5 := KpTr.call HS4 hB5
  clear q0 q1 q2 q3 q4 q5 q6 q7 q8 q9 q10 q11 q12 q13 q14
  obtain ⟨p0, p1, p2, p3, p4, p5, p6, p7, p8, p9, p10, p11, p12, p13, p14, _⟩ := KpTr.all HS5
  clear HS4 hB5
  cases n3 with
  | true =>
    as_aux_lemma =>
    go_wp2
    go_ret
    exact ⟨rfl, HS5.out.below⟩
  | false =>
  cases d1 with
  | false =>
    have y0 : (s1 == t3) = false := beq_eq_false_iff_ne.2 (of_decide_eq_false HX1.out)
    have y0' : (s1 != t3) = true := by rw [bne, y0]; rfl
    as_aux_lemma =>
    go_wp2
    go_ret
    exact ⟨rfl, HS5.out.below⟩
  | true =>
  have y0 : (s1 == t3) = true := beq_iff_eq.2 (of_decide_eq_true HX1.out)
  have y0' : (s1 != t3) = false := by rw [bne, y0]; rfl
  cases d2 with
  | false =>
    have y1 : (gv == s3) = false := beq_eq_false_iff_ne.2 (of_decide_eq_false HX2.out)
    have y1' : (gv != s3) = true := by rw [bne, y1]; rfl
    as_aux_lemma =>
    go_wp2
    go_ret
    exact ⟨rfl, HS5.out.below⟩
  | true =>
  have y1 : (gv == s3) = true := beq_iff_eq.2 (of_decide_eq_true HX2.out)
  have y1' : (gv != s3) = false := by rw [bne, y1]; rfl
  cases x1 with
  | true =>
    as_aux_lemma =>
    go_wp2
    go_ret
    exact ⟨rfl, HS5.out.below⟩
  | false =>
  cases x2 with
  | true =>
    as_aux_lemma =>
    go_wp2
    go_ret
    exact ⟨rfl, HS5.out.below⟩
  | false =>
  cases x3 with
  | true =>
    as_aux_lemma =>
    go_wp2
    go_ret
    exact ⟨rfl, HS5.out.below⟩
  | false =>
  cases x4 with
  | true =>
    as_aux_lemma =>
    go_wp2
    go_ret
    exact ⟨rfl, HS5.out.below⟩
  | false =>
    as_aux_lemma =>
    go_wp2
    go_ret
    exact ⟨rfl, HS5.out.below⟩
end Go.Proofs.YtdfglpbappeoaabDoor
