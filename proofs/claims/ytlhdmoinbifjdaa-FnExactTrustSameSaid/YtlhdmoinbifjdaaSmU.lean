/- TrustSame on both sides. -/
import Derived.Test.YtlhdmoinbifjdaaTrA
import Derived.Test.YtlhdmoinbifjdaaSmS
import Derived.Test.YtlhdmoinbifjdaaSmT
namespace Go.Proofs.Ytlhdmoinbifjdaa
open Go.RowKit
set_option linter.unusedVariables false

def lkSame (a b c x y z : Int) : Bool := decide (a = x) && (decide (b = y) && decide (c = z))
def hdSame (a : Int) (b : ByteArray) (c x : Int) (y : ByteArray) (z : Int) : Bool := decide (a = x) && (decide (b = y) && decide (c = z))
def TruU.same (u : TruU) (rs : List RoleV) (gs : List TarV) (v : TruU) (rs' : List RoleV) (gs' : List TarV) : Bool :=
  rtSame u.rv u.re rs v.rv v.re rs' && (lkSame u.t1 u.t2 u.t3 v.t1 v.t2 v.t3 && (lkSame u.s1 u.s2 u.s3 v.s1 v.s2 v.s3 && (tsSame u.gv u.ge gs v.gv v.ge gs' && hdSame u.hs u.hr u.ht v.hs v.hr v.ht)))
theorem rlsSame_rkeys {r1 r2 r1' r2' : List RoleV} (h1 : rkeys r1' = rkeys r1) (h2 : rkeys r2' = rkeys r2) : rlsSame r1' r2' = rlsSame r1 r2 := by
  unfold rlsSame
  rw [h1, h2]
theorem same_rkeys {u v : TruU} {r1 r2 r1' r2' : List RoleV} {gs gs' : List TarV} (h1 : rkeys r1' = rkeys r1) (h2 : rkeys r2' = rkeys r2) : u.same r1' gs v r2' gs' = u.same r1 gs v r2 gs' := by
  unfold TruU.same rtSame
  rw [rlsSame_rkeys h1 h2]
structure KpDD (w : World) (g1 g2 : Nat) (u : TruU) (ra : Option Addr) (rc : Nat) (rs : List RoleV) (ga : Option Addr) (gc : Nat) (gs : List TarV) (v : TruU) (rab : Option Addr) (rcb : Nat) (rsb : List RoleV) (gab : Option Addr) (gcb : Nat) (gsb : List TarV) (w' : World) : Prop where
  k1 : KpTr w g1 u ra rc rs ga gc gs w'
  k2 : KpTr w g2 v rab rcb rsb gab gcb gsb w'
theorem KpDD.call {w w' w2 : World} {g1 g2 : Nat} {u v : TruU} {ra ga rab gab : Option Addr} {rc gc rcb gcb : Nat} {rs rsb : List RoleV} {gs gsb : List TarV} (h : Hid (KpDD w g1 g2 u ra rc rs ga gc gs v rab rcb rsb gab gcb gsb w')) (hb : Below w'.heap.size w' w2) : Hid (KpDD w g1 g2 u ra rc rs ga gc gs v rab rcb rsb gab gcb gsb w2) :=
  ⟨(KpTr.call (hidP h.out.k1) hb).out, (KpTr.call (hidP h.out.k2) hb).out⟩
theorem KpDD.mk0 {w w1 w2 : World} {u v : TruU} {ra ga rab gab : Option Addr} {rc gc rcb gcb : Nat} {rs rsb : List RoleV} {gs gsb : List TarV} (h1 : Hid (RlsAt w ra rs ∧ TgsAt w ga gs)) (h2 : Hid (RlsAt w rab rsb ∧ TgsAt w gab gsb)) (hA1 : RowV w1 w.heap.size (u.row ra rc ga gc)) (hB1 : Below w.heap.size w w1) (hA2 : RowV w2 w1.heap.size (v.row rab rcb gab gcb)) (hB2 : Below w1.heap.size w1 w2) (hS1 : w.heap.size < w1.heap.size) : Hid (KpDD w w.heap.size w1.heap.size u ra rc rs ga gc gs v rab rcb rsb gab gcb gsb w2) := by
  have bb : Below w.heap.size w w2 := hB1.trans (hB2.mono (by omega))
  exact ⟨⟨bb, hA1.below hB2 (by omega), h1.out.1.below bb, TgsAt.below h1.out.2 bb⟩, ⟨bb, hA2, h2.out.1.below bb, TgsAt.below h2.out.2 bb⟩⟩
theorem KpDD.all {w w' : World} {g1 g2 : Nat} {rv re : Int} {rn : Nat} {t1 t2 t3 s1 s2 s3 gv ge : Int} {gn : Nat} {hs : Int} {hr : ByteArray} {ht : Int} {rvb reb : Int} {rnb : Nat} {t1b t2b t3b s1b s2b s3b gvb geb : Int} {gnb : Nat} {hsb : Int} {hrb : ByteArray} {htb : Int} {ra ga rab gab : Option Addr} {rc gc rcb gcb : Nat} {rs rsb : List RoleV} {gs gsb : List TarV} (h : Hid (KpDD w g1 g2 ⟨rv, re, rn, t1, t2, t3, s1, s2, s3, gv, ge, gn, hs, hr, ht⟩ ra rc rs ga gc gs ⟨rvb, reb, rnb, t1b, t2b, t3b, s1b, s2b, s3b, gvb, geb, gnb, hsb, hrb, htb⟩ rab rcb rsb gab gcb gsb w')) : (w'.cell? ⟨g1, 0, none⟩ = some (.int .i64 rv) ∧ w'.cell? ⟨g1, 1, none⟩ = some (.int .i64 re) ∧ w'.cell? ⟨g1, 2, none⟩ = some (.slice ra rn rc) ∧ w'.cell? ⟨g1, 3, none⟩ = some (.int .i64 t1) ∧ w'.cell? ⟨g1, 4, none⟩ = some (.int .i64 t2) ∧ w'.cell? ⟨g1, 5, none⟩ = some (.int .i64 t3) ∧ w'.cell? ⟨g1, 6, none⟩ = some (.int .i64 s1) ∧ w'.cell? ⟨g1, 7, none⟩ = some (.int .i64 s2) ∧ w'.cell? ⟨g1, 8, none⟩ = some (.int .i64 s3) ∧ w'.cell? ⟨g1, 9, none⟩ = some (.int .i64 gv) ∧ w'.cell? ⟨g1, 10, none⟩ = some (.int .i64 ge) ∧ w'.cell? ⟨g1, 11, none⟩ = some (.slice ga gn gc) ∧ w'.cell? ⟨g1, 12, none⟩ = some (.int .i64 hs) ∧ w'.cell? ⟨g1, 13, none⟩ = some (.string hr) ∧ w'.cell? ⟨g1, 14, none⟩ = some (.int .i64 ht)) ∧ (w'.cell? ⟨g2, 0, none⟩ = some (.int .i64 rvb) ∧ w'.cell? ⟨g2, 1, none⟩ = some (.int .i64 reb) ∧ w'.cell? ⟨g2, 2, none⟩ = some (.slice rab rnb rcb) ∧ w'.cell? ⟨g2, 3, none⟩ = some (.int .i64 t1b) ∧ w'.cell? ⟨g2, 4, none⟩ = some (.int .i64 t2b) ∧ w'.cell? ⟨g2, 5, none⟩ = some (.int .i64 t3b) ∧ w'.cell? ⟨g2, 6, none⟩ = some (.int .i64 s1b) ∧ w'.cell? ⟨g2, 7, none⟩ = some (.int .i64 s2b) ∧ w'.cell? ⟨g2, 8, none⟩ = some (.int .i64 s3b) ∧ w'.cell? ⟨g2, 9, none⟩ = some (.int .i64 gvb) ∧ w'.cell? ⟨g2, 10, none⟩ = some (.int .i64 geb) ∧ w'.cell? ⟨g2, 11, none⟩ = some (.slice gab gnb gcb) ∧ w'.cell? ⟨g2, 12, none⟩ = some (.int .i64 hsb) ∧ w'.cell? ⟨g2, 13, none⟩ = some (.string hrb) ∧ w'.cell? ⟨g2, 14, none⟩ = some (.int .i64 htb)) ∧ Hid (KpDD w g1 g2 ⟨rv, re, rn, t1, t2, t3, s1, s2, s3, gv, ge, gn, hs, hr, ht⟩ ra rc rs ga gc gs ⟨rvb, reb, rnb, t1b, t2b, t3b, s1b, s2b, s3b, gvb, geb, gnb, hsb, hrb, htb⟩ rab rcb rsb gab gcb gsb w') := by
  obtain ⟨p0, p1, p2, p3, p4, p5, p6, p7, p8, p9, p10, p11, p12, p13, p14, _⟩ := KpTr.all (hidP h.out.k1)
  obtain ⟨q0, q1, q2, q3, q4, q5, q6, q7, q8, q9, q10, q11, q12, q13, q14, _⟩ := KpTr.all (hidP h.out.k2)
  exact ⟨⟨p0, p1, p2, p3, p4, p5, p6, p7, p8, p9, p10, p11, p12, p13, p14⟩, ⟨q0, q1, q2, q3, q4, q5, q6, q7, q8, q9, q10, q11, q12, q13, q14⟩, h⟩
set_option maxRecDepth 100000 in
set_option maxHeartbeats 16000000 in
theorem implTrSame (rv re : Int) (rn : Nat) (t1 t2 t3 s1 s2 s3 gv ge : Int) (gn : Nat) (hs : Int) (hr : ByteArray) (ht : Int) (rvb reb : Int) (rnb : Nat) (t1b t2b t3b s1b s2b s3b gvb geb : Int) (gnb : Nat) (hsb : Int) (hrb : ByteArray) (htb : Int) (ra rab : Option Addr) (rc rcb : Nat) (rs rsb : List RoleV) (ga gab : Option Addr) (gc gcb : Nat) (gs gsb : List TarV) (w : World) (hW : TrW ⟨rv, re, rn, t1, t2, t3, s1, s2, s3, gv, ge, gn, hs, hr, ht⟩ rs gs) (hWb : TrW ⟨rvb, reb, rnb, t1b, t2b, t3b, s1b, s2b, s3b, gvb, geb, gnb, hsb, hrb, htb⟩ rsb gsb) (h1 : RlsAt w ra rs) (h2 : TgsAt w ga gs) (h3 : RlsAt w rab rsb) (h4 : TgsAt w gab gsb) :
    Calls Try.prog 28 #[.agg #[.int .i64 rv, .int .i64 re, .slice ra rn rc, .int .i64 t1, .int .i64 t2, .int .i64 t3, .int .i64 s1, .int .i64 s2, .int .i64 s3, .int .i64 gv, .int .i64 ge, .slice ga gn gc, .int .i64 hs, .string hr, .int .i64 ht], .agg #[.int .i64 rvb, .int .i64 reb, .slice rab rnb rcb, .int .i64 t1b, .int .i64 t2b, .int .i64 t3b, .int .i64 s1b, .int .i64 s2b, .int .i64 s3b, .int .i64 gvb, .int .i64 geb, .slice gab gnb gcb, .int .i64 hsb, .string hrb, .int .i64 htb]] w fun e w' => e = .returned (.bool (TruU.same ⟨rv, re, rn, t1, t2, t3, s1, s2, s3, gv, ge, gn, hs, hr, ht⟩ rs gs ⟨rvb, reb, rnb, t1b, t2b, t3b, s1b, s2b, s3b, gvb, geb, gnb, hsb, hrb, htb⟩ rsb gsb)) ∧ Below w.heap.size w w' := by
  have HA1 : Hid (RlsAt w ra rs ∧ TgsAt w ga gs) := ⟨h1, h2⟩
  have HA2 : Hid (RlsAt w rab rsb ∧ TgsAt w gab gsb) := ⟨h3, h4⟩
  have hR : ∀ w0 g1 g2, Hid (KpDD w g1 g2 ⟨rv, re, rn, t1, t2, t3, s1, s2, s3, gv, ge, gn, hs, hr, ht⟩ ra rc rs ga gc gs ⟨rvb, reb, rnb, t1b, t2b, t3b, s1b, s2b, s3b, gvb, geb, gnb, hsb, hrb, htb⟩ rab rcb rsb gab gcb gsb w0) → Calls Try.prog 72 #[.agg #[.int .i64 rv, .int .i64 re, .slice ra rn rc], .agg #[.int .i64 rvb, .int .i64 reb, .slice rab rnb rcb]] w0 fun r w' => r = .returned (.bool (rtSame rv re rs rvb reb rsb)) ∧ Below w0.heap.size w0 w' := fun w0 g1 g2 h0 => rtSameI rv re rvb reb ra rab rc rcb rn rnb rs rsb w0 hW.rn hWb.rn h0.out.k1.rl h0.out.k2.rl hW.rm hWb.rm (fun r hr => (hW.rw r hr).2.1) (fun r hr => (hWb.rw r hr).2.1)
  have hT : ∀ w0 g1 g2, Hid (KpDD w g1 g2 ⟨rv, re, rn, t1, t2, t3, s1, s2, s3, gv, ge, gn, hs, hr, ht⟩ ra rc rs ga gc gs ⟨rvb, reb, rnb, t1b, t2b, t3b, s1b, s2b, s3b, gvb, geb, gnb, hsb, hrb, htb⟩ rab rcb rsb gab gcb gsb w0) → Calls Try.prog 58 #[.agg #[.int .i64 gv, .int .i64 ge, .slice ga gn gc], .agg #[.int .i64 gvb, .int .i64 geb, .slice gab gnb gcb]] w0 fun r w' => r = .returned (.bool (tsSame gv ge gs gvb geb gsb)) ∧ Below w0.heap.size w0 w' := fun w0 g1 g2 h0 => tsSameI gv ge gvb geb ga gab gc gcb gn gnb gs gsb w0 hW.gn hWb.gn h0.out.k1.tg h0.out.k2.tg hW.gm hWb.gm
  unfold TruU.same
  dsimp only
  have HN1 : Hid (lkSame t1 t2 t3 t1b t2b t3b = (decide (t1 = t1b) && (decide (t2 = t2b) && decide (t3 = t3b)))) := rfl
  have HN2 : Hid (lkSame s1 s2 s3 s1b s2b s3b = (decide (s1 = s1b) && (decide (s2 = s2b) && decide (s3 = s3b)))) := rfl
  have HN4 : Hid (hdSame hs hr ht hsb hrb htb = (decide (hs = hsb) && (decide (hr = hrb) && decide (ht = htb)))) := rfl
  generalize rtSame rv re rs rvb reb rsb = bR at *
  generalize tsSame gv ge gs gvb geb gsb = bT at *
  generalize lkSame t1 t2 t3 t1b t2b t3b = n1 at *
  generalize lkSame s1 s2 s3 s1b s2b s3b = n2 at *
  generalize hdSame hs hr ht hsb hrb htb = n4 at *
  clear h1 h2 h3 h4 hW hWb
  go_enter Try.func28, Try.ntmps28
  go_wp2_with (first
    | (with_reducible refine wpList_boxV (w := w) (by with_unfolding_all rfl) 49 (.tmp 0) (by with_unfolding_all rfl) (trv rv re ra rn rc t1 t2 t3 s1 s2 s3 gv ge ga gn gc hs hr ht) (by with_unfolding_all rfl) ?_; intro w1 hA1 hB1 hS1; have z1 : w.heap.size < w1.heap.size := (by omega); clear hS1)
    | (with_reducible refine wpList_boxV (w := w1) (by with_unfolding_all rfl) 49 (.tmp 1) (by with_unfolding_all rfl) (trv rvb reb rab rnb rcb t1b t2b t3b s1b s2b s3b gvb geb gab gnb gcb hsb hrb htb) (by with_unfolding_all rfl) ?_; intro w2 hA2 hB2 hS2; clear hS2; have HS2 := KpDD.mk0 (u := ⟨rv, re, rn, t1, t2, t3, s1, s2, s3, gv, ge, gn, hs, hr, ht⟩) (v := ⟨rvb, reb, rnb, t1b, t2b, t3b, s1b, s2b, s3b, gvb, geb, gnb, hsb, hrb, htb⟩) HA1 HA2 hA1 hB1 hA2 hB2 z1; obtain ⟨⟨p0, p1, p2, p3, p4, p5, p6, p7, p8, p9, p10, p11, p12, p13, p14⟩, ⟨q0, q1, q2, q3, q4, q5, q6, q7, q8, q9, q10, q11, q12, q13, q14⟩, _⟩ := KpDD.all HS2; clear hA1 hB1 hA2 hB2))
  refine (hR w2 _ _ HS2).mono ?_
  rintro e w3 ⟨rfl, hB3⟩
  have HS3 := KpDD.call HS2 hB3
  clear p0 p1 p2 p3 p4 p5 p6 p7 p8 p9 p10 p11 p12 p13 p14 q0 q1 q2 q3 q4 q5 q6 q7 q8 q9 q10 q11 q12 q13 q14
  obtain ⟨⟨r0, r1, r2, r3, r4, r5, r6, r7, r8, r9, r10, r11, r12, r13, r14⟩, ⟨u0, u1, u2, u3, u4, u5, u6, u7, u8, u9, u10, u11, u12, u13, u14⟩, _⟩ := KpDD.all HS3
  clear HS2 hB3
  cases bR with
  | false =>
    as_aux_lemma =>
    go_wp2
    go_ret
    exact ⟨rfl, HS3.out.k1.below⟩
  | true =>
  by_cases z0 : t1 = t1b
  case neg =>
    obtain rfl : n1 = false := by rw [HN1.out, decide_eq_false z0]; simp
    clear HN1
    have d0 := beq_eq_false_iff_ne.2 z0
    as_aux_lemma =>
    go_wp2
    go_ret
    exact ⟨rfl, HS3.out.k1.below⟩
  subst z0
  have e0 : (t1 == t1) = true := by simp
  by_cases z1 : t2 = t2b
  case neg =>
    obtain rfl : n1 = false := by rw [HN1.out, decide_eq_false z1]; simp
    clear HN1
    have d1 := beq_eq_false_iff_ne.2 z1
    as_aux_lemma =>
    go_wp2
    go_ret
    exact ⟨rfl, HS3.out.k1.below⟩
  subst z1
  have e1 : (t2 == t2) = true := by simp
  by_cases z2 : t3 = t3b
  case neg =>
    obtain rfl : n1 = false := by rw [HN1.out, decide_eq_false z2]; simp
    clear HN1
    have d2 := beq_eq_false_iff_ne.2 z2
    as_aux_lemma =>
    go_wp2
    go_ret
    exact ⟨rfl, HS3.out.k1.below⟩
  subst z2
  have e2 : (t3 == t3) = true := by simp
  obtain rfl : n1 = true := by rw [HN1.out]; simp
  clear HN1
  by_cases z3 : s1 = s1b
  case neg =>
    obtain rfl : n2 = false := by rw [HN2.out, decide_eq_false z3]; simp
    clear HN2
    have d3 := beq_eq_false_iff_ne.2 z3
    as_aux_lemma =>
    go_wp2
    go_ret
    exact ⟨rfl, HS3.out.k1.below⟩
  subst z3
  have e3 : (s1 == s1) = true := by simp
  by_cases z4 : s2 = s2b
  case neg =>
    obtain rfl : n2 = false := by rw [HN2.out, decide_eq_false z4]; simp
    clear HN2
    have d4 := beq_eq_false_iff_ne.2 z4
    as_aux_lemma =>
    go_wp2
    go_ret
    exact ⟨rfl, HS3.out.k1.below⟩
  subst z4
  have e4 : (s2 == s2) = true := by simp
  by_cases z5 : s3 = s3b
  case neg =>
    obtain rfl : n2 = false := by rw [HN2.out, decide_eq_false z5]; simp
    clear HN2
    have d5 := beq_eq_false_iff_ne.2 z5
    as_aux_lemma =>
    go_wp2
    go_ret
    exact ⟨rfl, HS3.out.k1.below⟩
  subst z5
  have e5 : (s3 == s3) = true := by simp
  obtain rfl : n2 = true := by rw [HN2.out]; simp
  clear HN2
  go_wp2_with fail
  refine (hT w3 _ _ HS3).mono ?_
  rintro e w4 ⟨rfl, hB4⟩
  have HS4 := KpDD.call HS3 hB4
  clear r0 r1 r2 r3 r4 r5 r6 r7 r8 r9 r10 r11 r12 r13 r14 u0 u1 u2 u3 u4 u5 u6 u7 u8 u9 u10 u11 u12 u13 u14
  obtain ⟨⟨p0, p1, p2, p3, p4, p5, p6, p7, p8, p9, p10, p11, p12, p13, p14⟩, ⟨q0, q1, q2, q3, q4, q5, q6, q7, q8, q9, q10, q11, q12, q13, q14⟩, _⟩ := KpDD.all HS4
  clear HS3 hB4
  cases bT with
  | false =>
    as_aux_lemma =>
    go_wp2
    go_ret
    exact ⟨rfl, HS4.out.k1.below⟩
  | true =>
  by_cases z6 : hs = hsb
  case neg =>
    obtain rfl : n4 = false := by rw [HN4.out, decide_eq_false z6]; simp
    clear HN4
    have d6 := beq_eq_false_iff_ne.2 z6
    as_aux_lemma =>
    go_wp2
    go_ret
    exact ⟨rfl, HS4.out.k1.below⟩
  subst z6
  have e6 : (hs == hs) = true := by simp
  by_cases z7 : hr = hrb
  case neg =>
    obtain rfl : n4 = false := by rw [HN4.out, decide_eq_false z7]; simp
    clear HN4
    have d7 := txt_ne z7
    as_aux_lemma =>
    go_wp2
    go_ret
    exact ⟨rfl, HS4.out.k1.below⟩
  subst z7
  have e7 : (hr.toList == hr.toList) = true := txt_eq hr
  by_cases z8 : ht = htb
  case neg =>
    obtain rfl : n4 = false := by rw [HN4.out, decide_eq_false z8]; simp
    clear HN4
    have d8 := beq_eq_false_iff_ne.2 z8
    as_aux_lemma =>
    go_wp2
    go_ret
    exact ⟨rfl, HS4.out.k1.below⟩
  subst z8
  have e8 : (ht == ht) = true := by simp
  obtain rfl : n4 = true := by rw [HN4.out]; simp
  clear HN4
  as_aux_lemma =>
  go_wp2
  go_ret
  exact ⟨rfl, HS4.out.k1.below⟩
set_option maxRecDepth 100000 in
set_option maxHeartbeats 16000000 in
theorem specTrSame (rv re : Int) (rn : Nat) (t1 t2 t3 s1 s2 s3 gv ge : Int) (gn : Nat) (hs : Int) (hr : ByteArray) (ht : Int) (rvb reb : Int) (rnb : Nat) (t1b t2b t3b s1b s2b s3b gvb geb : Int) (gnb : Nat) (hsb : Int) (hrb : ByteArray) (htb : Int) (ra rab : Option Addr) (rc rcb : Nat) (rs rsb : List RoleV) (ga gab : Option Addr) (gc gcb : Nat) (gs gsb : List TarV) (w : World) (hW : TrW ⟨rv, re, rn, t1, t2, t3, s1, s2, s3, gv, ge, gn, hs, hr, ht⟩ rs gs) (hWb : TrW ⟨rvb, reb, rnb, t1b, t2b, t3b, s1b, s2b, s3b, gvb, geb, gnb, hsb, hrb, htb⟩ rsb gsb) (h1 : RlsAt w ra rs) (h2 : TgsAt w ga gs) (h3 : RlsAt w rab rsb) (h4 : TgsAt w gab gsb) :
    Calls Try.prog 27 #[.agg #[.int .i64 rv, .int .i64 re, .slice ra rn rc, .int .i64 t1, .int .i64 t2, .int .i64 t3, .int .i64 s1, .int .i64 s2, .int .i64 s3, .int .i64 gv, .int .i64 ge, .slice ga gn gc, .int .i64 hs, .string hr, .int .i64 ht], .agg #[.int .i64 rvb, .int .i64 reb, .slice rab rnb rcb, .int .i64 t1b, .int .i64 t2b, .int .i64 t3b, .int .i64 s1b, .int .i64 s2b, .int .i64 s3b, .int .i64 gvb, .int .i64 geb, .slice gab gnb gcb, .int .i64 hsb, .string hrb, .int .i64 htb]] w fun e w' => e = .returned (.bool (TruU.same ⟨rv, re, rn, t1, t2, t3, s1, s2, s3, gv, ge, gn, hs, hr, ht⟩ rs gs ⟨rvb, reb, rnb, t1b, t2b, t3b, s1b, s2b, s3b, gvb, geb, gnb, hsb, hrb, htb⟩ rsb gsb)) ∧ Below w.heap.size w w' := by
  have HA1 : Hid (RlsAt w ra rs ∧ TgsAt w ga gs) := ⟨h1, h2⟩
  have HA2 : Hid (RlsAt w rab rsb ∧ TgsAt w gab gsb) := ⟨h3, h4⟩
  have hR : ∀ w0 g1 g2, Hid (KpDD w g1 g2 ⟨rv, re, rn, t1, t2, t3, s1, s2, s3, gv, ge, gn, hs, hr, ht⟩ ra rc rs ga gc gs ⟨rvb, reb, rnb, t1b, t2b, t3b, s1b, s2b, s3b, gvb, geb, gnb, hsb, hrb, htb⟩ rab rcb rsb gab gcb gsb w0) → Calls Try.prog 70 #[.agg #[.int .i64 rv, .int .i64 re, .slice ra rn rc], .agg #[.int .i64 rvb, .int .i64 reb, .slice rab rnb rcb]] w0 fun r w' => r = .returned (.bool (rtSame rv re rs rvb reb rsb)) ∧ Below w0.heap.size w0 w' := fun w0 g1 g2 h0 => rtSameS rv re rvb reb ra rab rc rcb rn rnb rs rsb w0 hW.rn hWb.rn h0.out.k1.rl h0.out.k2.rl hW.rm hWb.rm (fun r hr => (hW.rw r hr).2.1) (fun r hr => (hWb.rw r hr).2.1)
  have hT : ∀ w0 g1 g2, Hid (KpDD w g1 g2 ⟨rv, re, rn, t1, t2, t3, s1, s2, s3, gv, ge, gn, hs, hr, ht⟩ ra rc rs ga gc gs ⟨rvb, reb, rnb, t1b, t2b, t3b, s1b, s2b, s3b, gvb, geb, gnb, hsb, hrb, htb⟩ rab rcb rsb gab gcb gsb w0) → Calls Try.prog 71 #[.agg #[.int .i64 gv, .int .i64 ge, .slice ga gn gc], .agg #[.int .i64 gvb, .int .i64 geb, .slice gab gnb gcb]] w0 fun r w' => r = .returned (.bool (tsSame gv ge gs gvb geb gsb)) ∧ Below w0.heap.size w0 w' := fun w0 g1 g2 h0 => tsSameS gv ge gvb geb ga gab gc gcb gn gnb gs gsb w0 hW.gn hWb.gn h0.out.k1.tg h0.out.k2.tg hW.gm hWb.gm
  unfold TruU.same
  dsimp only
  have HN1 : Hid (lkSame t1 t2 t3 t1b t2b t3b = (decide (t1 = t1b) && (decide (t2 = t2b) && decide (t3 = t3b)))) := rfl
  have HN2 : Hid (lkSame s1 s2 s3 s1b s2b s3b = (decide (s1 = s1b) && (decide (s2 = s2b) && decide (s3 = s3b)))) := rfl
  have HN4 : Hid (hdSame hs hr ht hsb hrb htb = (decide (hs = hsb) && (decide (hr = hrb) && decide (ht = htb)))) := rfl
  generalize rtSame rv re rs rvb reb rsb = bR at *
  generalize tsSame gv ge gs gvb geb gsb = bT at *
  generalize lkSame t1 t2 t3 t1b t2b t3b = n1 at *
  generalize lkSame s1 s2 s3 s1b s2b s3b = n2 at *
  generalize hdSame hs hr ht hsb hrb htb = n4 at *
  clear h1 h2 h3 h4 hW hWb
  go_enter Try.func27, Try.ntmps27
  go_wp2_with (first
    | (with_reducible refine wpList_boxV (w := w) (by with_unfolding_all rfl) 49 (.tmp 0) (by with_unfolding_all rfl) (trv rv re ra rn rc t1 t2 t3 s1 s2 s3 gv ge ga gn gc hs hr ht) (by with_unfolding_all rfl) ?_; intro w1 hA1 hB1 hS1; have z1 : w.heap.size < w1.heap.size := (by omega); clear hS1)
    | (with_reducible refine wpList_boxV (w := w1) (by with_unfolding_all rfl) 49 (.tmp 1) (by with_unfolding_all rfl) (trv rvb reb rab rnb rcb t1b t2b t3b s1b s2b s3b gvb geb gab gnb gcb hsb hrb htb) (by with_unfolding_all rfl) ?_; intro w2 hA2 hB2 hS2; clear hS2; have HS2 := KpDD.mk0 (u := ⟨rv, re, rn, t1, t2, t3, s1, s2, s3, gv, ge, gn, hs, hr, ht⟩) (v := ⟨rvb, reb, rnb, t1b, t2b, t3b, s1b, s2b, s3b, gvb, geb, gnb, hsb, hrb, htb⟩) HA1 HA2 hA1 hB1 hA2 hB2 z1; obtain ⟨⟨p0, p1, p2, p3, p4, p5, p6, p7, p8, p9, p10, p11, p12, p13, p14⟩, ⟨q0, q1, q2, q3, q4, q5, q6, q7, q8, q9, q10, q11, q12, q13, q14⟩, _⟩ := KpDD.all HS2; clear hA1 hB1 hA2 hB2))
  refine (hR w2 _ _ HS2).mono ?_
  rintro e w3 ⟨rfl, hB3⟩
  have HS3 := KpDD.call HS2 hB3
  clear p0 p1 p2 p3 p4 p5 p6 p7 p8 p9 p10 p11 p12 p13 p14 q0 q1 q2 q3 q4 q5 q6 q7 q8 q9 q10 q11 q12 q13 q14
  obtain ⟨⟨r0, r1, r2, r3, r4, r5, r6, r7, r8, r9, r10, r11, r12, r13, r14⟩, ⟨u0, u1, u2, u3, u4, u5, u6, u7, u8, u9, u10, u11, u12, u13, u14⟩, _⟩ := KpDD.all HS3
  clear HS2 hB3
  cases bR with
  | false =>
    as_aux_lemma =>
    go_wp2
    go_ret
    exact ⟨rfl, HS3.out.k1.below⟩
  | true =>
  by_cases z0 : t1 = t1b
  case neg =>
    obtain rfl : n1 = false := by rw [HN1.out, decide_eq_false z0]; simp
    clear HN1
    have d0 := beq_eq_false_iff_ne.2 z0
    as_aux_lemma =>
    go_wp2
    go_ret
    exact ⟨rfl, HS3.out.k1.below⟩
  subst z0
  have e0 : (t1 == t1) = true := by simp
  by_cases z1 : t2 = t2b
  case neg =>
    obtain rfl : n1 = false := by rw [HN1.out, decide_eq_false z1]; simp
    clear HN1
    have d1 := beq_eq_false_iff_ne.2 z1
    as_aux_lemma =>
    go_wp2
    go_ret
    exact ⟨rfl, HS3.out.k1.below⟩
  subst z1
  have e1 : (t2 == t2) = true := by simp
  by_cases z2 : t3 = t3b
  case neg =>
    obtain rfl : n1 = false := by rw [HN1.out, decide_eq_false z2]; simp
    clear HN1
    have d2 := beq_eq_false_iff_ne.2 z2
    as_aux_lemma =>
    go_wp2
    go_ret
    exact ⟨rfl, HS3.out.k1.below⟩
  subst z2
  have e2 : (t3 == t3) = true := by simp
  obtain rfl : n1 = true := by rw [HN1.out]; simp
  clear HN1
  by_cases z3 : s1 = s1b
  case neg =>
    obtain rfl : n2 = false := by rw [HN2.out, decide_eq_false z3]; simp
    clear HN2
    have d3 := beq_eq_false_iff_ne.2 z3
    as_aux_lemma =>
    go_wp2
    go_ret
    exact ⟨rfl, HS3.out.k1.below⟩
  subst z3
  have e3 : (s1 == s1) = true := by simp
  by_cases z4 : s2 = s2b
  case neg =>
    obtain rfl : n2 = false := by rw [HN2.out, decide_eq_false z4]; simp
    clear HN2
    have d4 := beq_eq_false_iff_ne.2 z4
    as_aux_lemma =>
    go_wp2
    go_ret
    exact ⟨rfl, HS3.out.k1.below⟩
  subst z4
  have e4 : (s2 == s2) = true := by simp
  by_cases z5 : s3 = s3b
  case neg =>
    obtain rfl : n2 = false := by rw [HN2.out, decide_eq_false z5]; simp
    clear HN2
    have d5 := beq_eq_false_iff_ne.2 z5
    as_aux_lemma =>
    go_wp2
    go_ret
    exact ⟨rfl, HS3.out.k1.below⟩
  subst z5
  have e5 : (s3 == s3) = true := by simp
  obtain rfl : n2 = true := by rw [HN2.out]; simp
  clear HN2
  go_wp2_with fail
  refine (hT w3 _ _ HS3).mono ?_
  rintro e w4 ⟨rfl, hB4⟩
  have HS4 := KpDD.call HS3 hB4
  clear r0 r1 r2 r3 r4 r5 r6 r7 r8 r9 r10 r11 r12 r13 r14 u0 u1 u2 u3 u4 u5 u6 u7 u8 u9 u10 u11 u12 u13 u14
  obtain ⟨⟨p0, p1, p2, p3, p4, p5, p6, p7, p8, p9, p10, p11, p12, p13, p14⟩, ⟨q0, q1, q2, q3, q4, q5, q6, q7, q8, q9, q10, q11, q12, q13, q14⟩, _⟩ := KpDD.all HS4
  clear HS3 hB4
  cases bT with
  | false =>
    as_aux_lemma =>
    go_wp2
    go_ret
    exact ⟨rfl, HS4.out.k1.below⟩
  | true =>
  by_cases z6 : hs = hsb
  case neg =>
    obtain rfl : n4 = false := by rw [HN4.out, decide_eq_false z6]; simp
    clear HN4
    have d6 := beq_eq_false_iff_ne.2 z6
    as_aux_lemma =>
    go_wp2
    go_ret
    exact ⟨rfl, HS4.out.k1.below⟩
  subst z6
  have e6 : (hs == hs) = true := by simp
  by_cases z7 : hr = hrb
  case neg =>
    obtain rfl : n4 = false := by rw [HN4.out, decide_eq_false z7]; simp
    clear HN4
    have d7 := txt_ne z7
    as_aux_lemma =>
    go_wp2
    go_ret
    exact ⟨rfl, HS4.out.k1.below⟩
  subst z7
  have e7 : (hr.toList == hr.toList) = true := txt_eq hr
  by_cases z8 : ht = htb
  case neg =>
    obtain rfl : n4 = false := by rw [HN4.out, decide_eq_false z8]; simp
    clear HN4
    have d8 := beq_eq_false_iff_ne.2 z8
    as_aux_lemma =>
    go_wp2
    go_ret
    exact ⟨rfl, HS4.out.k1.below⟩
  subst z8
  have e8 : (ht == ht) = true := by simp
  obtain rfl : n4 = true := by rw [HN4.out]; simp
  clear HN4
  as_aux_lemma =>
  go_wp2
  go_ret
  exact ⟨rfl, HS4.out.k1.below⟩
end Go.Proofs.Ytlhdmoinbifjdaa
