/- The law FnExactFresh, walked. -/
import Derived.Test.YtdfglpbappeoaabDoorTrL
import Derived.Test.YtdfglpbappeoaabDoorFrI
namespace Go.Proofs.YtdfglpbappeoaabDoor
open Go.RowKit
set_option linter.unusedVariables false

theorem fr_rkeys {u : TruU} {rs rs' : List RoleV} {gs : List TarV} {now : Int} (hk : rkeys rs' = rkeys rs) : u.fr rs' gs now = u.fr rs gs now := by
  unfold TruU.fr
  rw [okB_rkeys hk]
theorem KpT2.fliplawFresh {w w' : World} {g1 g2 : Nat} {rv re : Int} {rn : Nat} {t1 t2 t3 s1 s2 s3 gv ge : Int} {gn : Nat} {hs : Int} {hr : ByteArray} {ht : Int} {a1 b1 a2 b2 : Option Addr} {c1 d1 c2 d2 : Nat} {r1 r2 : List RoleV} {gs : List TarV} (h : Hid (KpT2 w g1 g2 ⟨rv, re, rn, t1, t2, t3, s1, s2, s3, gv, ge, gn, hs, hr, ht⟩ a1 b1 c1 d1 r1 a2 b2 c2 d2 r2 gs w')) : w'.cell? ⟨g2, 0, none⟩ = some (.int .i64 rv) ∧ w'.cell? ⟨g2, 1, none⟩ = some (.int .i64 re) ∧ w'.cell? ⟨g2, 2, none⟩ = some (.slice a2 rn c2) ∧ w'.cell? ⟨g2, 3, none⟩ = some (.int .i64 t1) ∧ w'.cell? ⟨g2, 4, none⟩ = some (.int .i64 t2) ∧ w'.cell? ⟨g2, 5, none⟩ = some (.int .i64 t3) ∧ w'.cell? ⟨g2, 6, none⟩ = some (.int .i64 s1) ∧ w'.cell? ⟨g2, 7, none⟩ = some (.int .i64 s2) ∧ w'.cell? ⟨g2, 8, none⟩ = some (.int .i64 s3) ∧ w'.cell? ⟨g2, 9, none⟩ = some (.int .i64 gv) ∧ w'.cell? ⟨g2, 10, none⟩ = some (.int .i64 ge) ∧ w'.cell? ⟨g2, 11, none⟩ = some (.slice b2 gn d2) ∧ w'.cell? ⟨g2, 12, none⟩ = some (.int .i64 hs) ∧ w'.cell? ⟨g2, 13, none⟩ = some (.string hr) ∧ w'.cell? ⟨g2, 14, none⟩ = some (.int .i64 ht) ∧ w'.cell? ⟨g1, 0, none⟩ = some (.int .i64 rv) ∧ w'.cell? ⟨g1, 1, none⟩ = some (.int .i64 re) ∧ w'.cell? ⟨g1, 2, none⟩ = some (.slice a1 rn c1) ∧ w'.cell? ⟨g1, 3, none⟩ = some (.int .i64 t1) ∧ w'.cell? ⟨g1, 4, none⟩ = some (.int .i64 t2) ∧ w'.cell? ⟨g1, 5, none⟩ = some (.int .i64 t3) ∧ w'.cell? ⟨g1, 6, none⟩ = some (.int .i64 s1) ∧ w'.cell? ⟨g1, 7, none⟩ = some (.int .i64 s2) ∧ w'.cell? ⟨g1, 8, none⟩ = some (.int .i64 s3) ∧ w'.cell? ⟨g1, 9, none⟩ = some (.int .i64 gv) ∧ w'.cell? ⟨g1, 10, none⟩ = some (.int .i64 ge) ∧ w'.cell? ⟨g1, 11, none⟩ = some (.slice b1 gn d1) ∧ w'.cell? ⟨g1, 12, none⟩ = some (.int .i64 hs) ∧ w'.cell? ⟨g1, 13, none⟩ = some (.string hr) ∧ w'.cell? ⟨g1, 14, none⟩ = some (.int .i64 ht) ∧ Hid (KpT2 w g1 g2 ⟨rv, re, rn, t1, t2, t3, s1, s2, s3, gv, ge, gn, hs, hr, ht⟩ a1 b1 c1 d1 r1 a2 b2 c2 d2 r2 gs w') := by
  obtain ⟨⟨p0, p1, p2, p3, p4, p5, p6, p7, p8, p9, p10, p11, p12, p13, p14⟩, ⟨q0, q1, q2, q3, q4, q5, q6, q7, q8, q9, q10, q11, q12, q13, q14⟩, _⟩ := KpT2.all h
  exact ⟨q0, q1, q2, q3, q4, q5, q6, q7, q8, q9, q10, q11, q12, q13, q14, p0, p1, p2, p3, p4, p5, p6, p7, p8, p9, p10, p11, p12, p13, p14, h⟩
set_option maxRecDepth 100000 in
set_option maxHeartbeats 8000000 in
theorem lawFresh (rv re : Int) (rn : Nat) (t1 t2 t3 s1 s2 s3 gv ge : Int) (gn : Nat) (hs : Int) (hr : ByteArray) (ht : Int) (ra : Option Addr) (rc : Nat) (rs : List RoleV) (ga : Option Addr) (gc : Nat) (gs : List TarV) (now : Int) (w : World) (hW : TrW ⟨rv, re, rn, t1, t2, t3, s1, s2, s3, gv, ge, gn, hs, hr, ht⟩ rs gs) (h1 : RlsAt w ra rs) (h2 : TgsAt w ga gs) (E : ErV) (hEr : Ers E w) (hD : ErD E) :
    Calls Tryd.prog 6 #[.agg #[.int .i64 rv, .int .i64 re, .slice ra rn rc, .int .i64 t1, .int .i64 t2, .int .i64 t3, .int .i64 s1, .int .i64 s2, .int .i64 s3, .int .i64 gv, .int .i64 ge, .slice ga gn gc, .int .i64 hs, .string hr, .int .i64 ht], .int .i64 now] w fun e w' => e = .returned (.bool true) ∧ Below w.heap.size w w' := by
  have HA1 : Hid (RlsAt w ra rs) := h1
  have HA2 : Hid (TgsAt w ga gs) := h2
  have HZ : Hid (∀ w0, Hid (KpTr w w.heap.size ⟨rv, re, rn, t1, t2, t3, s1, s2, s3, gv, ge, gn, hs, hr, ht⟩ ra rc rs ga gc gs w0) → Calls Tryd.prog 26 #[.agg #[.int .i64 rv, .int .i64 re, .slice ra rn rc, .int .i64 t1, .int .i64 t2, .int .i64 t3, .int .i64 s1, .int .i64 s2, .int .i64 s3, .int .i64 gv, .int .i64 ge, .slice ga gn gc, .int .i64 hs, .string hr, .int .i64 ht], .int .i64 1048576] w0 fun e w' => (∃ z : Int, e = .returned (.int .i64 z) ∧ z ≤ 1048576 ∧ (0 ≤ z → TrS ⟨rv, re, rn, t1, t2, t3, s1, s2, s3, gv, ge, gn, hs, hr, ht⟩ rs)) ∧ Below w0.heap.size w0 w') := fun w0 h0 => szTr_any rv re rn t1 t2 t3 s1 s2 s3 gv ge gn hs hr ht ra rc rs ga gc gs 1048576 w0 hW h0.out.rl h0.out.tg (by omega) (by omega)
  have HT : Hid (TrS ⟨rv, re, rn, t1, t2, t3, s1, s2, s3, gv, ge, gn, hs, hr, ht⟩ rs → ∀ w0, Hid (KpTr w w.heap.size ⟨rv, re, rn, t1, t2, t3, s1, s2, s3, gv, ge, gn, hs, hr, ht⟩ ra rc rs ga gc gs w0) → Calls Tryd.prog 28 #[.agg #[.int .i64 rv, .int .i64 re, .slice ra rn rc, .int .i64 t1, .int .i64 t2, .int .i64 t3, .int .i64 s1, .int .i64 s2, .int .i64 s3, .int .i64 gv, .int .i64 ge, .slice ga gn gc, .int .i64 hs, .string hr, .int .i64 ht]] w0 fun e w' => ∃ g1 r1 g2, e = .returned (.agg #[.int .i64 rv, .int .i64 re, .slice (some ⟨g1, 0, none⟩) rn rn, .int .i64 t1, .int .i64 t2, .int .i64 t3, .int .i64 s1, .int .i64 s2, .int .i64 s3, .int .i64 gv, .int .i64 ge, .slice (some ⟨g2, 0, none⟩) gn gn, .int .i64 hs, .string hr, .int .i64 ht]) ∧ rkeys r1 = rkeys rs ∧ RlsAt w' (some ⟨g1, 0, none⟩) r1 ∧ TgsAt w' (some ⟨g2, 0, none⟩) gs ∧ Below w0.heap.size w0 w') := fun hb w0 h0 => toTr_any rv re rn t1 t2 t3 s1 s2 s3 gv ge gn hs hr ht ra rc rs ga gc gs w0 hW hb h0.out.rl h0.out.tg
  have hS : ∀ w0 g h r, rkeys r = rkeys rs → RlsAt w0 (some ⟨g, 0, none⟩) r → TgsAt w0 (some ⟨h, 0, none⟩) gs → Calls Tryd.prog 27 #[.agg #[.int .i64 rv, .int .i64 re, .slice (some ⟨g, 0, none⟩) rn rn, .int .i64 t1, .int .i64 t2, .int .i64 t3, .int .i64 s1, .int .i64 s2, .int .i64 s3, .int .i64 gv, .int .i64 ge, .slice (some ⟨h, 0, none⟩) gn gn, .int .i64 hs, .string hr, .int .i64 ht], .int .i64 now] w0 fun e w' => e = .returned (.int .i64 (TruU.fr ⟨rv, re, rn, t1, t2, t3, s1, s2, s3, gv, ge, gn, hs, hr, ht⟩ rs gs now)) ∧ Below w0.heap.size w0 w' := fun w0 g h r hk x y => by
    rw [← fr_rkeys hk]
    exact specFreshR rv re rn t1 t2 t3 s1 s2 s3 gv ge gn hs hr ht _ rn r _ gn gs now w0 (hW.keys hk) x y
  have hI : ∀ w0 gx g h r, rkeys r = rkeys rs → Hid (KpT2 w w.heap.size gx ⟨rv, re, rn, t1, t2, t3, s1, s2, s3, gv, ge, gn, hs, hr, ht⟩ ra ga rc gc rs (some ⟨g, 0, none⟩) (some ⟨h, 0, none⟩) rn gn r gs w0) → Calls Tryd.prog 29 #[.agg #[.int .i64 rv, .int .i64 re, .slice (some ⟨g, 0, none⟩) rn rn, .int .i64 t1, .int .i64 t2, .int .i64 t3, .int .i64 s1, .int .i64 s2, .int .i64 s3, .int .i64 gv, .int .i64 ge, .slice (some ⟨h, 0, none⟩) gn gn, .int .i64 hs, .string hr, .int .i64 ht], .int .i64 now] w0 fun e w' => e = .returned (.int .i64 (TruU.fr ⟨rv, re, rn, t1, t2, t3, s1, s2, s3, gv, ge, gn, hs, hr, ht⟩ rs gs now)) ∧ Below w0.heap.size w0 w' := fun w0 gx g h r hk x => by
    rw [← fr_rkeys hk]
    exact implFreshR rv re rn t1 t2 t3 s1 s2 s3 gv ge gn hs hr ht _ rn r _ gn gs now w0 (hW.keys hk) x.out.k2.rl x.out.k2.tg E (hEr.below x.out.k1.below) hD
  have hE : ∀ w0 gx g h r g8 h8 r8, rkeys r = rkeys rs → rkeys r8 = rkeys rs → Hid (KpT2 w w.heap.size gx ⟨rv, re, rn, t1, t2, t3, s1, s2, s3, gv, ge, gn, hs, hr, ht⟩ ra ga rc gc rs (some ⟨g, 0, none⟩) (some ⟨h, 0, none⟩) rn gn r gs w0) → RlsAt w0 (some ⟨g8, 0, none⟩) r8 → TgsAt w0 (some ⟨h8, 0, none⟩) gs → Calls Tryd.prog 30 #[.agg #[.int .i64 rv, .int .i64 re, .slice (some ⟨g, 0, none⟩) rn rn, .int .i64 t1, .int .i64 t2, .int .i64 t3, .int .i64 s1, .int .i64 s2, .int .i64 s3, .int .i64 gv, .int .i64 ge, .slice (some ⟨h, 0, none⟩) gn gn, .int .i64 hs, .string hr, .int .i64 ht], .agg #[.int .i64 rv, .int .i64 re, .slice (some ⟨g8, 0, none⟩) rn rn, .int .i64 t1, .int .i64 t2, .int .i64 t3, .int .i64 s1, .int .i64 s2, .int .i64 s3, .int .i64 gv, .int .i64 ge, .slice (some ⟨h8, 0, none⟩) gn gn, .int .i64 hs, .string hr, .int .i64 ht]] w0 fun e w' => e = .returned (.bool true) ∧ Below w0.heap.size w0 w' := fun w0 gx g h r g8 h8 r8 h5 h6 h0 x y => eqTr_any rv re rn t1 t2 t3 s1 s2 s3 gv ge gn hs hr ht _ _ _ _ rn gn rn gn r r8 gs w0 ((rkeys_len h5).trans hW.rn) (h5.trans h6.symm) hW.rm (fun q hq => ((hW.keys h5).rw q hq).2.1) hW.gn hW.gm h0.out.k2.rl h0.out.k2.tg x y
  clear h1 h2 hW hEr hD
  obtain ⟨R, hR⟩ : ∃ R, TruU.fr ⟨rv, re, rn, t1, t2, t3, s1, s2, s3, gv, ge, gn, hs, hr, ht⟩ rs gs now = R := ⟨_, rfl⟩
  rw [hR] at hS hI
  clear hR
  have hrr : (R != R) = false := by simp
  go_enter Tryd.func6, Tryd.ntmps6
  go_wp2_with (first
    | (with_reducible refine wpList_boxV (w := w) (by with_unfolding_all rfl) 54 (.tmp 0) (by with_unfolding_all rfl) (trv rv re ra rn rc t1 t2 t3 s1 s2 s3 gv ge ga gn gc hs hr ht) (by with_unfolding_all rfl) ?_; intro w1 hA1 hB1 hS1; clear hS1; have HS1 := KpTr.start (u := ⟨rv, re, rn, t1, t2, t3, s1, s2, s3, gv, ge, gn, hs, hr, ht⟩) HA1.out HA2.out hB1 hA1; obtain ⟨p0, p1, p2, p3, p4, p5, p6, p7, p8, p9, p10, p11, p12, p13, p14, _⟩ := KpTr.all HS1))
  refine (HZ.out w1 HS1).mono ?_
  rintro e w2 ⟨⟨z, rfl, zz, hz⟩, hB2⟩
  have HZ2 : Hid (0 ≤ z → TrS ⟨rv, re, rn, t1, t2, t3, s1, s2, s3, gv, ge, gn, hs, hr, ht⟩ rs) := hz
  have HS2 := KpTr.call HS1 hB2
  clear HZ HS1 hB1 hA1 HA1 HA2 p0 p1 p2 p3 p4 p5 p6 p7 p8 p9 p10 p11 p12 p13 p14 hB2 hz zz
  obtain ⟨q0, q1, q2, q3, q4, q5, q6, q7, q8, q9, q10, q11, q12, q13, q14, _⟩ := KpTr.all HS2
  by_cases hneg : z < 0
  · go_wp2
    go_ret
    exact ⟨rfl, HS2.out.below⟩
  have hT := HT.out (HZ2.out (by omega))
  clear HT HZ2
  go_wp2_with (first
    | (go_at_call 28; with_reducible refine (hT w2 HS2).mono ?_; rintro e w3 ⟨g3, r3, h3, rfl, hk3, hI3, hJ3, hB3⟩; have HS3 := KpTr.call HS2 hB3)
    | (go_at_call 27; with_reducible refine (hS w3 g3 h3 r3 hk3 hI3 hJ3).mono ?_; rintro e w4 ⟨rfl, hB4⟩; have HS4 := KpTr.call HS3 hB4; clear q0 q1 q2 q3 q4 q5 q6 q7 q8 q9 q10 q11 q12 q13 q14; obtain ⟨p0, p1, p2, p3, p4, p5, p6, p7, p8, p9, p10, p11, p12, p13, p14, _⟩ := KpTr.all HS4; clear hk3 hI3 hJ3)
    | (go_at_call 28; with_reducible refine (hT w4 HS4).mono ?_; rintro e w5 ⟨g5, r5, h5, rfl, hk5, hI5, hJ5, hB5⟩; have HS5 := KpTr.call HS4 hB5; have HX6 := KpT2.fresh (c1 := rn) (d1 := gn) HS5 hI5 hJ5 66)
    | (go_at_call 29; with_reducible refine (hI _ _ _ _ _ hk5 HX6).mono ?_; rintro e w7 ⟨rfl, hB7⟩; have HX7 := KpT2.call HX6 hB7; have HXd := KpT2.drew HX7))
  clear HX7 HX6 HS5 HS4 HS3 HS2 hI hS p0 p1 p2 p3 p4 p5 p6 p7 p8 p9 p10 p11 p12 p13 p14 hB7 hB5 hB4 hB3 hI5 hJ5
  go_region_held3 (fun w' => w'.cell? ⟨w5.heap.size, 0, none⟩ = some (.int .i64 rv) ∧ w'.cell? ⟨w5.heap.size, 1, none⟩ = some (.int .i64 re) ∧ w'.cell? ⟨w5.heap.size, 2, none⟩ = some (.slice (some ⟨g5, 0, none⟩) rn rn) ∧ w'.cell? ⟨w5.heap.size, 3, none⟩ = some (.int .i64 t1) ∧ w'.cell? ⟨w5.heap.size, 4, none⟩ = some (.int .i64 t2) ∧ w'.cell? ⟨w5.heap.size, 5, none⟩ = some (.int .i64 t3) ∧ w'.cell? ⟨w5.heap.size, 6, none⟩ = some (.int .i64 s1) ∧ w'.cell? ⟨w5.heap.size, 7, none⟩ = some (.int .i64 s2) ∧ w'.cell? ⟨w5.heap.size, 8, none⟩ = some (.int .i64 s3) ∧ w'.cell? ⟨w5.heap.size, 9, none⟩ = some (.int .i64 gv) ∧ w'.cell? ⟨w5.heap.size, 10, none⟩ = some (.int .i64 ge) ∧ w'.cell? ⟨w5.heap.size, 11, none⟩ = some (.slice (some ⟨h5, 0, none⟩) gn gn) ∧ w'.cell? ⟨w5.heap.size, 12, none⟩ = some (.int .i64 hs) ∧ w'.cell? ⟨w5.heap.size, 13, none⟩ = some (.string hr) ∧ w'.cell? ⟨w5.heap.size, 14, none⟩ = some (.int .i64 ht) ∧ w'.cell? ⟨w.heap.size, 0, none⟩ = some (.int .i64 rv) ∧ w'.cell? ⟨w.heap.size, 1, none⟩ = some (.int .i64 re) ∧ w'.cell? ⟨w.heap.size, 2, none⟩ = some (.slice ra rn rc) ∧ w'.cell? ⟨w.heap.size, 3, none⟩ = some (.int .i64 t1) ∧ w'.cell? ⟨w.heap.size, 4, none⟩ = some (.int .i64 t2) ∧ w'.cell? ⟨w.heap.size, 5, none⟩ = some (.int .i64 t3) ∧ w'.cell? ⟨w.heap.size, 6, none⟩ = some (.int .i64 s1) ∧ w'.cell? ⟨w.heap.size, 7, none⟩ = some (.int .i64 s2) ∧ w'.cell? ⟨w.heap.size, 8, none⟩ = some (.int .i64 s3) ∧ w'.cell? ⟨w.heap.size, 9, none⟩ = some (.int .i64 gv) ∧ w'.cell? ⟨w.heap.size, 10, none⟩ = some (.int .i64 ge) ∧ w'.cell? ⟨w.heap.size, 11, none⟩ = some (.slice ga gn gc) ∧ w'.cell? ⟨w.heap.size, 12, none⟩ = some (.int .i64 hs) ∧ w'.cell? ⟨w.heap.size, 13, none⟩ = some (.string hr) ∧ w'.cell? ⟨w.heap.size, 14, none⟩ = some (.int .i64 ht) ∧ Hid (KpT2 w w.heap.size w5.heap.size ⟨rv, re, rn, t1, t2, t3, s1, s2, s3, gv, ge, gn, hs, hr, ht⟩ ra ga rc gc rs (some ⟨g5, 0, none⟩) (some ⟨h5, 0, none⟩) rn gn r5 gs w'))
    (first | exact KpT2.fliplawFresh HXd | exact KpT2.fliplawFresh (KpT2.call HXd h8) | exact KpT2.fliplawFresh (KpT2.call (KpT2.call HXd h8) h9))
    (first
      | (go_at_call 28; with_reducible refine (hT _ (KpT2.kp HXd)).mono ?_; rintro e w8 ⟨g8, r8, j8, rfl, hk8, hI8, hJ8, h8⟩)
      | (go_at_call 30; with_reducible refine (hE _ _ _ _ _ _ _ _ hk5 hk8 (KpT2.call HXd h8) hI8 hJ8).mono ?_; rintro e w9 ⟨rfl, h9⟩))
  all_goals
    have HX9 := KpT2.call (KpT2.call HXd h8) h9
    go_wp2_with fail
    go_ret
    exact ⟨rfl, HX9.out.k1.below⟩
end Go.Proofs.YtdfglpbappeoaabDoor
