/- Fresh of the program. -/
import Derived.Test.YtdfglpbappeoaabDoorFrS
import Derived.Test.YtdfglpbappeoaabDoorStI
import Derived.Test.YtdfglpbappeoaabDoorTrI
namespace Go.Proofs.YtdfglpbappeoaabDoor
open Go.RowKit
set_option linter.unusedVariables false

theorem Tryd.infoLk3 : (Tryd.prog.info? 60).map (fun i => (i.zero, i.size, i.bytes)) = some (some (.agg #[.int .i64 0, .int .i64 0, .int .i64 0]), 3, 24) := by kernel_rfl
def lksL (l : List LkV) : List Value := (l.map fun x => lkv x.v x.e x.x).flatten
theorem lks_row {w : World} {g : Nat} {a b c d : LkV} (h : RowV w g (lksL [a, b, c, d])) : LksAt w (some ⟨g, 0, none⟩) [a, b, c, d] := fun i hi => by
  have hc : ∀ k v, (lksL [a, b, c, d])[k]? = some v → w.cell? ⟨g, k, none⟩ = some v := fun k v hk => h.cell hk
  match i, hi with
  | 0, _ => exact ⟨g, 0, rfl, hc 0 _ rfl, hc 1 _ rfl, hc 2 _ rfl⟩
  | 1, _ => exact ⟨g, 0, rfl, hc 3 _ rfl, hc 4 _ rfl, hc 5 _ rfl⟩
  | 2, _ => exact ⟨g, 0, rfl, hc 6 _ rfl, hc 7 _ rfl, hc 8 _ rfl⟩
  | 3, _ => exact ⟨g, 0, rfl, hc 9 _ rfl, hc 10 _ rfl, hc 11 _ rfl⟩
  | n + 4, hn => exact absurd hn (by simp)
theorem wpList_bldL4 {ops : Array Oper} {rest : List Oper} {o : Oper} {a : Act} {w : World} {Q : Exit → Act → World → Prop} (hg : o.guard = none) (x0 x1 x2 x3 : Operand) (ho : o.op = .buildSlice 112 4 #[(0, x0), (1, x1), (2, x2), (3, x3)]) (l0 l1 l2 l3 : LkV)
    (e0 : a.eval x0 = .agg #[.int .i64 l0.v, .int .i64 l0.e, .int .i64 l0.x]) (e1 : a.eval x1 = .agg #[.int .i64 l1.v, .int .i64 l1.e, .int .i64 l1.x]) (e2 : a.eval x2 = .agg #[.int .i64 l2.v, .int .i64 l2.e, .int .i64 l2.x]) (e3 : a.eval x3 = .agg #[.int .i64 l3.v, .int .i64 l3.e, .int .i64 l3.x])
    (h : ∀ w', LksAt w' (some ⟨w.heap.size, 0, none⟩) [l0, l1, l2, l3] → Below w.heap.size w w' → wpList Tryd.prog ops Q rest (a.put o.dst (.slice (some ⟨w.heap.size, 0, none⟩) 4 4)) w') : wpList Tryd.prog ops Q (o :: rest) a w := by
  obtain ⟨i0, hi, hz0, hz1, hz2⟩ := info_parts Tryd.infoLk3
  refine wpList_buildSlice hg 112 60 4 _ ho (lksL [l0, l1, l2, l3]).toArray i0 _ Tryd.underlying112 hi hz0 (by rw [hz1]; omega) (by rw [hz1]; omega) ?_ (h _ (lks_row (RowV.new w (lksL [l0, l1, l2, l3]) 60)) (below_alloc _ _))
  rw [hz1]
  simp only [List.map_toArray, List.map, e0, e1, e2, e3]
  kernel_rfl
set_option maxRecDepth 100000 in
set_option maxHeartbeats 4000000 in
theorem chainI (rv re : Int) (rn : Nat) (t1 t2 t3 s1 s2 s3 gv ge : Int) (gn : Nat) (hs : Int) (hr : ByteArray) (ht : Int) (ra : Option Addr) (rc : Nat) (ga : Option Addr) (gc : Nat) (w : World) :
    Calls Tryd.prog 79 #[.agg #[.int .i64 rv, .int .i64 re, .slice ra rn rc, .int .i64 t1, .int .i64 t2, .int .i64 t3, .int .i64 s1, .int .i64 s2, .int .i64 s3, .int .i64 gv, .int .i64 ge, .slice ga gn gc, .int .i64 hs, .string hr, .int .i64 ht]] w fun e w' => ∃ g, e = .returned (.slice (some ⟨g, 0, none⟩) 4 4) ∧ LksAt w' (some ⟨g, 0, none⟩) [⟨rv, re, 0⟩, ⟨t1, t2, t3⟩, ⟨s1, s2, s3⟩, ⟨gv, ge, 0⟩] ∧ Below w.heap.size w w' := by
  go_enter Tryd.func79, Tryd.ntmps79
  go_wp2_with (first
    | (with_reducible refine wpList_boxV (w := w) (by with_unfolding_all rfl) 66 (.tmp 0) (by with_unfolding_all rfl) (trv rv re ra rn rc t1 t2 t3 s1 s2 s3 gv ge ga gn gc hs hr ht) (by with_unfolding_all rfl) ?_; intro w1 hA1 hB1 hS1; have z1 : w.heap.size < w1.heap.size := (by omega); clear hS1; obtain ⟨p0, p1, p2, p3, p4, p5, p6, p7, p8, p9, p10, p11, p12, p13, p14⟩ := RowV.tr hA1)
    | (with_reducible refine wpList_bldL4 (w := w1) (by with_unfolding_all rfl) (.tmp 9) (.tmp 11) (.tmp 13) (.tmp 20) (by with_unfolding_all rfl) ⟨rv, re, 0⟩ ⟨t1, t2, t3⟩ ⟨s1, s2, s3⟩ ⟨gv, ge, 0⟩ (by with_unfolding_all rfl) (by with_unfolding_all rfl) (by with_unfolding_all rfl) (by with_unfolding_all rfl) ?_; intro w2 hL2 hB2))
  go_ret
  exact ⟨_, rfl, hL2, hB1.trans (hB2.mono (by omega))⟩
theorem refAny (E : ErV) (w : World) (h : Ers E w) (hd : ErD E) (l : List LkV) (now : Int) : Calls Tryd.prog 77 #[errV E (stC l now)] w fun e w' => e = .returned (.int .i64 (stC l now)) ∧ w = w' := by
  unfold stC
  by_cases h1 : zV l = true
  · rw [if_pos h1]; exact refNo E w h hd
  · rw [if_neg h1]
    by_cases h2 : nV l = true
    · rw [if_pos h2]; exact refVer E w h hd
    · rw [if_neg h2]
      by_cases h3 : eV l now = true
      · rw [if_pos h3]; exact refExp E w h hd
      · rw [if_neg h3]; exact refNil w
theorem ver_no {v : Int} (h : verB v = true) : decide (v = 0) = false := decide_eq_false (by
  unfold verB at h
  have := of_decide_eq_true h
  omega)
theorem noLk_ver {v e x : Int} (h : (noLk v e x || linkB v e x) = true) : noLk v e x = decide (v = 0) := by
  cases hn : noLk v e x with
  | true =>
    unfold noLk at hn
    rw [Bool.and_eq_true] at hn
    exact hn.1.symm
  | false =>
    rw [hn, Bool.false_or] at h
    unfold linkB at h
    rw [Bool.and_eq_true] at h
    exact (ver_no h.1).symm
theorem noTs_ver {v e : Int} {n : Nat} {l : List TarV} (h : (noTs v e n || targetsB v e l) = true) : noTs v e n = decide (v = 0) := by
  cases hn : noTs v e n with
  | true =>
    unfold noTs at hn
    rw [Bool.and_eq_true] at hn
    exact hn.1.symm
  | false =>
    rw [hn, Bool.false_or] at h
    unfold targetsB at h
    rw [Bool.and_eq_true] at h
    exact (ver_no h.1).symm
theorem stC_four (a b c d : LkV) (now : Int) : stC [a, b, c, d] now = (if decide (a.v = 0) || (decide (b.v = 0) || (decide (c.v = 0) || decide (d.v = 0))) then 9 else if !decide (c.v = b.x) || !decide (d.v = c.x) then 7 else if decide (a.e ≤ now) || (decide (b.e ≤ now) || (decide (c.e ≤ now) || decide (d.e ≤ now))) then 8 else 0) := by
  have e1 : zV [a, b, c, d] = (decide (a.v = 0) || (decide (b.v = 0) || (decide (c.v = 0) || decide (d.v = 0)))) := by unfold zV; simp only [List.any_cons, List.any_nil, Bool.or_false]
  have e2 : nV [a, b, c, d] = (!decide (c.v = b.x) || !decide (d.v = c.x)) := by
    show (List.range 4).any _ = _
    have : List.range 4 = [0, 1, 2, 3] := by decide
    rw [this]
    simp only [List.any_cons, List.any_nil, Bool.or_false]
    show (false && _ || (false && _ || (true && !decide (c.v = b.x) || (true && !decide (d.v = c.x))))) = _
    simp
  have e3 : eV [a, b, c, d] now = (decide (a.e ≤ now) || (decide (b.e ≤ now) || (decide (c.e ≤ now) || decide (d.e ≤ now)))) := by unfold eV; simp only [List.any_cons, List.any_nil, Bool.or_false]
  unfold stC
  rw [e1, e2, e3]
theorem fr_stC (u : TruU) (rs : List RoleV) (gs : List TarV) (now : Int) (h : u.okB rs gs = true) (ht : timB now = true) : u.fr rs gs now = stC [⟨u.rv, u.re, 0⟩, ⟨u.t1, u.t2, u.t3⟩, ⟨u.s1, u.s2, u.s3⟩, ⟨u.gv, u.ge, 0⟩] now := by
  rw [stC_four]
  unfold TruU.fr
  rw [h, ht]
  unfold TruU.okB at h
  rw [Bool.and_eq_true, Bool.and_eq_true, Bool.and_eq_true, Bool.and_eq_true] at h
  obtain ⟨h1, h2, h3, h4, _⟩ := h
  unfold rootB at h1
  rw [Bool.and_eq_true] at h1
  rw [noLk_ver h2, noLk_ver h3, noTs_ver h4, ver_no h1.1]
  rfl
set_option maxRecDepth 100000 in
set_option maxHeartbeats 8000000 in
theorem implFreshR (rv re : Int) (rn : Nat) (t1 t2 t3 s1 s2 s3 gv ge : Int) (gn : Nat) (hs : Int) (hr : ByteArray) (ht : Int) (ra : Option Addr) (rc : Nat) (rs : List RoleV) (ga : Option Addr) (gc : Nat) (gs : List TarV) (now : Int) (w : World) (hW : TrW ⟨rv, re, rn, t1, t2, t3, s1, s2, s3, gv, ge, gn, hs, hr, ht⟩ rs gs) (h1 : RlsAt w ra rs) (h2 : TgsAt w ga gs) (E : ErV) (hE : Ers E w) (hD : ErD E) :
    Calls Tryd.prog 29 #[.agg #[.int .i64 rv, .int .i64 re, .slice ra rn rc, .int .i64 t1, .int .i64 t2, .int .i64 t3, .int .i64 s1, .int .i64 s2, .int .i64 s3, .int .i64 gv, .int .i64 ge, .slice ga gn gc, .int .i64 hs, .string hr, .int .i64 ht], .int .i64 now] w fun e w' => e = .returned (.int .i64 (TruU.fr ⟨rv, re, rn, t1, t2, t3, s1, s2, s3, gv, ge, gn, hs, hr, ht⟩ rs gs now)) ∧ Below w.heap.size w w' := by
  have HA1 : Hid (RlsAt w ra rs) := h1
  have HA2 : Hid (TgsAt w ga gs) := h2
  have hR : ∀ w0, Hid (KpTr w w.heap.size ⟨rv, re, rn, t1, t2, t3, s1, s2, s3, gv, ge, gn, hs, hr, ht⟩ ra rc rs ga gc gs w0) → Calls Tryd.prog 75 #[.agg #[.int .i64 rv, .int .i64 re, .slice ra rn rc, .int .i64 t1, .int .i64 t2, .int .i64 t3, .int .i64 s1, .int .i64 s2, .int .i64 s3, .int .i64 gv, .int .i64 ge, .slice ga gn gc, .int .i64 hs, .string hr, .int .i64 ht]] w0 fun r w' => r = .returned (.bool (TruU.okB ⟨rv, re, rn, t1, t2, t3, s1, s2, s3, gv, ge, gn, hs, hr, ht⟩ rs gs)) ∧ Below w0.heap.size w0 w' := fun w0 h0 => implTrustR rv re rn t1 t2 t3 s1 s2 s3 gv ge gn hs hr ht ra rc rs ga gc gs w0 hW h0.out.rl h0.out.tg
  have hT : ∀ w0, Calls Tryd.prog 76 #[.int .i64 now] w0 fun r w' => r = .returned (.bool (timB now)) ∧ w0 = w' := fun w0 => implTim now w0
  have hC : ∀ w0, Calls Tryd.prog 79 #[.agg #[.int .i64 rv, .int .i64 re, .slice ra rn rc, .int .i64 t1, .int .i64 t2, .int .i64 t3, .int .i64 s1, .int .i64 s2, .int .i64 s3, .int .i64 gv, .int .i64 ge, .slice ga gn gc, .int .i64 hs, .string hr, .int .i64 ht]] w0 fun e w' => ∃ g, e = .returned (.slice (some ⟨g, 0, none⟩) 4 4) ∧ LksAt w' (some ⟨g, 0, none⟩) [⟨rv, re, 0⟩, ⟨t1, t2, t3⟩, ⟨s1, s2, s3⟩, ⟨gv, ge, 0⟩] ∧ Below w0.heap.size w0 w' := fun w0 => chainI rv re rn t1 t2 t3 s1 s2 s3 gv ge gn hs hr ht ra rc ga gc w0
  have hS : ∀ w0 g, Hid (KpTr w w.heap.size ⟨rv, re, rn, t1, t2, t3, s1, s2, s3, gv, ge, gn, hs, hr, ht⟩ ra rc rs ga gc gs w0) → LksAt w0 (some ⟨g, 0, none⟩) [⟨rv, re, 0⟩, ⟨t1, t2, t3⟩, ⟨s1, s2, s3⟩, ⟨gv, ge, 0⟩] → Calls Tryd.prog 78 #[.slice (some ⟨g, 0, none⟩) 4 4, .int .i64 now] w0 fun e w' => e = .returned (errV E (stC [⟨rv, re, 0⟩, ⟨t1, t2, t3⟩, ⟨s1, s2, s3⟩, ⟨gv, ge, 0⟩] now)) ∧ Below w0.heap.size w0 w' := fun w0 g h0 hl => standI E _ 4 4 [⟨rv, re, 0⟩, ⟨t1, t2, t3⟩, ⟨s1, s2, s3⟩, ⟨gv, ge, 0⟩] now w0 rfl hl (hE.below h0.out.below) (by omega)
  have hC2 : ∀ w0, Hid (KpTr w w.heap.size ⟨rv, re, rn, t1, t2, t3, s1, s2, s3, gv, ge, gn, hs, hr, ht⟩ ra rc rs ga gc gs w0) → Calls Tryd.prog 77 #[errV E (stC [⟨rv, re, 0⟩, ⟨t1, t2, t3⟩, ⟨s1, s2, s3⟩, ⟨gv, ge, 0⟩] now)] w0 fun e w' => e = .returned (.int .i64 (stC [⟨rv, re, 0⟩, ⟨t1, t2, t3⟩, ⟨s1, s2, s3⟩, ⟨gv, ge, 0⟩] now)) ∧ w0 = w' := fun w0 h0 => refAny E w0 (hE.below h0.out.below) hD [⟨rv, re, 0⟩, ⟨t1, t2, t3⟩, ⟨s1, s2, s3⟩, ⟨gv, ge, 0⟩] now
  have HF : Hid (TruU.okB ⟨rv, re, rn, t1, t2, t3, s1, s2, s3, gv, ge, gn, hs, hr, ht⟩ rs gs = true → timB now = true → TruU.fr ⟨rv, re, rn, t1, t2, t3, s1, s2, s3, gv, ge, gn, hs, hr, ht⟩ rs gs now = stC [⟨rv, re, 0⟩, ⟨t1, t2, t3⟩, ⟨s1, s2, s3⟩, ⟨gv, ge, 0⟩] now) := fun x y => fr_stC ⟨rv, re, rn, t1, t2, t3, s1, s2, s3, gv, ge, gn, hs, hr, ht⟩ rs gs now x y
  have HF0 : Hid ((TruU.okB ⟨rv, re, rn, t1, t2, t3, s1, s2, s3, gv, ge, gn, hs, hr, ht⟩ rs gs && timB now) = false → TruU.fr ⟨rv, re, rn, t1, t2, t3, s1, s2, s3, gv, ge, gn, hs, hr, ht⟩ rs gs now = 1) := fun x => by
    unfold TruU.fr
    dsimp only
    rw [x]
    rfl
  generalize TruU.fr ⟨rv, re, rn, t1, t2, t3, s1, s2, s3, gv, ge, gn, hs, hr, ht⟩ rs gs now = R at *
  generalize TruU.okB ⟨rv, re, rn, t1, t2, t3, s1, s2, s3, gv, ge, gn, hs, hr, ht⟩ rs gs = bR at *
  generalize timB now = bT at *
  generalize stC [⟨rv, re, 0⟩, ⟨t1, t2, t3⟩, ⟨s1, s2, s3⟩, ⟨gv, ge, 0⟩] now = C at *
  generalize errV E C = cv at *
  clear h1 h2 hW hE hD
  go_enter Tryd.func29, Tryd.ntmps29
  go_wp2_with (first
    | (with_reducible refine wpList_boxV (w := w) (by with_unfolding_all rfl) 66 (.tmp 0) (by with_unfolding_all rfl) (trv rv re ra rn rc t1 t2 t3 s1 s2 s3 gv ge ga gn gc hs hr ht) (by with_unfolding_all rfl) ?_; intro w1 hA1 hB1 hS1; clear hS1; have HS1 := KpTr.start (u := ⟨rv, re, rn, t1, t2, t3, s1, s2, s3, gv, ge, gn, hs, hr, ht⟩) HA1.out HA2.out hB1 hA1; obtain ⟨p0, p1, p2, p3, p4, p5, p6, p7, p8, p9, p10, p11, p12, p13, p14, _⟩ := KpTr.all HS1; clear hA1 hB1))
  refine (hR w1 HS1).mono ?_
  rintro e w2 ⟨rfl, hB2⟩
  have HS2 := KpTr.call HS1 hB2
  clear p0 p1 p2 p3 p4 p5 p6 p7 p8 p9 p10 p11 p12 p13 p14
  obtain ⟨q0, q1, q2, q3, q4, q5, q6, q7, q8, q9, q10, q11, q12, q13, q14, _⟩ := KpTr.all HS2
  clear HS1 hB2
  cases bR with
  | false =>
    as_aux_lemma =>
    have HR : Hid (R = 1) := HF0.out rfl
    go_wp2
    go_ret
    exact ⟨by rw [HR.out]; rfl, HS2.out.below⟩
  | true =>
  go_wp2_with fail
  refine (hT w2).mono ?_
  rintro e w' ⟨rfl, rfl⟩
  cases bT with
  | false =>
    as_aux_lemma =>
    have HR : Hid (R = 1) := HF0.out rfl
    go_wp2
    go_ret
    exact ⟨by rw [HR.out]; rfl, HS2.out.below⟩
  | true =>
  have HR : Hid (R = C) := HF.out (by trivial) (by trivial)
  go_wp2_with (first
    | (go_at_call 79; with_reducible refine (hC _).mono ?_; rintro e w3 ⟨g3, rfl, hL3, hB3⟩; have HS3 := KpTr.call HS2 hB3)
    | (go_at_call 78; with_reducible refine (hS _ _ HS3 hL3).mono ?_; rintro e w4 ⟨rfl, hB4⟩; have HS4 := KpTr.call HS3 hB4)
    | (go_at_call 77; with_reducible refine (hC2 _ HS4).mono ?_; rintro e w' ⟨rfl, rfl⟩))
  go_ret
  exact ⟨by rw [HR.out]; rfl, HS4.out.below⟩
end Go.Proofs.YtdfglpbappeoaabDoor
