/- Logged, on both sides. -/
import Derived.Test.YtdfglpbappeoaaaGreatDoorJn20
import Derived.Test.YtdfglpbappeoaaaGreatDoorJn19
import Derived.Test.YtdfglpbappeoaaaGreatDoorJn11
import Derived.Test.YtdfglpbappeoaaaGreatDoorJn17
import Derived.Test.YtdfglpbappeoaaaGreatDoorJn7
import Derived.Test.YtdfglpbappeoaaaGreatDoorJn12
import Derived.Test.YtdfglpbappeoaaaGreatDoorJn15
import Derived.Deep.RegionHeld3
namespace Go.Proofs.YtdfglpbappeoaaaGreatDoor
open Go.RowKit
set_option linter.unusedVariables false

def loggedB (u : TruU) (rs : List RoleV) (gs : List TarV) (lf : ByteArray) (i : Int) (ps : List ByteArray) : Bool := u.okB rs gs && (headB u.hs u.hr u.ht && incB (leafA lf) i u.hs ps u.hr)
theorem leafA_le (t : ByteArray) : (leafA t).size ≤ maxLen := by
  unfold leafA
  split
  · rw [leafD_size]; decide
  · exact Nat.zero_le _
theorem leafA_no {t : ByteArray} (h : ¬ t.size < 20000) : leafA t = ⟨#[]⟩ := if_neg h
theorem incB_leaf {lf : ByteArray} {i n : Int} {ps : List ByteArray} {r : ByteArray} (h : ¬ lf.size < 20000) : incB (leafA lf) i n ps r = false := by
  rw [leafA_no h]
  exact incB_no (fun h => absurd h.1 (by decide))
theorem incB_long {x : ByteArray} {i n : Int} {ps : List ByteArray} {r : ByteArray} (h : ¬ ps.length ≤ 400) : incB x i n ps r = false := incB_no (fun k => h k.2.2.1)
theorem headB_one {s t : Int} {r : ByteArray} (h : headB s r t = true) : 1 ≤ s ∧ s ≤ 1000000 ∧ r.size = 32 := by
  unfold headB at h
  simp only [Bool.and_eq_true, decide_eq_true_eq] at h
  exact ⟨h.1.1, h.1.2, h.2.1⟩
theorem noHd_parts {s t : Int} {r : ByteArray} (h : noHd s r t = true) : s = 0 ∧ r = ⟨#[]⟩ ∧ t = 0 := by
  unfold noHd at h
  simp only [Bool.and_eq_true, decide_eq_true_eq] at h
  exact h
theorem okB_head {u : TruU} {rs : List RoleV} {gs : List TarV} (h : u.okB rs gs = true) : noHd u.hs u.hr u.ht = true ∨ headB u.hs u.hr u.ht = true := by
  unfold TruU.okB at h
  simp only [Bool.and_eq_true, Bool.or_eq_true] at h
  exact h.2.2.2.2
theorem fits_no (t : ByteArray) (w : World) (hm : t.size ≤ maxLen) (h : ¬ t.size < 20000) : Calls Tryz.prog 23 #[.string t] w fun e w' => e = .returned (.bool false) ∧ w = w' := by
  unfold maxLen at hm
  have d1 : decide ((t.size : Int) < 20000) = false := decide_eq_false (by omega)
  go_enter Tryz.func23, Tryz.ntmps23
  go_wp2
  go_ret
  exact ⟨rfl, rfl⟩
theorem wf_small {n : Int} (h1 : 1 ≤ n) (h2 : n ≤ 1000000) : (Lit.int .i64 n).wf = true := by
  simp [Lit.wf, IntKind.min, IntKind.max, IntKind.signed, IntKind.bits]
  omega
set_option maxRecDepth 100000 in
set_option maxHeartbeats 4000000 in
theorem implLogged_a (rv re : Int) (rn : Nat) (t1 t2 t3 s1 s2 s3 gv ge : Int) (gn : Nat) (hs : Int) (hr : ByteArray) (ht : Int) (ra : Option Addr) (rc : Nat) (rs : List RoleV) (ga : Option Addr) (gc : Nat) (gs : List TarV) (lf : ByteArray) (at0 : Int) (pa : Option Addr) (pc m : Nat) (ps : List ByteArray) (w : World) (hW : TrW ⟨rv, re, rn, t1, t2, t3, s1, s2, s3, gv, ge, gn, hs, hr, ht⟩ rs gs) (h1 : RlsAt w ra rs) (h2 : TgsAt w ga gs) (hl : lf.size ≤ maxLen) (hi : (Lit.int .i64 at0).wf = true) (hn : ps.length = m) (hc : m ≤ pc) (hp : SA w pa ps) (hM : m ≤ 1048576) (hx : ∀ x ∈ ps, x.size ≤ maxLen) (hk : ArrU w 0 keys) (h0 : 0 < w.heap.size) (hb : TruU.okB ⟨rv, re, rn, t1, t2, t3, s1, s2, s3, gv, ge, gn, hs, hr, ht⟩ rs gs = false) :
    Calls Tryz.prog 10 #[.agg #[.int .i64 rv, .int .i64 re, .slice ra rn rc, .int .i64 t1, .int .i64 t2, .int .i64 t3, .int .i64 s1, .int .i64 s2, .int .i64 s3, .int .i64 gv, .int .i64 ge, .slice ga gn gc, .int .i64 hs, .string hr, .int .i64 ht], .string lf, .int .i64 at0, .slice pa m pc] w fun r w' => r = .returned (.bool false) ∧ Below w.heap.size w w' := by
  have hC1 : ∀ w0, ((RlsAt w0 ra rs ∧ TgsAt w0 ga gs) ∧ SA w0 pa ps ∧ ArrU w0 0 keys ∧ 0 < w0.heap.size) → Calls Tryz.prog 30 #[.agg #[.int .i64 rv, .int .i64 re, .slice ra rn rc, .int .i64 t1, .int .i64 t2, .int .i64 t3, .int .i64 s1, .int .i64 s2, .int .i64 s3, .int .i64 gv, .int .i64 ge, .slice ga gn gc, .int .i64 hs, .string hr, .int .i64 ht]] w0 fun r w' => r = .returned (.bool false) ∧ Below w0.heap.size w0 w' := fun w0 n0 => by rw [← hb]; exact implTrustR rv re rn t1 t2 t3 s1 s2 s3 gv ge gn hs hr ht ra rc rs ga gc gs w0 hW n0.1.1 n0.1.2
  have HS0 : Hid (Sta [] w [] [⟨fun k => k < w.heap.size, fun w' => (RlsAt w' ra rs ∧ TgsAt w' ga gs) ∧ SA w' pa ps ∧ ArrU w' 0 keys ∧ 0 < w'.heap.size⟩] w) := Sta.arg (fun w' => (RlsAt w' ra rs ∧ TgsAt w' ga gs) ∧ SA w' pa ps ∧ ArrU w' 0 keys ∧ 0 < w'.heap.size) (fun w' hb => ⟨⟨h1.below hb, TgsAt.below h2 hb⟩, hp.below hb, hk.below hb h0, Nat.lt_of_lt_of_le h0 hb.size⟩)
  clear hW h1 h2 hl hi hn hc hp hM hx hk h0 hb
  go_enter Tryz.func10, Tryz.ntmps10
  go_wp2_with (first
    | ((with_reducible refine wpList_boxV (w := w) (by with_unfolding_all rfl) 47 (.tmp 0) (by with_unfolding_all rfl) [.int .i64 rv, .int .i64 re, .slice ra rn rc, .int .i64 t1, .int .i64 t2, .int .i64 t3, .int .i64 s1, .int .i64 s2, .int .i64 s3, .int .i64 gv, .int .i64 ge, .slice ga gn gc, .int .i64 hs, .string hr, .int .i64 ht] (by with_unfolding_all rfl) ?_); intro w1 hA1 hB1 hS1; clear hS1; have HS1 := Sta.new HS0 hA1 hB1 (by simp); clear hA1 hB1)
    | ((with_reducible refine wpList_loadV (w := w1) (by with_unfolding_all rfl) 47 (.tmp 4) (by with_unfolding_all rfl) w.heap.size [.int .i64 rv, .int .i64 re, .slice ra rn rc, .int .i64 t1, .int .i64 t2, .int .i64 t3, .int .i64 s1, .int .i64 s2, .int .i64 s3, .int .i64 gv, .int .i64 ge, .slice ga gn gc, .int .i64 hs, .string hr, .int .i64 ht] (by with_unfolding_all rfl) (Sta.r (i := 0) HS1 (by with_unfolding_all rfl)) Tryz.uT_implTrust 15 Tryz.sT_implTrust (by with_unfolding_all rfl) ?_))
    | (go_at_call 30; have n2_0 : (RlsAt w1 ra rs ∧ TgsAt w1 ga gs) ∧ SA w1 pa ps ∧ ArrU w1 0 keys ∧ 0 < w1.heap.size := (Sta.t (i := 0) HS1 rfl :); (with_reducible refine (hC1 w1 n2_0).mono ?_); rintro r w2 ⟨rfl, hB2⟩; have HS2 := Sta.call HS1 hB2; clear hB2))
  go_ret
  exact ⟨rfl, Sta.fin HS2⟩
set_option maxRecDepth 100000 in
set_option maxHeartbeats 4000000 in
theorem implLogged_c (rv re : Int) (rn : Nat) (t1 t2 t3 s1 s2 s3 gv ge : Int) (gn : Nat) (hs : Int) (hr : ByteArray) (ht : Int) (ra : Option Addr) (rc : Nat) (rs : List RoleV) (ga : Option Addr) (gc : Nat) (gs : List TarV) (lf : ByteArray) (at0 : Int) (pa : Option Addr) (pc m : Nat) (ps : List ByteArray) (w : World) (hW : TrW ⟨rv, re, rn, t1, t2, t3, s1, s2, s3, gv, ge, gn, hs, hr, ht⟩ rs gs) (h1 : RlsAt w ra rs) (h2 : TgsAt w ga gs) (hl : lf.size ≤ maxLen) (hi : (Lit.int .i64 at0).wf = true) (hn : ps.length = m) (hc : m ≤ pc) (hp : SA w pa ps) (hM : m ≤ 1048576) (hx : ∀ x ∈ ps, x.size ≤ maxLen) (hk : ArrU w 0 keys) (h0 : 0 < w.heap.size) (hb : TruU.okB ⟨rv, re, rn, t1, t2, t3, s1, s2, s3, gv, ge, gn, hs, hr, ht⟩ rs gs = true) (hh : headB hs hr ht = true) :
    Calls Tryz.prog 10 #[.agg #[.int .i64 rv, .int .i64 re, .slice ra rn rc, .int .i64 t1, .int .i64 t2, .int .i64 t3, .int .i64 s1, .int .i64 s2, .int .i64 s3, .int .i64 gv, .int .i64 ge, .slice ga gn gc, .int .i64 hs, .string hr, .int .i64 ht], .string lf, .int .i64 at0, .slice pa m pc] w fun r w' => r = .returned (.bool (incB (leafA lf) at0 hs ps hr)) ∧ Below w.heap.size w w' := by
  obtain ⟨L, hL⟩ : ∃ L, leafA lf = L := ⟨_, rfl⟩
  obtain ⟨I, hI⟩ : ∃ I, incB L at0 hs ps hr = I := ⟨_, rfl⟩
  have HI : Hid (incB (leafA lf) at0 hs ps hr = I) := by show _ = _; rw [hL, hI]
  have hz : (hs == 0) = false := beq_eq_false_iff_ne.2 (by have := (headB_one hh).1; omega)
  have hC1 : ∀ w0, ((RlsAt w0 ra rs ∧ TgsAt w0 ga gs) ∧ SA w0 pa ps ∧ ArrU w0 0 keys ∧ 0 < w0.heap.size) → Calls Tryz.prog 30 #[.agg #[.int .i64 rv, .int .i64 re, .slice ra rn rc, .int .i64 t1, .int .i64 t2, .int .i64 t3, .int .i64 s1, .int .i64 s2, .int .i64 s3, .int .i64 gv, .int .i64 ge, .slice ga gn gc, .int .i64 hs, .string hr, .int .i64 ht]] w0 fun r w' => r = .returned (.bool true) ∧ Below w0.heap.size w0 w' := fun w0 n0 => by rw [← hb]; exact implTrustR rv re rn t1 t2 t3 s1 s2 s3 gv ge gn hs hr ht ra rc rs ga gc gs w0 hW n0.1.1 n0.1.2
  have hC2 : ∀ w0, ((RlsAt w0 ra rs ∧ TgsAt w0 ga gs) ∧ SA w0 pa ps ∧ ArrU w0 0 keys ∧ 0 < w0.heap.size) → Calls Tryz.prog 32 #[.string lf] w0 fun r w' => r = .returned (.string L) ∧ Below w0.heap.size w0 w' := fun w0 n0 => hL ▸ leafI lf w0 hl n0.2.2.1 n0.2.2.2
  have hC3 : ∀ w0, ((RlsAt w0 ra rs ∧ TgsAt w0 ga gs) ∧ SA w0 pa ps ∧ ArrU w0 0 keys ∧ 0 < w0.heap.size) → Calls Tryz.prog 31 #[.string L, .int .i64 at0, .int .i64 hs, .slice pa m pc, .string hr] w0 fun r w' => r = .returned (.bool I) ∧ Below w0.heap.size w0 w' := fun w0 n0 => hI ▸ hL ▸ incI (leafA lf) hr at0 hs pa pc m ps w0 hn hc n0.2.1 (leafA_le lf) (by have := (headB_one hh).2.2; unfold maxLen; omega) hM hx hi (wf_small (headB_one hh).1 (headB_one hh).2.1) n0.2.2.1 n0.2.2.2
  have HS0 : Hid (Sta [] w [] [⟨fun k => k < w.heap.size, fun w' => (RlsAt w' ra rs ∧ TgsAt w' ga gs) ∧ SA w' pa ps ∧ ArrU w' 0 keys ∧ 0 < w'.heap.size⟩] w) := Sta.arg (fun w' => (RlsAt w' ra rs ∧ TgsAt w' ga gs) ∧ SA w' pa ps ∧ ArrU w' 0 keys ∧ 0 < w'.heap.size) (fun w' hb => ⟨⟨h1.below hb, TgsAt.below h2 hb⟩, hp.below hb, hk.below hb h0, Nat.lt_of_lt_of_le h0 hb.size⟩)
  clear hW h1 h2 hl hi hn hc hp hM hx hk h0 hb hh hL hI
  go_enter Tryz.func10, Tryz.ntmps10
  go_wp2_with (first
    | ((with_reducible refine wpList_boxV (w := w) (by with_unfolding_all rfl) 47 (.tmp 0) (by with_unfolding_all rfl) [.int .i64 rv, .int .i64 re, .slice ra rn rc, .int .i64 t1, .int .i64 t2, .int .i64 t3, .int .i64 s1, .int .i64 s2, .int .i64 s3, .int .i64 gv, .int .i64 ge, .slice ga gn gc, .int .i64 hs, .string hr, .int .i64 ht] (by with_unfolding_all rfl) ?_); intro w1 hA1 hB1 hS1; clear hS1; have HS1 := Sta.new HS0 hA1 hB1 (by simp); clear hA1 hB1)
    | ((with_reducible refine wpList_loadV (w := w1) (by with_unfolding_all rfl) 47 (.tmp 4) (by with_unfolding_all rfl) w.heap.size [.int .i64 rv, .int .i64 re, .slice ra rn rc, .int .i64 t1, .int .i64 t2, .int .i64 t3, .int .i64 s1, .int .i64 s2, .int .i64 s3, .int .i64 gv, .int .i64 ge, .slice ga gn gc, .int .i64 hs, .string hr, .int .i64 ht] (by with_unfolding_all rfl) (Sta.r (i := 0) HS1 (by with_unfolding_all rfl)) Tryz.uT_implTrust 15 Tryz.sT_implTrust (by with_unfolding_all rfl) ?_))
    | (go_at_call 30; have n2_0 : (RlsAt w1 ra rs ∧ TgsAt w1 ga gs) ∧ SA w1 pa ps ∧ ArrU w1 0 keys ∧ 0 < w1.heap.size := (Sta.t (i := 0) HS1 rfl :); (with_reducible refine (hC1 w1 n2_0).mono ?_); rintro r w2 ⟨rfl, hB2⟩; have HS2 := Sta.call HS1 hB2; clear hB2; have cHS2_0_12 : w2.cell? ⟨w.heap.size, 12, none⟩ = some (.int .i64 hs) := Sta.c (i := 0) HS2 rfl rfl; have cHS2_0_13 : w2.cell? ⟨w.heap.size, 13, none⟩ = some (.string hr) := Sta.c (i := 0) HS2 rfl rfl; have cHS2_0_14 : w2.cell? ⟨w.heap.size, 14, none⟩ = some (.int .i64 ht) := Sta.c (i := 0) HS2 rfl rfl))
  have HS3 := Sta.drew HS2
  clear cHS2_0_12 cHS2_0_13 cHS2_0_14
  go_region_held3 (fun w' => w'.cell? ⟨w.heap.size, 12, none⟩ = some (.int .i64 hs) ∧ w'.cell? ⟨w.heap.size, 13, none⟩ = some (.string hr) ∧ Hid (Sta [] w [(w.heap.size, [.int .i64 rv, .int .i64 re, .slice ra rn rc, .int .i64 t1, .int .i64 t2, .int .i64 t3, .int .i64 s1, .int .i64 s2, .int .i64 s3, .int .i64 gv, .int .i64 ge, .slice ga gn gc, .int .i64 hs, .string hr, .int .i64 ht])] [⟨fun k => k < w.heap.size, fun w' => (RlsAt w' ra rs ∧ TgsAt w' ga gs) ∧ SA w' pa ps ∧ ArrU w' 0 keys ∧ 0 < w'.heap.size⟩] w'))
    (first | exact ⟨Sta.c (i := 0) (HS3) rfl rfl, Sta.c (i := 0) (HS3) rfl rfl, (HS3)⟩ | exact ⟨Sta.c (i := 0) (Sta.call (HS3) hB4) rfl rfl, Sta.c (i := 0) (Sta.call (HS3) hB4) rfl rfl, (Sta.call (HS3) hB4)⟩ | exact ⟨Sta.c (i := 0) (Sta.call (Sta.call (HS3) hB4) hB5) rfl rfl, Sta.c (i := 0) (Sta.call (Sta.call (HS3) hB4) hB5) rfl rfl, (Sta.call (Sta.call (HS3) hB4) hB5)⟩)
    (first
      | (go_at_call 32; have n4_0 : (RlsAt w2.drew ra rs ∧ TgsAt w2.drew ga gs) ∧ SA w2.drew pa ps ∧ ArrU w2.drew 0 keys ∧ 0 < w2.drew.heap.size := (Sta.t (i := 0) (HS3) rfl :); (with_reducible refine (hC2 _ n4_0).mono ?_); rintro r w4 ⟨rfl, hB4⟩)
      | (go_at_call 31; have n5_0 : (RlsAt w4 ra rs ∧ TgsAt w4 ga gs) ∧ SA w4 pa ps ∧ ArrU w4 0 keys ∧ 0 < w4.heap.size := (Sta.t (i := 0) (Sta.call (HS3) hB4) rfl :); (with_reducible refine (hC3 _ n5_0).mono ?_); rintro r w5 ⟨rfl, hB5⟩))
  all_goals
    have HS6 := Sta.call (Sta.call (HS3) hB4) hB5
    go_wp2_with fail
    go_ret
    exact ⟨by rw [HI.out]; rfl, Sta.fin HS6⟩
set_option maxRecDepth 100000 in
set_option maxHeartbeats 4000000 in
theorem implLogged_b (rv re : Int) (rn : Nat) (t1 t2 t3 s1 s2 s3 gv ge : Int) (gn : Nat) (ra : Option Addr) (rc : Nat) (rs : List RoleV) (ga : Option Addr) (gc : Nat) (gs : List TarV) (lf : ByteArray) (at0 : Int) (pa : Option Addr) (pc m : Nat) (ps : List ByteArray) (w : World) (hW : TrW ⟨rv, re, rn, t1, t2, t3, s1, s2, s3, gv, ge, gn, 0, ⟨#[]⟩, 0⟩ rs gs) (h1 : RlsAt w ra rs) (h2 : TgsAt w ga gs) (hl : lf.size ≤ maxLen) (hi : (Lit.int .i64 at0).wf = true) (hn : ps.length = m) (hc : m ≤ pc) (hp : SA w pa ps) (hM : m ≤ 1048576) (hx : ∀ x ∈ ps, x.size ≤ maxLen) (hk : ArrU w 0 keys) (h0 : 0 < w.heap.size) (hb : TruU.okB ⟨rv, re, rn, t1, t2, t3, s1, s2, s3, gv, ge, gn, 0, ⟨#[]⟩, 0⟩ rs gs = true) :
    Calls Tryz.prog 10 #[.agg #[.int .i64 rv, .int .i64 re, .slice ra rn rc, .int .i64 t1, .int .i64 t2, .int .i64 t3, .int .i64 s1, .int .i64 s2, .int .i64 s3, .int .i64 gv, .int .i64 ge, .slice ga gn gc, .int .i64 0, .string ⟨#[]⟩, .int .i64 0], .string lf, .int .i64 at0, .slice pa m pc] w fun r w' => r = .returned (.bool false) ∧ Below w.heap.size w w' := by
  have hC1 : ∀ w0, ((RlsAt w0 ra rs ∧ TgsAt w0 ga gs) ∧ SA w0 pa ps ∧ ArrU w0 0 keys ∧ 0 < w0.heap.size) → Calls Tryz.prog 30 #[.agg #[.int .i64 rv, .int .i64 re, .slice ra rn rc, .int .i64 t1, .int .i64 t2, .int .i64 t3, .int .i64 s1, .int .i64 s2, .int .i64 s3, .int .i64 gv, .int .i64 ge, .slice ga gn gc, .int .i64 0, .string ⟨#[]⟩, .int .i64 0]] w0 fun r w' => r = .returned (.bool true) ∧ Below w0.heap.size w0 w' := fun w0 n0 => by rw [← hb]; exact implTrustR rv re rn t1 t2 t3 s1 s2 s3 gv ge gn 0 ⟨#[]⟩ 0 ra rc rs ga gc gs w0 hW n0.1.1 n0.1.2
  have HS0 : Hid (Sta [] w [] [⟨fun k => k < w.heap.size, fun w' => (RlsAt w' ra rs ∧ TgsAt w' ga gs) ∧ SA w' pa ps ∧ ArrU w' 0 keys ∧ 0 < w'.heap.size⟩] w) := Sta.arg (fun w' => (RlsAt w' ra rs ∧ TgsAt w' ga gs) ∧ SA w' pa ps ∧ ArrU w' 0 keys ∧ 0 < w'.heap.size) (fun w' hb => ⟨⟨h1.below hb, TgsAt.below h2 hb⟩, hp.below hb, hk.below hb h0, Nat.lt_of_lt_of_le h0 hb.size⟩)
  clear hW h1 h2 hl hi hn hc hp hM hx hk h0 hb
  go_enter Tryz.func10, Tryz.ntmps10
  go_wp2_with (first
    | ((with_reducible refine wpList_boxV (w := w) (by with_unfolding_all rfl) 47 (.tmp 0) (by with_unfolding_all rfl) [.int .i64 rv, .int .i64 re, .slice ra rn rc, .int .i64 t1, .int .i64 t2, .int .i64 t3, .int .i64 s1, .int .i64 s2, .int .i64 s3, .int .i64 gv, .int .i64 ge, .slice ga gn gc, .int .i64 0, .string ⟨#[]⟩, .int .i64 0] (by with_unfolding_all rfl) ?_); intro w1 hA1 hB1 hS1; clear hS1; have HS1 := Sta.new HS0 hA1 hB1 (by simp); clear hA1 hB1)
    | ((with_reducible refine wpList_loadV (w := w1) (by with_unfolding_all rfl) 47 (.tmp 4) (by with_unfolding_all rfl) w.heap.size [.int .i64 rv, .int .i64 re, .slice ra rn rc, .int .i64 t1, .int .i64 t2, .int .i64 t3, .int .i64 s1, .int .i64 s2, .int .i64 s3, .int .i64 gv, .int .i64 ge, .slice ga gn gc, .int .i64 0, .string ⟨#[]⟩, .int .i64 0] (by with_unfolding_all rfl) (Sta.r (i := 0) HS1 (by with_unfolding_all rfl)) Tryz.uT_implTrust 15 Tryz.sT_implTrust (by with_unfolding_all rfl) ?_))
    | (go_at_call 30; have n2_0 : (RlsAt w1 ra rs ∧ TgsAt w1 ga gs) ∧ SA w1 pa ps ∧ ArrU w1 0 keys ∧ 0 < w1.heap.size := (Sta.t (i := 0) HS1 rfl :); (with_reducible refine (hC1 w1 n2_0).mono ?_); rintro r w2 ⟨rfl, hB2⟩; have HS2 := Sta.call HS1 hB2; clear hB2; have cHS2_0_12 : w2.cell? ⟨w.heap.size, 12, none⟩ = some (.int .i64 0) := Sta.c (i := 0) HS2 rfl rfl; have cHS2_0_13 : w2.cell? ⟨w.heap.size, 13, none⟩ = some (.string ⟨#[]⟩) := Sta.c (i := 0) HS2 rfl rfl; have cHS2_0_14 : w2.cell? ⟨w.heap.size, 14, none⟩ = some (.int .i64 0) := Sta.c (i := 0) HS2 rfl rfl))
  go_ret
  exact ⟨rfl, Sta.fin HS2⟩
set_option maxRecDepth 100000 in
set_option maxHeartbeats 4000000 in
theorem specLogged_p (rv re : Int) (rn : Nat) (t1 t2 t3 s1 s2 s3 gv ge : Int) (gn : Nat) (hs : Int) (hr : ByteArray) (ht : Int) (ra : Option Addr) (rc : Nat) (rs : List RoleV) (ga : Option Addr) (gc : Nat) (gs : List TarV) (lf : ByteArray) (at0 : Int) (pa : Option Addr) (pc m : Nat) (ps : List ByteArray) (w : World) (hW : TrW ⟨rv, re, rn, t1, t2, t3, s1, s2, s3, gv, ge, gn, hs, hr, ht⟩ rs gs) (h1 : RlsAt w ra rs) (h2 : TgsAt w ga gs) (hl : lf.size ≤ maxLen) (hi : (Lit.int .i64 at0).wf = true) (hn : ps.length = m) (hc : m ≤ pc) (hp : SA w pa ps) (hM : m ≤ 1048576) (hx : ∀ x ∈ ps, x.size ≤ maxLen) (hk : ArrU w 0 keys) (h0 : 0 < w.heap.size) (z1 : 20000 < lf.size) :
    Calls Tryz.prog 7 #[.agg #[.int .i64 rv, .int .i64 re, .slice ra rn rc, .int .i64 t1, .int .i64 t2, .int .i64 t3, .int .i64 s1, .int .i64 s2, .int .i64 s3, .int .i64 gv, .int .i64 ge, .slice ga gn gc, .int .i64 hs, .string hr, .int .i64 ht], .string lf, .int .i64 at0, .slice pa m pc] w fun r w' => r = .returned (.bool false) ∧ Below w.heap.size w w' := by
  have d1 : decide ((20000 : Int) < (lf.size : Int)) = true := decide_eq_true (by omega)
  have HS0 : Hid (Sta [] w [] [⟨fun k => k < w.heap.size, fun w' => (RlsAt w' ra rs ∧ TgsAt w' ga gs) ∧ SA w' pa ps ∧ ArrU w' 0 keys ∧ 0 < w'.heap.size⟩] w) := Sta.arg (fun w' => (RlsAt w' ra rs ∧ TgsAt w' ga gs) ∧ SA w' pa ps ∧ ArrU w' 0 keys ∧ 0 < w'.heap.size) (fun w' hb => ⟨⟨h1.below hb, TgsAt.below h2 hb⟩, hp.below hb, hk.below hb h0, Nat.lt_of_lt_of_le h0 hb.size⟩)
  clear hW h1 h2 hl hi hn hc hp hM hx hk h0 z1
  go_enter Tryz.func7, Tryz.ntmps7
  go_wp2_with (first
    | ((with_reducible refine wpList_boxV (w := w) (by with_unfolding_all rfl) 47 (.tmp 0) (by with_unfolding_all rfl) [.int .i64 rv, .int .i64 re, .slice ra rn rc, .int .i64 t1, .int .i64 t2, .int .i64 t3, .int .i64 s1, .int .i64 s2, .int .i64 s3, .int .i64 gv, .int .i64 ge, .slice ga gn gc, .int .i64 hs, .string hr, .int .i64 ht] (by with_unfolding_all rfl) ?_); intro w1 hA1 hB1 hS1; clear hS1; have HS1 := Sta.new HS0 hA1 hB1 (by simp); clear hA1 hB1))
  go_ret
  exact ⟨rfl, Sta.fin HS1⟩
set_option maxRecDepth 100000 in
set_option maxHeartbeats 4000000 in
theorem specLogged_q (rv re : Int) (rn : Nat) (t1 t2 t3 s1 s2 s3 gv ge : Int) (gn : Nat) (hs : Int) (hr : ByteArray) (ht : Int) (ra : Option Addr) (rc : Nat) (rs : List RoleV) (ga : Option Addr) (gc : Nat) (gs : List TarV) (lf : ByteArray) (at0 : Int) (pa : Option Addr) (pc m : Nat) (ps : List ByteArray) (w : World) (hW : TrW ⟨rv, re, rn, t1, t2, t3, s1, s2, s3, gv, ge, gn, hs, hr, ht⟩ rs gs) (h1 : RlsAt w ra rs) (h2 : TgsAt w ga gs) (hl : lf.size ≤ maxLen) (hi : (Lit.int .i64 at0).wf = true) (hn : ps.length = m) (hc : m ≤ pc) (hp : SA w pa ps) (hM : m ≤ 1048576) (hx : ∀ x ∈ ps, x.size ≤ maxLen) (hk : ArrU w 0 keys) (h0 : 0 < w.heap.size) (z1 : lf.size ≤ 20000) (z2 : 400 < m) :
    Calls Tryz.prog 7 #[.agg #[.int .i64 rv, .int .i64 re, .slice ra rn rc, .int .i64 t1, .int .i64 t2, .int .i64 t3, .int .i64 s1, .int .i64 s2, .int .i64 s3, .int .i64 gv, .int .i64 ge, .slice ga gn gc, .int .i64 hs, .string hr, .int .i64 ht], .string lf, .int .i64 at0, .slice pa m pc] w fun r w' => r = .returned (.bool false) ∧ Below w.heap.size w w' := by
  have d1 : decide ((20000 : Int) < (lf.size : Int)) = false := decide_eq_false (by omega)
  have d2 : decide ((400 : Int) < (m : Int)) = true := decide_eq_true (by omega)
  have HS0 : Hid (Sta [] w [] [⟨fun k => k < w.heap.size, fun w' => (RlsAt w' ra rs ∧ TgsAt w' ga gs) ∧ SA w' pa ps ∧ ArrU w' 0 keys ∧ 0 < w'.heap.size⟩] w) := Sta.arg (fun w' => (RlsAt w' ra rs ∧ TgsAt w' ga gs) ∧ SA w' pa ps ∧ ArrU w' 0 keys ∧ 0 < w'.heap.size) (fun w' hb => ⟨⟨h1.below hb, TgsAt.below h2 hb⟩, hp.below hb, hk.below hb h0, Nat.lt_of_lt_of_le h0 hb.size⟩)
  clear hW h1 h2 hl hi hn hc hp hM hx hk h0 z1 z2
  go_enter Tryz.func7, Tryz.ntmps7
  go_wp2_with (first
    | ((with_reducible refine wpList_boxV (w := w) (by with_unfolding_all rfl) 47 (.tmp 0) (by with_unfolding_all rfl) [.int .i64 rv, .int .i64 re, .slice ra rn rc, .int .i64 t1, .int .i64 t2, .int .i64 t3, .int .i64 s1, .int .i64 s2, .int .i64 s3, .int .i64 gv, .int .i64 ge, .slice ga gn gc, .int .i64 hs, .string hr, .int .i64 ht] (by with_unfolding_all rfl) ?_); intro w1 hA1 hB1 hS1; clear hS1; have HS1 := Sta.new HS0 hA1 hB1 (by simp); clear hA1 hB1))
  go_ret
  exact ⟨rfl, Sta.fin HS1⟩
set_option maxRecDepth 100000 in
set_option maxHeartbeats 4000000 in
theorem specLogged_a (rv re : Int) (rn : Nat) (t1 t2 t3 s1 s2 s3 gv ge : Int) (gn : Nat) (hs : Int) (hr : ByteArray) (ht : Int) (ra : Option Addr) (rc : Nat) (rs : List RoleV) (ga : Option Addr) (gc : Nat) (gs : List TarV) (lf : ByteArray) (at0 : Int) (pa : Option Addr) (pc m : Nat) (ps : List ByteArray) (w : World) (hW : TrW ⟨rv, re, rn, t1, t2, t3, s1, s2, s3, gv, ge, gn, hs, hr, ht⟩ rs gs) (h1 : RlsAt w ra rs) (h2 : TgsAt w ga gs) (hl : lf.size ≤ maxLen) (hi : (Lit.int .i64 at0).wf = true) (hn : ps.length = m) (hc : m ≤ pc) (hp : SA w pa ps) (hM : m ≤ 1048576) (hx : ∀ x ∈ ps, x.size ≤ maxLen) (hk : ArrU w 0 keys) (h0 : 0 < w.heap.size) (z1 : lf.size ≤ 20000) (z2 : m ≤ 400) (hb : TruU.okB ⟨rv, re, rn, t1, t2, t3, s1, s2, s3, gv, ge, gn, hs, hr, ht⟩ rs gs = false) :
    Calls Tryz.prog 7 #[.agg #[.int .i64 rv, .int .i64 re, .slice ra rn rc, .int .i64 t1, .int .i64 t2, .int .i64 t3, .int .i64 s1, .int .i64 s2, .int .i64 s3, .int .i64 gv, .int .i64 ge, .slice ga gn gc, .int .i64 hs, .string hr, .int .i64 ht], .string lf, .int .i64 at0, .slice pa m pc] w fun r w' => r = .returned (.bool false) ∧ Below w.heap.size w w' := by
  have d1 : decide ((20000 : Int) < (lf.size : Int)) = false := decide_eq_false (by omega)
  have d2 : decide ((400 : Int) < (m : Int)) = false := decide_eq_false (by omega)
  have hC1 : ∀ w0, ((RlsAt w0 ra rs ∧ TgsAt w0 ga gs) ∧ SA w0 pa ps ∧ ArrU w0 0 keys ∧ 0 < w0.heap.size) → Calls Tryz.prog 17 #[.agg #[.int .i64 rv, .int .i64 re, .slice ra rn rc, .int .i64 t1, .int .i64 t2, .int .i64 t3, .int .i64 s1, .int .i64 s2, .int .i64 s3, .int .i64 gv, .int .i64 ge, .slice ga gn gc, .int .i64 hs, .string hr, .int .i64 ht]] w0 fun r w' => r = .returned (.bool false) ∧ Below w0.heap.size w0 w' := fun w0 n0 => by rw [← hb]; exact specTrustR rv re rn t1 t2 t3 s1 s2 s3 gv ge gn hs hr ht ra rc rs ga gc gs w0 hW n0.1.1 n0.1.2
  have HS0 : Hid (Sta [] w [] [⟨fun k => k < w.heap.size, fun w' => (RlsAt w' ra rs ∧ TgsAt w' ga gs) ∧ SA w' pa ps ∧ ArrU w' 0 keys ∧ 0 < w'.heap.size⟩] w) := Sta.arg (fun w' => (RlsAt w' ra rs ∧ TgsAt w' ga gs) ∧ SA w' pa ps ∧ ArrU w' 0 keys ∧ 0 < w'.heap.size) (fun w' hb => ⟨⟨h1.below hb, TgsAt.below h2 hb⟩, hp.below hb, hk.below hb h0, Nat.lt_of_lt_of_le h0 hb.size⟩)
  clear hW h1 h2 hl hi hn hc hp hM hx hk h0 z1 z2 hb
  go_enter Tryz.func7, Tryz.ntmps7
  go_wp2_with (first
    | ((with_reducible refine wpList_boxV (w := w) (by with_unfolding_all rfl) 47 (.tmp 0) (by with_unfolding_all rfl) [.int .i64 rv, .int .i64 re, .slice ra rn rc, .int .i64 t1, .int .i64 t2, .int .i64 t3, .int .i64 s1, .int .i64 s2, .int .i64 s3, .int .i64 gv, .int .i64 ge, .slice ga gn gc, .int .i64 hs, .string hr, .int .i64 ht] (by with_unfolding_all rfl) ?_); intro w1 hA1 hB1 hS1; clear hS1; have HS1 := Sta.new HS0 hA1 hB1 (by simp); clear hA1 hB1; have cHS1_0_0 : w1.cell? ⟨w.heap.size, 0, none⟩ = some (.int .i64 rv) := Sta.c (i := 0) HS1 rfl rfl; have cHS1_0_1 : w1.cell? ⟨w.heap.size, 1, none⟩ = some (.int .i64 re) := Sta.c (i := 0) HS1 rfl rfl; have cHS1_0_2 : w1.cell? ⟨w.heap.size, 2, none⟩ = some (.slice ra rn rc) := Sta.c (i := 0) HS1 rfl rfl; have cHS1_0_3 : w1.cell? ⟨w.heap.size, 3, none⟩ = some (.int .i64 t1) := Sta.c (i := 0) HS1 rfl rfl; have cHS1_0_4 : w1.cell? ⟨w.heap.size, 4, none⟩ = some (.int .i64 t2) := Sta.c (i := 0) HS1 rfl rfl; have cHS1_0_5 : w1.cell? ⟨w.heap.size, 5, none⟩ = some (.int .i64 t3) := Sta.c (i := 0) HS1 rfl rfl; have cHS1_0_6 : w1.cell? ⟨w.heap.size, 6, none⟩ = some (.int .i64 s1) := Sta.c (i := 0) HS1 rfl rfl; have cHS1_0_7 : w1.cell? ⟨w.heap.size, 7, none⟩ = some (.int .i64 s2) := Sta.c (i := 0) HS1 rfl rfl; have cHS1_0_8 : w1.cell? ⟨w.heap.size, 8, none⟩ = some (.int .i64 s3) := Sta.c (i := 0) HS1 rfl rfl; have cHS1_0_9 : w1.cell? ⟨w.heap.size, 9, none⟩ = some (.int .i64 gv) := Sta.c (i := 0) HS1 rfl rfl; have cHS1_0_10 : w1.cell? ⟨w.heap.size, 10, none⟩ = some (.int .i64 ge) := Sta.c (i := 0) HS1 rfl rfl; have cHS1_0_11 : w1.cell? ⟨w.heap.size, 11, none⟩ = some (.slice ga gn gc) := Sta.c (i := 0) HS1 rfl rfl; have cHS1_0_12 : w1.cell? ⟨w.heap.size, 12, none⟩ = some (.int .i64 hs) := Sta.c (i := 0) HS1 rfl rfl; have cHS1_0_13 : w1.cell? ⟨w.heap.size, 13, none⟩ = some (.string hr) := Sta.c (i := 0) HS1 rfl rfl; have cHS1_0_14 : w1.cell? ⟨w.heap.size, 14, none⟩ = some (.int .i64 ht) := Sta.c (i := 0) HS1 rfl rfl)
    | (go_at_call 17; have n2_0 : (RlsAt w1 ra rs ∧ TgsAt w1 ga gs) ∧ SA w1 pa ps ∧ ArrU w1 0 keys ∧ 0 < w1.heap.size := (Sta.t (i := 0) HS1 rfl :); (with_reducible refine (hC1 w1 n2_0).mono ?_); rintro r w2 ⟨rfl, hB2⟩; have HS2 := Sta.call HS1 hB2; clear hB2; clear cHS1_0_0 cHS1_0_1 cHS1_0_2 cHS1_0_3 cHS1_0_4 cHS1_0_5 cHS1_0_6 cHS1_0_7 cHS1_0_8 cHS1_0_9 cHS1_0_10 cHS1_0_11 cHS1_0_12 cHS1_0_13 cHS1_0_14))
  go_ret
  exact ⟨rfl, Sta.fin HS2⟩
set_option maxRecDepth 100000 in
set_option maxHeartbeats 4000000 in
theorem specLogged_b (rv re : Int) (rn : Nat) (t1 t2 t3 s1 s2 s3 gv ge : Int) (gn : Nat) (ra : Option Addr) (rc : Nat) (rs : List RoleV) (ga : Option Addr) (gc : Nat) (gs : List TarV) (lf : ByteArray) (at0 : Int) (pa : Option Addr) (pc m : Nat) (ps : List ByteArray) (w : World) (hW : TrW ⟨rv, re, rn, t1, t2, t3, s1, s2, s3, gv, ge, gn, 0, ⟨#[]⟩, 0⟩ rs gs) (h1 : RlsAt w ra rs) (h2 : TgsAt w ga gs) (hl : lf.size ≤ maxLen) (hi : (Lit.int .i64 at0).wf = true) (hn : ps.length = m) (hc : m ≤ pc) (hp : SA w pa ps) (hM : m ≤ 1048576) (hx : ∀ x ∈ ps, x.size ≤ maxLen) (hk : ArrU w 0 keys) (h0 : 0 < w.heap.size) (hb : TruU.okB ⟨rv, re, rn, t1, t2, t3, s1, s2, s3, gv, ge, gn, 0, ⟨#[]⟩, 0⟩ rs gs = true) (z1 : lf.size ≤ 20000) (z2 : m ≤ 400) :
    Calls Tryz.prog 7 #[.agg #[.int .i64 rv, .int .i64 re, .slice ra rn rc, .int .i64 t1, .int .i64 t2, .int .i64 t3, .int .i64 s1, .int .i64 s2, .int .i64 s3, .int .i64 gv, .int .i64 ge, .slice ga gn gc, .int .i64 0, .string ⟨#[]⟩, .int .i64 0], .string lf, .int .i64 at0, .slice pa m pc] w fun r w' => r = .returned (.bool false) ∧ Below w.heap.size w w' := by
  have d1 : decide ((20000 : Int) < (lf.size : Int)) = false := decide_eq_false (by omega)
  have d2 : decide ((400 : Int) < (m : Int)) = false := decide_eq_false (by omega)
  have hC1 : ∀ w0, ((RlsAt w0 ra rs ∧ TgsAt w0 ga gs) ∧ SA w0 pa ps ∧ ArrU w0 0 keys ∧ 0 < w0.heap.size) → Calls Tryz.prog 17 #[.agg #[.int .i64 rv, .int .i64 re, .slice ra rn rc, .int .i64 t1, .int .i64 t2, .int .i64 t3, .int .i64 s1, .int .i64 s2, .int .i64 s3, .int .i64 gv, .int .i64 ge, .slice ga gn gc, .int .i64 0, .string ⟨#[]⟩, .int .i64 0]] w0 fun r w' => r = .returned (.bool true) ∧ Below w0.heap.size w0 w' := fun w0 n0 => by rw [← hb]; exact specTrustR rv re rn t1 t2 t3 s1 s2 s3 gv ge gn 0 ⟨#[]⟩ 0 ra rc rs ga gc gs w0 hW n0.1.1 n0.1.2
  have HS0 : Hid (Sta [] w [] [⟨fun k => k < w.heap.size, fun w' => (RlsAt w' ra rs ∧ TgsAt w' ga gs) ∧ SA w' pa ps ∧ ArrU w' 0 keys ∧ 0 < w'.heap.size⟩] w) := Sta.arg (fun w' => (RlsAt w' ra rs ∧ TgsAt w' ga gs) ∧ SA w' pa ps ∧ ArrU w' 0 keys ∧ 0 < w'.heap.size) (fun w' hb => ⟨⟨h1.below hb, TgsAt.below h2 hb⟩, hp.below hb, hk.below hb h0, Nat.lt_of_lt_of_le h0 hb.size⟩)
  clear hW h1 h2 hl hi hn hc hp hM hx hk h0 hb z1 z2
  go_enter Tryz.func7, Tryz.ntmps7
  go_wp2_with (first
    | ((with_reducible refine wpList_boxV (w := w) (by with_unfolding_all rfl) 47 (.tmp 0) (by with_unfolding_all rfl) [.int .i64 rv, .int .i64 re, .slice ra rn rc, .int .i64 t1, .int .i64 t2, .int .i64 t3, .int .i64 s1, .int .i64 s2, .int .i64 s3, .int .i64 gv, .int .i64 ge, .slice ga gn gc, .int .i64 0, .string ⟨#[]⟩, .int .i64 0] (by with_unfolding_all rfl) ?_); intro w1 hA1 hB1 hS1; clear hS1; have HS1 := Sta.new HS0 hA1 hB1 (by simp); clear hA1 hB1; have cHS1_0_0 : w1.cell? ⟨w.heap.size, 0, none⟩ = some (.int .i64 rv) := Sta.c (i := 0) HS1 rfl rfl; have cHS1_0_1 : w1.cell? ⟨w.heap.size, 1, none⟩ = some (.int .i64 re) := Sta.c (i := 0) HS1 rfl rfl; have cHS1_0_2 : w1.cell? ⟨w.heap.size, 2, none⟩ = some (.slice ra rn rc) := Sta.c (i := 0) HS1 rfl rfl; have cHS1_0_3 : w1.cell? ⟨w.heap.size, 3, none⟩ = some (.int .i64 t1) := Sta.c (i := 0) HS1 rfl rfl; have cHS1_0_4 : w1.cell? ⟨w.heap.size, 4, none⟩ = some (.int .i64 t2) := Sta.c (i := 0) HS1 rfl rfl; have cHS1_0_5 : w1.cell? ⟨w.heap.size, 5, none⟩ = some (.int .i64 t3) := Sta.c (i := 0) HS1 rfl rfl; have cHS1_0_6 : w1.cell? ⟨w.heap.size, 6, none⟩ = some (.int .i64 s1) := Sta.c (i := 0) HS1 rfl rfl; have cHS1_0_7 : w1.cell? ⟨w.heap.size, 7, none⟩ = some (.int .i64 s2) := Sta.c (i := 0) HS1 rfl rfl; have cHS1_0_8 : w1.cell? ⟨w.heap.size, 8, none⟩ = some (.int .i64 s3) := Sta.c (i := 0) HS1 rfl rfl; have cHS1_0_9 : w1.cell? ⟨w.heap.size, 9, none⟩ = some (.int .i64 gv) := Sta.c (i := 0) HS1 rfl rfl; have cHS1_0_10 : w1.cell? ⟨w.heap.size, 10, none⟩ = some (.int .i64 ge) := Sta.c (i := 0) HS1 rfl rfl; have cHS1_0_11 : w1.cell? ⟨w.heap.size, 11, none⟩ = some (.slice ga gn gc) := Sta.c (i := 0) HS1 rfl rfl; have cHS1_0_12 : w1.cell? ⟨w.heap.size, 12, none⟩ = some (.int .i64 0) := Sta.c (i := 0) HS1 rfl rfl; have cHS1_0_13 : w1.cell? ⟨w.heap.size, 13, none⟩ = some (.string ⟨#[]⟩) := Sta.c (i := 0) HS1 rfl rfl; have cHS1_0_14 : w1.cell? ⟨w.heap.size, 14, none⟩ = some (.int .i64 0) := Sta.c (i := 0) HS1 rfl rfl)
    | (go_at_call 17; have n2_0 : (RlsAt w1 ra rs ∧ TgsAt w1 ga gs) ∧ SA w1 pa ps ∧ ArrU w1 0 keys ∧ 0 < w1.heap.size := (Sta.t (i := 0) HS1 rfl :); (with_reducible refine (hC1 w1 n2_0).mono ?_); rintro r w2 ⟨rfl, hB2⟩; have HS2 := Sta.call HS1 hB2; clear hB2; clear cHS1_0_0 cHS1_0_1 cHS1_0_2 cHS1_0_3 cHS1_0_4 cHS1_0_5 cHS1_0_6 cHS1_0_7 cHS1_0_8 cHS1_0_9 cHS1_0_10 cHS1_0_11 cHS1_0_12 cHS1_0_13 cHS1_0_14; have cHS2_0_12 : w2.cell? ⟨w.heap.size, 12, none⟩ = some (.int .i64 0) := Sta.c (i := 0) HS2 rfl rfl; have cHS2_0_13 : w2.cell? ⟨w.heap.size, 13, none⟩ = some (.string ⟨#[]⟩) := Sta.c (i := 0) HS2 rfl rfl; have cHS2_0_14 : w2.cell? ⟨w.heap.size, 14, none⟩ = some (.int .i64 0) := Sta.c (i := 0) HS2 rfl rfl))
  go_ret
  exact ⟨rfl, Sta.fin HS2⟩
set_option maxRecDepth 100000 in
set_option maxHeartbeats 4000000 in
theorem specLogged_f (rv re : Int) (rn : Nat) (t1 t2 t3 s1 s2 s3 gv ge : Int) (gn : Nat) (hs : Int) (hr : ByteArray) (ht : Int) (ra : Option Addr) (rc : Nat) (rs : List RoleV) (ga : Option Addr) (gc : Nat) (gs : List TarV) (lf : ByteArray) (at0 : Int) (pa : Option Addr) (pc m : Nat) (ps : List ByteArray) (w : World) (hW : TrW ⟨rv, re, rn, t1, t2, t3, s1, s2, s3, gv, ge, gn, hs, hr, ht⟩ rs gs) (h1 : RlsAt w ra rs) (h2 : TgsAt w ga gs) (hl : lf.size ≤ maxLen) (hi : (Lit.int .i64 at0).wf = true) (hn : ps.length = m) (hc : m ≤ pc) (hp : SA w pa ps) (hM : m ≤ 1048576) (hx : ∀ x ∈ ps, x.size ≤ maxLen) (hk : ArrU w 0 keys) (h0 : 0 < w.heap.size) (z1 : lf.size ≤ 20000) (z2 : m ≤ 400) (hb : TruU.okB ⟨rv, re, rn, t1, t2, t3, s1, s2, s3, gv, ge, gn, hs, hr, ht⟩ rs gs = true) (hh : headB hs hr ht = true) (hf : ¬ lf.size < 20000) :
    Calls Tryz.prog 7 #[.agg #[.int .i64 rv, .int .i64 re, .slice ra rn rc, .int .i64 t1, .int .i64 t2, .int .i64 t3, .int .i64 s1, .int .i64 s2, .int .i64 s3, .int .i64 gv, .int .i64 ge, .slice ga gn gc, .int .i64 hs, .string hr, .int .i64 ht], .string lf, .int .i64 at0, .slice pa m pc] w fun r w' => r = .returned (.bool false) ∧ Below w.heap.size w w' := by
  have d1 : decide ((20000 : Int) < (lf.size : Int)) = false := decide_eq_false (by omega)
  have d2 : decide ((400 : Int) < (m : Int)) = false := decide_eq_false (by omega)
  have hz : (hs == 0) = false := beq_eq_false_iff_ne.2 (by have := (headB_one hh).1; omega)
  have hC1 : ∀ w0, ((RlsAt w0 ra rs ∧ TgsAt w0 ga gs) ∧ SA w0 pa ps ∧ ArrU w0 0 keys ∧ 0 < w0.heap.size) → Calls Tryz.prog 17 #[.agg #[.int .i64 rv, .int .i64 re, .slice ra rn rc, .int .i64 t1, .int .i64 t2, .int .i64 t3, .int .i64 s1, .int .i64 s2, .int .i64 s3, .int .i64 gv, .int .i64 ge, .slice ga gn gc, .int .i64 hs, .string hr, .int .i64 ht]] w0 fun r w' => r = .returned (.bool true) ∧ Below w0.heap.size w0 w' := fun w0 n0 => by rw [← hb]; exact specTrustR rv re rn t1 t2 t3 s1 s2 s3 gv ge gn hs hr ht ra rc rs ga gc gs w0 hW n0.1.1 n0.1.2
  have hC2 : ∀ w0, Calls Tryz.prog 23 #[.string lf] w0 fun r w' => r = .returned (.bool false) ∧ w0 = w' := fun w0 => fits_no lf w0 hl hf
  have HS0 : Hid (Sta [] w [] [⟨fun k => k < w.heap.size, fun w' => (RlsAt w' ra rs ∧ TgsAt w' ga gs) ∧ SA w' pa ps ∧ ArrU w' 0 keys ∧ 0 < w'.heap.size⟩] w) := Sta.arg (fun w' => (RlsAt w' ra rs ∧ TgsAt w' ga gs) ∧ SA w' pa ps ∧ ArrU w' 0 keys ∧ 0 < w'.heap.size) (fun w' hb => ⟨⟨h1.below hb, TgsAt.below h2 hb⟩, hp.below hb, hk.below hb h0, Nat.lt_of_lt_of_le h0 hb.size⟩)
  clear hW h1 h2 hl hi hn hc hp hM hx hk h0 z1 z2 hb hh hf
  go_enter Tryz.func7, Tryz.ntmps7
  go_wp2_with (first
    | ((with_reducible refine wpList_boxV (w := w) (by with_unfolding_all rfl) 47 (.tmp 0) (by with_unfolding_all rfl) [.int .i64 rv, .int .i64 re, .slice ra rn rc, .int .i64 t1, .int .i64 t2, .int .i64 t3, .int .i64 s1, .int .i64 s2, .int .i64 s3, .int .i64 gv, .int .i64 ge, .slice ga gn gc, .int .i64 hs, .string hr, .int .i64 ht] (by with_unfolding_all rfl) ?_); intro w1 hA1 hB1 hS1; clear hS1; have HS1 := Sta.new HS0 hA1 hB1 (by simp); clear hA1 hB1; have cHS1_0_0 : w1.cell? ⟨w.heap.size, 0, none⟩ = some (.int .i64 rv) := Sta.c (i := 0) HS1 rfl rfl; have cHS1_0_1 : w1.cell? ⟨w.heap.size, 1, none⟩ = some (.int .i64 re) := Sta.c (i := 0) HS1 rfl rfl; have cHS1_0_2 : w1.cell? ⟨w.heap.size, 2, none⟩ = some (.slice ra rn rc) := Sta.c (i := 0) HS1 rfl rfl; have cHS1_0_3 : w1.cell? ⟨w.heap.size, 3, none⟩ = some (.int .i64 t1) := Sta.c (i := 0) HS1 rfl rfl; have cHS1_0_4 : w1.cell? ⟨w.heap.size, 4, none⟩ = some (.int .i64 t2) := Sta.c (i := 0) HS1 rfl rfl; have cHS1_0_5 : w1.cell? ⟨w.heap.size, 5, none⟩ = some (.int .i64 t3) := Sta.c (i := 0) HS1 rfl rfl; have cHS1_0_6 : w1.cell? ⟨w.heap.size, 6, none⟩ = some (.int .i64 s1) := Sta.c (i := 0) HS1 rfl rfl; have cHS1_0_7 : w1.cell? ⟨w.heap.size, 7, none⟩ = some (.int .i64 s2) := Sta.c (i := 0) HS1 rfl rfl; have cHS1_0_8 : w1.cell? ⟨w.heap.size, 8, none⟩ = some (.int .i64 s3) := Sta.c (i := 0) HS1 rfl rfl; have cHS1_0_9 : w1.cell? ⟨w.heap.size, 9, none⟩ = some (.int .i64 gv) := Sta.c (i := 0) HS1 rfl rfl; have cHS1_0_10 : w1.cell? ⟨w.heap.size, 10, none⟩ = some (.int .i64 ge) := Sta.c (i := 0) HS1 rfl rfl; have cHS1_0_11 : w1.cell? ⟨w.heap.size, 11, none⟩ = some (.slice ga gn gc) := Sta.c (i := 0) HS1 rfl rfl; have cHS1_0_12 : w1.cell? ⟨w.heap.size, 12, none⟩ = some (.int .i64 hs) := Sta.c (i := 0) HS1 rfl rfl; have cHS1_0_13 : w1.cell? ⟨w.heap.size, 13, none⟩ = some (.string hr) := Sta.c (i := 0) HS1 rfl rfl; have cHS1_0_14 : w1.cell? ⟨w.heap.size, 14, none⟩ = some (.int .i64 ht) := Sta.c (i := 0) HS1 rfl rfl)
    | (go_at_call 17; have n2_0 : (RlsAt w1 ra rs ∧ TgsAt w1 ga gs) ∧ SA w1 pa ps ∧ ArrU w1 0 keys ∧ 0 < w1.heap.size := (Sta.t (i := 0) HS1 rfl :); (with_reducible refine (hC1 w1 n2_0).mono ?_); rintro r w2 ⟨rfl, hB2⟩; have HS2 := Sta.call HS1 hB2; clear hB2; clear cHS1_0_0 cHS1_0_1 cHS1_0_2 cHS1_0_3 cHS1_0_4 cHS1_0_5 cHS1_0_6 cHS1_0_7 cHS1_0_8 cHS1_0_9 cHS1_0_10 cHS1_0_11 cHS1_0_12 cHS1_0_13 cHS1_0_14; have cHS2_0_12 : w2.cell? ⟨w.heap.size, 12, none⟩ = some (.int .i64 hs) := Sta.c (i := 0) HS2 rfl rfl; have cHS2_0_13 : w2.cell? ⟨w.heap.size, 13, none⟩ = some (.string hr) := Sta.c (i := 0) HS2 rfl rfl; have cHS2_0_14 : w2.cell? ⟨w.heap.size, 14, none⟩ = some (.int .i64 ht) := Sta.c (i := 0) HS2 rfl rfl)
    | (go_at_call 23; (with_reducible refine (hC2 w2).mono ?_); rintro r w' ⟨rfl, rfl⟩))
  go_ret
  exact ⟨rfl, Sta.fin HS2⟩
set_option maxRecDepth 100000 in
set_option maxHeartbeats 4000000 in
theorem specLogged_c (rv re : Int) (rn : Nat) (t1 t2 t3 s1 s2 s3 gv ge : Int) (gn : Nat) (hs : Int) (hr : ByteArray) (ht : Int) (ra : Option Addr) (rc : Nat) (rs : List RoleV) (ga : Option Addr) (gc : Nat) (gs : List TarV) (lf : ByteArray) (at0 : Int) (pa : Option Addr) (pc m : Nat) (ps : List ByteArray) (w : World) (hW : TrW ⟨rv, re, rn, t1, t2, t3, s1, s2, s3, gv, ge, gn, hs, hr, ht⟩ rs gs) (h1 : RlsAt w ra rs) (h2 : TgsAt w ga gs) (hl : lf.size ≤ maxLen) (hi : (Lit.int .i64 at0).wf = true) (hn : ps.length = m) (hc : m ≤ pc) (hp : SA w pa ps) (hM : m ≤ 1048576) (hx : ∀ x ∈ ps, x.size ≤ maxLen) (hk : ArrU w 0 keys) (h0 : 0 < w.heap.size) (z1 : lf.size ≤ 20000) (z2 : m ≤ 400) (hb : TruU.okB ⟨rv, re, rn, t1, t2, t3, s1, s2, s3, gv, ge, gn, hs, hr, ht⟩ rs gs = true) (hh : headB hs hr ht = true) (hf : lf.size < 20000) :
    Calls Tryz.prog 7 #[.agg #[.int .i64 rv, .int .i64 re, .slice ra rn rc, .int .i64 t1, .int .i64 t2, .int .i64 t3, .int .i64 s1, .int .i64 s2, .int .i64 s3, .int .i64 gv, .int .i64 ge, .slice ga gn gc, .int .i64 hs, .string hr, .int .i64 ht], .string lf, .int .i64 at0, .slice pa m pc] w fun r w' => r = .returned (.bool (incB (leafA lf) at0 hs ps hr)) ∧ Below w.heap.size w w' := by
  have d1 : decide ((20000 : Int) < (lf.size : Int)) = false := decide_eq_false (by omega)
  have d2 : decide ((400 : Int) < (m : Int)) = false := decide_eq_false (by omega)
  have hz : (hs == 0) = false := beq_eq_false_iff_ne.2 (by have := (headB_one hh).1; omega)
  have hlA : leafA lf = leafD lf := if_pos hf
  obtain ⟨L, hL⟩ : ∃ L, leafD lf = L := ⟨_, rfl⟩
  obtain ⟨I, hI⟩ : ∃ I, incB L at0 hs ps hr = I := ⟨_, rfl⟩
  have HI : Hid (incB (leafA lf) at0 hs ps hr = I) := by show _ = _; rw [hlA, hL, hI]
  have hC1 : ∀ w0, ((RlsAt w0 ra rs ∧ TgsAt w0 ga gs) ∧ SA w0 pa ps ∧ ArrU w0 0 keys ∧ 0 < w0.heap.size) → Calls Tryz.prog 17 #[.agg #[.int .i64 rv, .int .i64 re, .slice ra rn rc, .int .i64 t1, .int .i64 t2, .int .i64 t3, .int .i64 s1, .int .i64 s2, .int .i64 s3, .int .i64 gv, .int .i64 ge, .slice ga gn gc, .int .i64 hs, .string hr, .int .i64 ht]] w0 fun r w' => r = .returned (.bool true) ∧ Below w0.heap.size w0 w' := fun w0 n0 => by rw [← hb]; exact specTrustR rv re rn t1 t2 t3 s1 s2 s3 gv ge gn hs hr ht ra rc rs ga gc gs w0 hW n0.1.1 n0.1.2
  have hC2 : ∀ w0, Calls Tryz.prog 23 #[.string lf] w0 fun r w' => r = .returned (.bool true) ∧ w0 = w' := fun w0 => specFits lf w0 hf
  have hC3 : ∀ w0, Calls Tryz.prog 25 #[.string lf] w0 fun r w' => r = .returned (.string L) ∧ Below w0.heap.size w0 w' := fun w0 => hL ▸ specLeaf lf w0 (by omega)
  have hC4 : ∀ w0, ((RlsAt w0 ra rs ∧ TgsAt w0 ga gs) ∧ SA w0 pa ps ∧ ArrU w0 0 keys ∧ 0 < w0.heap.size) → Calls Tryz.prog 24 #[.string L, .int .i64 at0, .int .i64 hs, .slice pa m pc, .string hr] w0 fun r w' => r = .returned (.bool I) ∧ Below w0.heap.size w0 w' := fun w0 n0 => hI ▸ hL ▸ specInc (leafD lf) hr at0 hs pa pc m ps w0 hn n0.2.1 (by rw [leafD_size]; decide) (by have := (headB_one hh).2.2; unfold maxLen; omega) (by omega) hx
  have HS0 : Hid (Sta [] w [] [⟨fun k => k < w.heap.size, fun w' => (RlsAt w' ra rs ∧ TgsAt w' ga gs) ∧ SA w' pa ps ∧ ArrU w' 0 keys ∧ 0 < w'.heap.size⟩] w) := Sta.arg (fun w' => (RlsAt w' ra rs ∧ TgsAt w' ga gs) ∧ SA w' pa ps ∧ ArrU w' 0 keys ∧ 0 < w'.heap.size) (fun w' hb => ⟨⟨h1.below hb, TgsAt.below h2 hb⟩, hp.below hb, hk.below hb h0, Nat.lt_of_lt_of_le h0 hb.size⟩)
  clear hW h1 h2 hl hi hn hc hp hM hx hk h0 z1 z2 hb hh hf hlA hL hI
  go_enter Tryz.func7, Tryz.ntmps7
  go_wp2_with (first
    | ((with_reducible refine wpList_boxV (w := w) (by with_unfolding_all rfl) 47 (.tmp 0) (by with_unfolding_all rfl) [.int .i64 rv, .int .i64 re, .slice ra rn rc, .int .i64 t1, .int .i64 t2, .int .i64 t3, .int .i64 s1, .int .i64 s2, .int .i64 s3, .int .i64 gv, .int .i64 ge, .slice ga gn gc, .int .i64 hs, .string hr, .int .i64 ht] (by with_unfolding_all rfl) ?_); intro w1 hA1 hB1 hS1; clear hS1; have HS1 := Sta.new HS0 hA1 hB1 (by simp); clear hA1 hB1; have cHS1_0_0 : w1.cell? ⟨w.heap.size, 0, none⟩ = some (.int .i64 rv) := Sta.c (i := 0) HS1 rfl rfl; have cHS1_0_1 : w1.cell? ⟨w.heap.size, 1, none⟩ = some (.int .i64 re) := Sta.c (i := 0) HS1 rfl rfl; have cHS1_0_2 : w1.cell? ⟨w.heap.size, 2, none⟩ = some (.slice ra rn rc) := Sta.c (i := 0) HS1 rfl rfl; have cHS1_0_3 : w1.cell? ⟨w.heap.size, 3, none⟩ = some (.int .i64 t1) := Sta.c (i := 0) HS1 rfl rfl; have cHS1_0_4 : w1.cell? ⟨w.heap.size, 4, none⟩ = some (.int .i64 t2) := Sta.c (i := 0) HS1 rfl rfl; have cHS1_0_5 : w1.cell? ⟨w.heap.size, 5, none⟩ = some (.int .i64 t3) := Sta.c (i := 0) HS1 rfl rfl; have cHS1_0_6 : w1.cell? ⟨w.heap.size, 6, none⟩ = some (.int .i64 s1) := Sta.c (i := 0) HS1 rfl rfl; have cHS1_0_7 : w1.cell? ⟨w.heap.size, 7, none⟩ = some (.int .i64 s2) := Sta.c (i := 0) HS1 rfl rfl; have cHS1_0_8 : w1.cell? ⟨w.heap.size, 8, none⟩ = some (.int .i64 s3) := Sta.c (i := 0) HS1 rfl rfl; have cHS1_0_9 : w1.cell? ⟨w.heap.size, 9, none⟩ = some (.int .i64 gv) := Sta.c (i := 0) HS1 rfl rfl; have cHS1_0_10 : w1.cell? ⟨w.heap.size, 10, none⟩ = some (.int .i64 ge) := Sta.c (i := 0) HS1 rfl rfl; have cHS1_0_11 : w1.cell? ⟨w.heap.size, 11, none⟩ = some (.slice ga gn gc) := Sta.c (i := 0) HS1 rfl rfl; have cHS1_0_12 : w1.cell? ⟨w.heap.size, 12, none⟩ = some (.int .i64 hs) := Sta.c (i := 0) HS1 rfl rfl; have cHS1_0_13 : w1.cell? ⟨w.heap.size, 13, none⟩ = some (.string hr) := Sta.c (i := 0) HS1 rfl rfl; have cHS1_0_14 : w1.cell? ⟨w.heap.size, 14, none⟩ = some (.int .i64 ht) := Sta.c (i := 0) HS1 rfl rfl)
    | (go_at_call 17; have n2_0 : (RlsAt w1 ra rs ∧ TgsAt w1 ga gs) ∧ SA w1 pa ps ∧ ArrU w1 0 keys ∧ 0 < w1.heap.size := (Sta.t (i := 0) HS1 rfl :); (with_reducible refine (hC1 w1 n2_0).mono ?_); rintro r w2 ⟨rfl, hB2⟩; have HS2 := Sta.call HS1 hB2; clear hB2; clear cHS1_0_0 cHS1_0_1 cHS1_0_2 cHS1_0_3 cHS1_0_4 cHS1_0_5 cHS1_0_6 cHS1_0_7 cHS1_0_8 cHS1_0_9 cHS1_0_10 cHS1_0_11 cHS1_0_12 cHS1_0_13 cHS1_0_14; have cHS2_0_12 : w2.cell? ⟨w.heap.size, 12, none⟩ = some (.int .i64 hs) := Sta.c (i := 0) HS2 rfl rfl; have cHS2_0_13 : w2.cell? ⟨w.heap.size, 13, none⟩ = some (.string hr) := Sta.c (i := 0) HS2 rfl rfl; have cHS2_0_14 : w2.cell? ⟨w.heap.size, 14, none⟩ = some (.int .i64 ht) := Sta.c (i := 0) HS2 rfl rfl)
    | (go_at_call 23; (with_reducible refine (hC2 w2).mono ?_); rintro r w' ⟨rfl, rfl⟩))
  have HS4 := Sta.drew HS2
  clear cHS2_0_12 cHS2_0_13 cHS2_0_14
  go_region_held3 (fun w' => w'.cell? ⟨w.heap.size, 12, none⟩ = some (.int .i64 hs) ∧ w'.cell? ⟨w.heap.size, 13, none⟩ = some (.string hr) ∧ Hid (Sta [] w [(w.heap.size, [.int .i64 rv, .int .i64 re, .slice ra rn rc, .int .i64 t1, .int .i64 t2, .int .i64 t3, .int .i64 s1, .int .i64 s2, .int .i64 s3, .int .i64 gv, .int .i64 ge, .slice ga gn gc, .int .i64 hs, .string hr, .int .i64 ht])] [⟨fun k => k < w.heap.size, fun w' => (RlsAt w' ra rs ∧ TgsAt w' ga gs) ∧ SA w' pa ps ∧ ArrU w' 0 keys ∧ 0 < w'.heap.size⟩] w'))
    (first | exact ⟨Sta.c (i := 0) (HS4) rfl rfl, Sta.c (i := 0) (HS4) rfl rfl, (HS4)⟩ | exact ⟨Sta.c (i := 0) (Sta.call (HS4) hB5) rfl rfl, Sta.c (i := 0) (Sta.call (HS4) hB5) rfl rfl, (Sta.call (HS4) hB5)⟩ | exact ⟨Sta.c (i := 0) (Sta.call (Sta.call (HS4) hB5) hB6) rfl rfl, Sta.c (i := 0) (Sta.call (Sta.call (HS4) hB5) hB6) rfl rfl, (Sta.call (Sta.call (HS4) hB5) hB6)⟩)
    (first
      | (go_at_call 25; (with_reducible refine (hC3 _).mono ?_); rintro r w5 ⟨rfl, hB5⟩)
      | (go_at_call 24; have n6_0 : (RlsAt w5 ra rs ∧ TgsAt w5 ga gs) ∧ SA w5 pa ps ∧ ArrU w5 0 keys ∧ 0 < w5.heap.size := (Sta.t (i := 0) (Sta.call (HS4) hB5) rfl :); (with_reducible refine (hC4 _ n6_0).mono ?_); rintro r w6 ⟨rfl, hB6⟩))
  all_goals
    have HS7 := Sta.call (Sta.call (HS4) hB5) hB6
    go_wp2_with fail
    go_ret
    exact ⟨by rw [HI.out]; rfl, Sta.fin HS7⟩
theorem implLogged (rv re : Int) (rn : Nat) (t1 t2 t3 s1 s2 s3 gv ge : Int) (gn : Nat) (hs : Int) (hr : ByteArray) (ht : Int) (ra : Option Addr) (rc : Nat) (rs : List RoleV) (ga : Option Addr) (gc : Nat) (gs : List TarV) (lf : ByteArray) (at0 : Int) (pa : Option Addr) (pc m : Nat) (ps : List ByteArray) (w : World) (hW : TrW ⟨rv, re, rn, t1, t2, t3, s1, s2, s3, gv, ge, gn, hs, hr, ht⟩ rs gs) (h1 : RlsAt w ra rs) (h2 : TgsAt w ga gs) (hl : lf.size ≤ maxLen) (hi : (Lit.int .i64 at0).wf = true) (hn : ps.length = m) (hc : m ≤ pc) (hp : SA w pa ps) (hM : m ≤ 1048576) (hx : ∀ x ∈ ps, x.size ≤ maxLen) (hk : ArrU w 0 keys) (h0 : 0 < w.heap.size) :
    Calls Tryz.prog 10 #[.agg #[.int .i64 rv, .int .i64 re, .slice ra rn rc, .int .i64 t1, .int .i64 t2, .int .i64 t3, .int .i64 s1, .int .i64 s2, .int .i64 s3, .int .i64 gv, .int .i64 ge, .slice ga gn gc, .int .i64 hs, .string hr, .int .i64 ht], .string lf, .int .i64 at0, .slice pa m pc] w fun r w' => r = .returned (.bool (loggedB ⟨rv, re, rn, t1, t2, t3, s1, s2, s3, gv, ge, gn, hs, hr, ht⟩ rs gs lf at0 ps)) ∧ Below w.heap.size w w' := by
  have hu : loggedB ⟨rv, re, rn, t1, t2, t3, s1, s2, s3, gv, ge, gn, hs, hr, ht⟩ rs gs lf at0 ps = (TruU.okB ⟨rv, re, rn, t1, t2, t3, s1, s2, s3, gv, ge, gn, hs, hr, ht⟩ rs gs && (headB hs hr ht && incB (leafA lf) at0 hs ps hr)) := rfl
  cases hb : TruU.okB ⟨rv, re, rn, t1, t2, t3, s1, s2, s3, gv, ge, gn, hs, hr, ht⟩ rs gs with
  | false =>
    rw [hu, hb, Bool.false_and]
    exact implLogged_a rv re rn t1 t2 t3 s1 s2 s3 gv ge gn hs hr ht ra rc rs ga gc gs lf at0 pa pc m ps w hW h1 h2 hl hi hn hc hp hM hx hk h0 hb
  | true =>
    rcases okB_head hb with hz | hh
    · obtain ⟨e1, e2, e3⟩ := noHd_parts hz
      simp only at e1 e2 e3
      subst e1 e2 e3
      have h9 : headB 0 ⟨#[]⟩ 0 = false := by rfl
      rw [hu, h9, Bool.false_and, Bool.and_false]
      exact implLogged_b rv re rn t1 t2 t3 s1 s2 s3 gv ge gn ra rc rs ga gc gs lf at0 pa pc m ps w hW h1 h2 hl hi hn hc hp hM hx hk h0 hb
    · simp only at hh
      rw [hu, hb, hh, Bool.true_and, Bool.true_and]
      exact implLogged_c rv re rn t1 t2 t3 s1 s2 s3 gv ge gn hs hr ht ra rc rs ga gc gs lf at0 pa pc m ps w hW h1 h2 hl hi hn hc hp hM hx hk h0 hb hh
theorem specLogged (rv re : Int) (rn : Nat) (t1 t2 t3 s1 s2 s3 gv ge : Int) (gn : Nat) (hs : Int) (hr : ByteArray) (ht : Int) (ra : Option Addr) (rc : Nat) (rs : List RoleV) (ga : Option Addr) (gc : Nat) (gs : List TarV) (lf : ByteArray) (at0 : Int) (pa : Option Addr) (pc m : Nat) (ps : List ByteArray) (w : World) (hW : TrW ⟨rv, re, rn, t1, t2, t3, s1, s2, s3, gv, ge, gn, hs, hr, ht⟩ rs gs) (h1 : RlsAt w ra rs) (h2 : TgsAt w ga gs) (hl : lf.size ≤ maxLen) (hi : (Lit.int .i64 at0).wf = true) (hn : ps.length = m) (hc : m ≤ pc) (hp : SA w pa ps) (hM : m ≤ 1048576) (hx : ∀ x ∈ ps, x.size ≤ maxLen) (hk : ArrU w 0 keys) (h0 : 0 < w.heap.size) :
    Calls Tryz.prog 7 #[.agg #[.int .i64 rv, .int .i64 re, .slice ra rn rc, .int .i64 t1, .int .i64 t2, .int .i64 t3, .int .i64 s1, .int .i64 s2, .int .i64 s3, .int .i64 gv, .int .i64 ge, .slice ga gn gc, .int .i64 hs, .string hr, .int .i64 ht], .string lf, .int .i64 at0, .slice pa m pc] w fun r w' => r = .returned (.bool (loggedB ⟨rv, re, rn, t1, t2, t3, s1, s2, s3, gv, ge, gn, hs, hr, ht⟩ rs gs lf at0 ps)) ∧ Below w.heap.size w w' := by
  have hu : loggedB ⟨rv, re, rn, t1, t2, t3, s1, s2, s3, gv, ge, gn, hs, hr, ht⟩ rs gs lf at0 ps = (TruU.okB ⟨rv, re, rn, t1, t2, t3, s1, s2, s3, gv, ge, gn, hs, hr, ht⟩ rs gs && (headB hs hr ht && incB (leafA lf) at0 hs ps hr)) := rfl
  by_cases z1 : 20000 < lf.size
  · rw [hu, incB_leaf (by omega), Bool.and_false, Bool.and_false]
    exact specLogged_p rv re rn t1 t2 t3 s1 s2 s3 gv ge gn hs hr ht ra rc rs ga gc gs lf at0 pa pc m ps w hW h1 h2 hl hi hn hc hp hM hx hk h0 z1
  have z1 : lf.size ≤ 20000 := by omega
  by_cases z2 : 400 < m
  · rw [hu, incB_long (by omega), Bool.and_false, Bool.and_false]
    exact specLogged_q rv re rn t1 t2 t3 s1 s2 s3 gv ge gn hs hr ht ra rc rs ga gc gs lf at0 pa pc m ps w hW h1 h2 hl hi hn hc hp hM hx hk h0 z1 z2
  have z2 : m ≤ 400 := by omega
  cases hb : TruU.okB ⟨rv, re, rn, t1, t2, t3, s1, s2, s3, gv, ge, gn, hs, hr, ht⟩ rs gs with
  | false =>
    rw [hu, hb, Bool.false_and]
    exact specLogged_a rv re rn t1 t2 t3 s1 s2 s3 gv ge gn hs hr ht ra rc rs ga gc gs lf at0 pa pc m ps w hW h1 h2 hl hi hn hc hp hM hx hk h0 z1 z2 hb
  | true =>
    rcases okB_head hb with hz | hh
    · obtain ⟨e1, e2, e3⟩ := noHd_parts hz
      simp only at e1 e2 e3
      subst e1 e2 e3
      have h9 : headB 0 ⟨#[]⟩ 0 = false := by rfl
      rw [hu, h9, Bool.false_and, Bool.and_false]
      exact specLogged_b rv re rn t1 t2 t3 s1 s2 s3 gv ge gn ra rc rs ga gc gs lf at0 pa pc m ps w hW h1 h2 hl hi hn hc hp hM hx hk h0 hb z1 z2
    · simp only at hh
      rw [hu, hb, hh, Bool.true_and, Bool.true_and]
      by_cases hf : lf.size < 20000
      · exact specLogged_c rv re rn t1 t2 t3 s1 s2 s3 gv ge gn hs hr ht ra rc rs ga gc gs lf at0 pa pc m ps w hW h1 h2 hl hi hn hc hp hM hx hk h0 z1 z2 hb hh hf
      · rw [incB_leaf hf]
        exact specLogged_f rv re rn t1 t2 t3 s1 s2 s3 gv ge gn hs hr ht ra rc rs ga gc gs lf at0 pa pc m ps w hW h1 h2 hl hi hn hc hp hM hx hk h0 z1 z2 hb hh hf
end Go.Proofs.YtdfglpbappeoaaaGreatDoor
