/- Roots of which each row lies in a block of its own; turned, as things that were made. Trusts turned to the program's, as a thing that was made. -/
import Derived.Test.YtdfglpbappeoaaaGreatDoorJn14
import Derived.Test.YtdfglpbappeoaaaGreatDoorJn12
import Derived.Test.YtdfglpbappeoaaaGreatDoorJn15
import Derived.Test.YtdfglpbappeoaaaGreatDoorJn5
namespace Go.Proofs.YtdfglpbappeoaaaGreatDoor
open Go.RowKit
set_option linter.unusedVariables false

/- The blocks of roles and their keys. -/
def TR (a : Option Addr) (rs : List RoleV) (b : Nat) : Prop := (rs ≠ [] ∧ ∃ ad, a = some ad ∧ ad.block = b) ∨ ∃ i, ∃ h : i < rs.length, rs[i].ks ≠ [] ∧ ∃ ad, rs[i].ka = some ad ∧ ad.block = b
def RtO (w : World) (a : Option Addr) (rs : List RoleV) : Prop := rs ≠ [] → ∃ g, a = some ⟨g, 0, none⟩ ∧ RlsO w g rs
theorem flR_ne {l : List RoleV} (h : l ≠ []) : (rlL l).flatten ≠ [] := fun e => by
  have := congrArg List.length e
  rw [flR_len] at this
  cases l with
  | nil => exact h rfl
  | cons x xs => simp at this
theorem RtO.below {w w' : World} {a : Option Addr} {rs : List RoleV} (h : RtO w a rs) (hb : Below w.heap.size w w') : RtO w' a rs := fun hr => by
  obtain ⟨g, h1, h2⟩ := h hr
  exact ⟨g, h1, h2.below hr hb⟩
theorem RtO.far {T : Nat → Prop} {w w' : World} {a : Option Addr} {rs : List RoleV} (h : RtO w a rs) (hm : Mrk T w w') (hd : ∀ b, TR a rs b → ¬ T b) : RtO w' a rs := fun hr => by
  obtain ⟨g, h1, h2⟩ := h hr
  refine ⟨g, h1, h2.row.same fun k => hm.far ⟨g, k, none⟩ (h2.row.lt (flR_ne hr)) (hd g (Or.inl ⟨hr, _, h1, rfl⟩)), fun i hi => ?_, h2.off, h2.dis⟩
  intro hne
  have h3 := h2.ks i hi
  obtain ⟨b, hb, hc⟩ := h3 hne
  refine ⟨b, hb, fun k hk => ?_⟩
  have hlt : b < w.heap.size := cellLt (hc k hk).1
  have hx := hm.far ⟨b, k, none⟩ hlt (hd b (Or.inr ⟨i, hi, hne, _, hb, rfl⟩))
  exact ⟨hx.1.trans (hc k hk).1, hx.2.trans (hc k hk).2⟩
theorem RtO.at {w : World} {a : Option Addr} {rs : List RoleV} (h : RtO w a rs) : RlsAt w a rs := fun i hi => by
  obtain ⟨g, h1, h2⟩ := h (fun e => by rw [e] at hi; exact absurd hi (Nat.not_lt_zero _))
  have := flR_get rs i hi
  refine ⟨g, 0, h1, ?_, ?_, (h2.ks i hi).ai⟩
  · rw [Nat.zero_add]; exact h2.row.cell this.1
  · rw [Nat.zero_add]; exact h2.row.cell this.2
theorem RtO.lt {w : World} {a : Option Addr} {rs : List RoleV} (h : RtO w a rs) : ∀ b, TR a rs b → b < w.heap.size := by
  rintro b (⟨h1, ad, h2, h3⟩ | ⟨i, hi, h1, ad, h2, h3⟩)
  · obtain ⟨g, e1, e2⟩ := h h1
    rw [e1] at h2
    injection h2 with h2
    subst h2
    have := e2.row.lt (flR_ne h1)
    simp only at h3
    omega
  · obtain ⟨g, e1, e2⟩ := h (fun e => by rw [e] at hi; exact absurd hi (Nat.not_lt_zero _))
    obtain ⟨b', hb, hc⟩ := e2.ks i hi h1
    rw [hb] at h2
    injection h2 with h2
    subst h2
    have hl : 0 < rs[i].ks.length := List.length_pos_iff.2 h1
    have := cellLt (hc 0 hl).1
    simp only at h3 this
    omega
theorem RtO.made {w0 w : World} {a : Option Addr} {rs : List RoleV} (h : RtO w a rs) (hlo : ∀ b, TR a rs b → w0.heap.size ≤ b) : Made w0 w (fun w2 => RtO w2 a rs) := fun w2 hw => h.far hw fun b hb hn => hn ⟨hlo b hb, h.lt b hb⟩
theorem tot_rkeys {rs rs' : List RoleV} (h : rkeys rs = rkeys rs') : tot rs = tot rs' := by
  induction rs generalizing rs' with
  | nil =>
    cases rs' with
    | nil => rfl
    | cons y ys => exact absurd (rkeys_len h) (by simp)
  | cons x xs ih =>
    cases rs' with
    | nil => exact absurd (rkeys_len h) (by simp)
    | cons y ys =>
      have h0 := (rkeys_get h (i := 0) (by simp) (by simp)).2
      simp only [List.getElem_cons_zero] at h0
      have ht : rkeys xs = rkeys ys := (List.cons.inj h).2
      show 1 + x.ks.length + tot xs = 1 + y.ks.length + tot ys
      rw [h0, ih ht]
theorem toRtM (v e : Int) (a : Option Addr) (c n : Nat) (rs : List RoleV) (w : World) (hn : rs.length = n) (h : RlsAt w a rs) (hb : n ≤ 1048576 ∧ ∀ r ∈ rs, r.ks.length ≤ 1048576) :
    Calls Tryz.prog 26 #[.agg #[.int .i64 v, .int .i64 e, .slice a n c]] w fun r w' => ∃ (g : Nat) (r2 : List RoleV), r = .returned (.agg #[.int .i64 v, .int .i64 e, .slice (some ⟨g, 0, none⟩) n n]) ∧ rkeys r2 = rkeys rs ∧ (∀ b, TR (some ⟨g, 0, none⟩) r2 b → w.heap.size ≤ b ∧ b < w'.heap.size) ∧ Made w w' (fun w2 => RtO w2 (some ⟨g, 0, none⟩) r2) ∧ Below w.heap.size w w' :=
  (toRtO v e a c n rs w hn h hb.1 hb.2).mono fun r w' ⟨g, r2, h1, h2, h3, h4, h5, h6⟩ => by
    have hr : RtO w' (some ⟨g, 0, none⟩) r2 := fun _ => ⟨g, rfl, h3⟩
    have hlo : ∀ b, TR (some ⟨g, 0, none⟩) r2 b → w.heap.size ≤ b := by
      rintro b (⟨_, ad, e1, e2⟩ | ⟨i, hi, _, ad, e1, e2⟩)
      · injection e1 with e1
        subst e1
        simp only at e2
        omega
      · obtain ⟨b', e3, e4⟩ := h5 _ (List.getElem_mem hi)
        rw [e3] at e1
        injection e1 with e1
        subst e1
        simp only at e2
        omega
    exact ⟨g, r2, h1, h2, fun b hb => ⟨hlo b hb, hr.lt b hb⟩, hr.made hlo, h6⟩
end Go.Proofs.YtdfglpbappeoaaaGreatDoor
namespace Go.Proofs.YtdfglpbappeoaaaGreatDoor
open Go.RowKit
set_option linter.unusedVariables false

set_option maxRecDepth 100000 in
set_option maxHeartbeats 8000000 in
theorem toTrM (rv re : Int) (rn : Nat) (t1 t2 t3 s1 s2 s3 gv ge : Int) (gn : Nat) (hs : Int) (hr : ByteArray) (ht : Int) (ra : Option Addr) (rc : Nat) (rs : List RoleV) (ga : Option Addr) (gc : Nat) (gs : List TarV) (w : World) (hW : TrW ⟨rv, re, rn, t1, t2, t3, s1, s2, s3, gv, ge, gn, hs, hr, ht⟩ rs gs) (hb : TrS ⟨rv, re, rn, t1, t2, t3, s1, s2, s3, gv, ge, gn, hs, hr, ht⟩ rs) (h1 : RlsAt w ra rs) (h2 : TgsAt w ga gs) :
    Calls Tryz.prog 8 #[.agg #[.int .i64 rv, .int .i64 re, .slice ra rn rc, .int .i64 t1, .int .i64 t2, .int .i64 t3, .int .i64 s1, .int .i64 s2, .int .i64 s3, .int .i64 gv, .int .i64 ge, .slice ga gn gc, .int .i64 hs, .string hr, .int .i64 ht]] w fun r w' => ∃ (g1 : Nat) (r1 : List RoleV) (g2 : Nat), r = .returned (.agg #[.int .i64 rv, .int .i64 re, .slice (some ⟨g1, 0, none⟩) rn rn, .int .i64 t1, .int .i64 t2, .int .i64 t3, .int .i64 s1, .int .i64 s2, .int .i64 s3, .int .i64 gv, .int .i64 ge, .slice (some ⟨g2, 0, none⟩) gn gn, .int .i64 hs, .string hr, .int .i64 ht]) ∧ rkeys r1 = rkeys rs ∧ (∀ b, TR (some ⟨g1, 0, none⟩) r1 b → w.heap.size ≤ b ∧ b < w'.heap.size ∧ b ≠ g2) ∧ (w.heap.size ≤ g2 ∧ g2 < w'.heap.size) ∧ Made w w' (fun w2 => RtO w2 (some ⟨g1, 0, none⟩) r1 ∧ RowV w2 g2 (tgL gs).flatten) ∧ Below w.heap.size w w' := by
  have hC1 : ∀ w0, (RlsAt w0 ra rs ∧ TgsAt w0 ga gs) → Calls Tryz.prog 26 #[.agg #[.int .i64 rv, .int .i64 re, .slice ra rn rc]] w0 fun r w' => ∃ (g1 : Nat) (r1 : List RoleV), r = .returned (.agg #[.int .i64 rv, .int .i64 re, .slice (some ⟨g1, 0, none⟩) rn rn]) ∧ rkeys r1 = rkeys rs ∧ (∀ b, TR (some ⟨g1, 0, none⟩) r1 b → w0.heap.size ≤ b ∧ b < w'.heap.size) ∧ Made w0 w' (fun w2 => RtO w2 (some ⟨g1, 0, none⟩) r1) ∧ Below w0.heap.size w0 w' := fun w0 n0 => toRtM rv re ra rc rn rs w0 hW.rn n0.1 hb.1
  have hC2 : ∀ w0, Calls Tryz.prog 27 #[.agg #[.int .i64 t1, .int .i64 t2, .int .i64 t3]] w0 fun r w' => r = .returned (.agg #[.int .i64 t1, .int .i64 t2, .int .i64 t3]) ∧ Below w0.heap.size w0 w' := fun w0 => toLk_any t1 t2 t3 w0
  have hC3 : ∀ w0, Calls Tryz.prog 27 #[.agg #[.int .i64 s1, .int .i64 s2, .int .i64 s3]] w0 fun r w' => r = .returned (.agg #[.int .i64 s1, .int .i64 s2, .int .i64 s3]) ∧ Below w0.heap.size w0 w' := fun w0 => toLk_any s1 s2 s3 w0
  have hC4 : ∀ w0, (RlsAt w0 ra rs ∧ TgsAt w0 ga gs) → Calls Tryz.prog 28 #[.agg #[.int .i64 gv, .int .i64 ge, .slice ga gn gc]] w0 fun r w' => ∃ (g2 : Nat), r = .returned (.agg #[.int .i64 gv, .int .i64 ge, .slice (some ⟨g2, 0, none⟩) gn gn]) ∧ (w0.heap.size ≤ g2 ∧ g2 < w'.heap.size) ∧ Made w0 w' (fun w2 => RowV w2 g2 (tgL gs).flatten) ∧ Below w0.heap.size w0 w' := fun w0 n0 => toTsM gv ge ga gc gn gs w0 hW.gn n0.2 hb.2
  have hC5 : ∀ w0, Calls Tryz.prog 29 #[.agg #[.int .i64 hs, .string hr, .int .i64 ht]] w0 fun r w' => r = .returned (.agg #[.int .i64 hs, .string hr, .int .i64 ht]) ∧ Below w0.heap.size w0 w' := fun w0 => toHd_any hs hr ht w0
  have HS0 : Hid (Sta [] w [] [⟨fun k => k < w.heap.size, fun w' => RlsAt w' ra rs ∧ TgsAt w' ga gs⟩] w) := Sta.arg (fun w' => RlsAt w' ra rs ∧ TgsAt w' ga gs) (fun w' hb => ⟨h1.below hb, TgsAt.below h2 hb⟩)
  clear hW hb h1 h2
  go_enter Tryz.func8, Tryz.ntmps8
  go_wp2_with (first
    | ((with_reducible refine wpList_boxV (w := w) (by with_unfolding_all rfl) 33 (.tmp 0) (by with_unfolding_all rfl) [.int .i64 rv, .int .i64 re, .slice ra rn rc, .int .i64 t1, .int .i64 t2, .int .i64 t3, .int .i64 s1, .int .i64 s2, .int .i64 s3, .int .i64 gv, .int .i64 ge, .slice ga gn gc, .int .i64 hs, .string hr, .int .i64 ht] (by with_unfolding_all rfl) ?_); intro w1 hA1 hB1 hS1; clear hS1; have HS1 := Sta.new HS0 hA1 hB1 (by simp); clear hA1 hB1)
    | ((with_reducible refine wpList_allocV (w := w1) (by with_unfolding_all rfl) 47 (by with_unfolding_all rfl) [.int .i64 0, .int .i64 0, .slice none 0 0, .int .i64 0, .int .i64 0, .int .i64 0, .int .i64 0, .int .i64 0, .int .i64 0, .int .i64 0, .int .i64 0, .slice none 0 0, .int .i64 0, .string ⟨#[]⟩, .int .i64 0] Tryz.zT_implTrust ?_); intro w2 hA2 hB2 hS2; clear hS2; have HS2 := Sta.new HS1 hA2 hB2 (by simp); clear hA2 hB2)
    | ((with_reducible refine wpList_allocV (w := w2) (by with_unfolding_all rfl) 47 (by with_unfolding_all rfl) [.int .i64 0, .int .i64 0, .slice none 0 0, .int .i64 0, .int .i64 0, .int .i64 0, .int .i64 0, .int .i64 0, .int .i64 0, .int .i64 0, .int .i64 0, .slice none 0 0, .int .i64 0, .string ⟨#[]⟩, .int .i64 0] Tryz.zT_implTrust ?_); intro w3 hA3 hB3 hS3; clear hS3; have HS3 := Sta.new HS2 hA3 hB3 (by simp); clear hA3 hB3)
    | ((with_reducible refine wpList_ldS (w := w3) (by with_unfolding_all rfl) 24 (.tmp 4) (by with_unfolding_all rfl) w.heap.size 0 [.int .i64 rv, .int .i64 re, .slice ra rn rc, .int .i64 t1, .int .i64 t2, .int .i64 t3, .int .i64 s1, .int .i64 s2, .int .i64 s3, .int .i64 gv, .int .i64 ge, .slice ga gn gc, .int .i64 hs, .string hr, .int .i64 ht] [.int .i64 rv, .int .i64 re, .slice ra rn rc] (by with_unfolding_all rfl) (Sta.r (i := 2) HS3 (by with_unfolding_all rfl)) Tryz.uT_lawsRoot 3 Tryz.sT_lawsRoot (by with_unfolding_all rfl) (by with_unfolding_all rfl) ?_))
    | (go_at_call 26; have n4_0 : RlsAt w3 ra rs ∧ TgsAt w3 ga gs := (Sta.t (i := 0) HS3 rfl :); (with_reducible refine (hC1 w3 n4_0).mono ?_); rintro r w4 ⟨g1, r1, rfl, k1, q1, hP4, hB4⟩; have Hk1 := hidP k1; clear k1; have Hq1 := hidP q1; clear q1; have HS4 := Sta.made HS3 hB4 hP4; clear hB4 hP4)
    | ((with_reducible refine wpList_subS (w := w4) (by with_unfolding_all rfl) 40 (.tmp 7) (.tmp 6) (by with_unfolding_all rfl) w2.heap.size 0 3 [.int .i64 0, .int .i64 0, .slice none 0 0, .int .i64 0, .int .i64 0, .int .i64 0, .int .i64 0, .int .i64 0, .int .i64 0, .int .i64 0, .int .i64 0, .slice none 0 0, .int .i64 0, .string ⟨#[]⟩, .int .i64 0] [.int .i64 rv, .int .i64 re, .slice (some ⟨g1, 0, none⟩) rn rn] [.int .i64 rv, .int .i64 re, .slice (some ⟨g1, 0, none⟩) rn rn, .int .i64 0, .int .i64 0, .int .i64 0, .int .i64 0, .int .i64 0, .int .i64 0, .int .i64 0, .int .i64 0, .slice none 0 0, .int .i64 0, .string ⟨#[]⟩, .int .i64 0] (by with_unfolding_all rfl) (by with_unfolding_all rfl) Tryz.sT_implRoot (by with_unfolding_all rfl) (by with_unfolding_all rfl) (Sta.r (i := 0) HS4 (by with_unfolding_all rfl)) (by simp) (by with_unfolding_all rfl) ?_); intro w5 hA5 hO5; have HS5 := Sta.put 0 HS4 rfl hA5 (by simp) hO5; clear hA5 hO5)
    | ((with_reducible refine wpList_ldS (w := w5) (by with_unfolding_all rfl) 26 (.tmp 8) (by with_unfolding_all rfl) w.heap.size 3 [.int .i64 rv, .int .i64 re, .slice ra rn rc, .int .i64 t1, .int .i64 t2, .int .i64 t3, .int .i64 s1, .int .i64 s2, .int .i64 s3, .int .i64 gv, .int .i64 ge, .slice ga gn gc, .int .i64 hs, .string hr, .int .i64 ht] [.int .i64 t1, .int .i64 t2, .int .i64 t3] (by with_unfolding_all rfl) (Sta.r (i := 2) HS5 (by with_unfolding_all rfl)) Tryz.uT_lawsLink 3 Tryz.sT_lawsLink (by with_unfolding_all rfl) (by with_unfolding_all rfl) ?_))
    | (go_at_call 27; (with_reducible refine (hC2 w5).mono ?_); rintro r w6 ⟨rfl, hB6⟩; have HS6 := Sta.call HS5 hB6; clear hB6)
    | ((with_reducible refine wpList_subS (w := w6) (by with_unfolding_all rfl) 41 (.tmp 11) (.tmp 10) (by with_unfolding_all rfl) w2.heap.size 3 3 [.int .i64 rv, .int .i64 re, .slice (some ⟨g1, 0, none⟩) rn rn, .int .i64 0, .int .i64 0, .int .i64 0, .int .i64 0, .int .i64 0, .int .i64 0, .int .i64 0, .int .i64 0, .slice none 0 0, .int .i64 0, .string ⟨#[]⟩, .int .i64 0] [.int .i64 t1, .int .i64 t2, .int .i64 t3] [.int .i64 rv, .int .i64 re, .slice (some ⟨g1, 0, none⟩) rn rn, .int .i64 t1, .int .i64 t2, .int .i64 t3, .int .i64 0, .int .i64 0, .int .i64 0, .int .i64 0, .int .i64 0, .slice none 0 0, .int .i64 0, .string ⟨#[]⟩, .int .i64 0] (by with_unfolding_all rfl) (by with_unfolding_all rfl) Tryz.sT_implLink (by with_unfolding_all rfl) (by with_unfolding_all rfl) (Sta.r (i := 0) HS6 (by with_unfolding_all rfl)) (by simp) (by with_unfolding_all rfl) ?_); intro w7 hA7 hO7; have HS7 := Sta.put 0 HS6 rfl hA7 (by simp) hO7; clear hA7 hO7)
    | ((with_reducible refine wpList_ldS (w := w7) (by with_unfolding_all rfl) 26 (.tmp 12) (by with_unfolding_all rfl) w.heap.size 6 [.int .i64 rv, .int .i64 re, .slice ra rn rc, .int .i64 t1, .int .i64 t2, .int .i64 t3, .int .i64 s1, .int .i64 s2, .int .i64 s3, .int .i64 gv, .int .i64 ge, .slice ga gn gc, .int .i64 hs, .string hr, .int .i64 ht] [.int .i64 s1, .int .i64 s2, .int .i64 s3] (by with_unfolding_all rfl) (Sta.r (i := 2) HS7 (by with_unfolding_all rfl)) Tryz.uT_lawsLink 3 Tryz.sT_lawsLink (by with_unfolding_all rfl) (by with_unfolding_all rfl) ?_))
    | (go_at_call 27; (with_reducible refine (hC3 w7).mono ?_); rintro r w8 ⟨rfl, hB8⟩; have HS8 := Sta.call HS7 hB8; clear hB8)
    | ((with_reducible refine wpList_subS (w := w8) (by with_unfolding_all rfl) 41 (.tmp 15) (.tmp 14) (by with_unfolding_all rfl) w2.heap.size 6 3 [.int .i64 rv, .int .i64 re, .slice (some ⟨g1, 0, none⟩) rn rn, .int .i64 t1, .int .i64 t2, .int .i64 t3, .int .i64 0, .int .i64 0, .int .i64 0, .int .i64 0, .int .i64 0, .slice none 0 0, .int .i64 0, .string ⟨#[]⟩, .int .i64 0] [.int .i64 s1, .int .i64 s2, .int .i64 s3] [.int .i64 rv, .int .i64 re, .slice (some ⟨g1, 0, none⟩) rn rn, .int .i64 t1, .int .i64 t2, .int .i64 t3, .int .i64 s1, .int .i64 s2, .int .i64 s3, .int .i64 0, .int .i64 0, .slice none 0 0, .int .i64 0, .string ⟨#[]⟩, .int .i64 0] (by with_unfolding_all rfl) (by with_unfolding_all rfl) Tryz.sT_implLink (by with_unfolding_all rfl) (by with_unfolding_all rfl) (Sta.r (i := 0) HS8 (by with_unfolding_all rfl)) (by simp) (by with_unfolding_all rfl) ?_); intro w9 hA9 hO9; have HS9 := Sta.put 0 HS8 rfl hA9 (by simp) hO9; clear hA9 hO9)
    | ((with_reducible refine wpList_ldS (w := w9) (by with_unfolding_all rfl) 29 (.tmp 16) (by with_unfolding_all rfl) w.heap.size 9 [.int .i64 rv, .int .i64 re, .slice ra rn rc, .int .i64 t1, .int .i64 t2, .int .i64 t3, .int .i64 s1, .int .i64 s2, .int .i64 s3, .int .i64 gv, .int .i64 ge, .slice ga gn gc, .int .i64 hs, .string hr, .int .i64 ht] [.int .i64 gv, .int .i64 ge, .slice ga gn gc] (by with_unfolding_all rfl) (Sta.r (i := 2) HS9 (by with_unfolding_all rfl)) Tryz.uT_lawsTargets 3 Tryz.sT_lawsTargets (by with_unfolding_all rfl) (by with_unfolding_all rfl) ?_))
    | (go_at_call 28; have n10_0 : RlsAt w9 ra rs ∧ TgsAt w9 ga gs := (Sta.t (i := 1) HS9 rfl :); (with_reducible refine (hC4 w9 n10_0).mono ?_); rintro r w10 ⟨g2, rfl, q2, hP10, hB10⟩; have Hq2 := hidP q2; clear q2; have HS10 := Sta.made HS9 hB10 hP10; clear hB10 hP10)
    | ((with_reducible refine wpList_subS (w := w10) (by with_unfolding_all rfl) 44 (.tmp 19) (.tmp 18) (by with_unfolding_all rfl) w2.heap.size 9 3 [.int .i64 rv, .int .i64 re, .slice (some ⟨g1, 0, none⟩) rn rn, .int .i64 t1, .int .i64 t2, .int .i64 t3, .int .i64 s1, .int .i64 s2, .int .i64 s3, .int .i64 0, .int .i64 0, .slice none 0 0, .int .i64 0, .string ⟨#[]⟩, .int .i64 0] [.int .i64 gv, .int .i64 ge, .slice (some ⟨g2, 0, none⟩) gn gn] [.int .i64 rv, .int .i64 re, .slice (some ⟨g1, 0, none⟩) rn rn, .int .i64 t1, .int .i64 t2, .int .i64 t3, .int .i64 s1, .int .i64 s2, .int .i64 s3, .int .i64 gv, .int .i64 ge, .slice (some ⟨g2, 0, none⟩) gn gn, .int .i64 0, .string ⟨#[]⟩, .int .i64 0] (by with_unfolding_all rfl) (by with_unfolding_all rfl) Tryz.sT_implTargets (by with_unfolding_all rfl) (by with_unfolding_all rfl) (Sta.r (i := 0) HS10 (by with_unfolding_all rfl)) (by simp) (by with_unfolding_all rfl) ?_); intro w11 hA11 hO11; have HS11 := Sta.put 0 HS10 rfl hA11 (by simp) hO11; clear hA11 hO11)
    | ((with_reducible refine wpList_ldS (w := w11) (by with_unfolding_all rfl) 31 (.tmp 20) (by with_unfolding_all rfl) w.heap.size 12 [.int .i64 rv, .int .i64 re, .slice ra rn rc, .int .i64 t1, .int .i64 t2, .int .i64 t3, .int .i64 s1, .int .i64 s2, .int .i64 s3, .int .i64 gv, .int .i64 ge, .slice ga gn gc, .int .i64 hs, .string hr, .int .i64 ht] [.int .i64 hs, .string hr, .int .i64 ht] (by with_unfolding_all rfl) (Sta.r (i := 2) HS11 (by with_unfolding_all rfl)) Tryz.uT_lawsHead 3 Tryz.sT_lawsHead (by with_unfolding_all rfl) (by with_unfolding_all rfl) ?_))
    | (go_at_call 29; (with_reducible refine (hC5 w11).mono ?_); rintro r w12 ⟨rfl, hB12⟩; have HS12 := Sta.call HS11 hB12; clear hB12)
    | ((with_reducible refine wpList_subS (w := w12) (by with_unfolding_all rfl) 45 (.tmp 23) (.tmp 22) (by with_unfolding_all rfl) w2.heap.size 12 3 [.int .i64 rv, .int .i64 re, .slice (some ⟨g1, 0, none⟩) rn rn, .int .i64 t1, .int .i64 t2, .int .i64 t3, .int .i64 s1, .int .i64 s2, .int .i64 s3, .int .i64 gv, .int .i64 ge, .slice (some ⟨g2, 0, none⟩) gn gn, .int .i64 0, .string ⟨#[]⟩, .int .i64 0] [.int .i64 hs, .string hr, .int .i64 ht] [.int .i64 rv, .int .i64 re, .slice (some ⟨g1, 0, none⟩) rn rn, .int .i64 t1, .int .i64 t2, .int .i64 t3, .int .i64 s1, .int .i64 s2, .int .i64 s3, .int .i64 gv, .int .i64 ge, .slice (some ⟨g2, 0, none⟩) gn gn, .int .i64 hs, .string hr, .int .i64 ht] (by with_unfolding_all rfl) (by with_unfolding_all rfl) Tryz.sT_implHead (by with_unfolding_all rfl) (by with_unfolding_all rfl) (Sta.r (i := 0) HS12 (by with_unfolding_all rfl)) (by simp) (by with_unfolding_all rfl) ?_); intro w13 hA13 hO13; have HS13 := Sta.put 0 HS12 rfl hA13 (by simp) hO13; clear hA13 hO13)
    | ((with_reducible refine wpList_loadV (w := w13) (by with_unfolding_all rfl) 47 (.tmp 3) (by with_unfolding_all rfl) w2.heap.size [.int .i64 rv, .int .i64 re, .slice (some ⟨g1, 0, none⟩) rn rn, .int .i64 t1, .int .i64 t2, .int .i64 t3, .int .i64 s1, .int .i64 s2, .int .i64 s3, .int .i64 gv, .int .i64 ge, .slice (some ⟨g2, 0, none⟩) gn gn, .int .i64 hs, .string hr, .int .i64 ht] (by with_unfolding_all rfl) (Sta.r (i := 0) HS13 (by with_unfolding_all rfl)) Tryz.uT_implTrust 15 Tryz.sT_implTrust (by with_unfolding_all rfl) ?_))
    | ((with_reducible refine wpList_storeS (w := w13) (by with_unfolding_all rfl) 47 (.tmp 2) (.tmp 24) (by with_unfolding_all rfl) w1.heap.size [.int .i64 0, .int .i64 0, .slice none 0 0, .int .i64 0, .int .i64 0, .int .i64 0, .int .i64 0, .int .i64 0, .int .i64 0, .int .i64 0, .int .i64 0, .slice none 0 0, .int .i64 0, .string ⟨#[]⟩, .int .i64 0] [.int .i64 rv, .int .i64 re, .slice (some ⟨g1, 0, none⟩) rn rn, .int .i64 t1, .int .i64 t2, .int .i64 t3, .int .i64 s1, .int .i64 s2, .int .i64 s3, .int .i64 gv, .int .i64 ge, .slice (some ⟨g2, 0, none⟩) gn gn, .int .i64 hs, .string hr, .int .i64 ht] (by with_unfolding_all rfl) (by with_unfolding_all rfl) (Sta.r (i := 1) HS13 (by with_unfolding_all rfl)) 15 Tryz.sT_implTrust (by with_unfolding_all rfl) (by with_unfolding_all rfl) (by with_unfolding_all rfl) ?_); intro w14 hA14 hO14; have HS14 := Sta.put 1 HS13 rfl hA14 (by simp) hO14; clear hA14 hO14))
  exact bodyPost_ret (results_V (t := 47) rfl _ w1.heap.size [.int .i64 rv, .int .i64 re, .slice (some ⟨g1, 0, none⟩) rn rn, .int .i64 t1, .int .i64 t2, .int .i64 t3, .int .i64 s1, .int .i64 s2, .int .i64 s3, .int .i64 gv, .int .i64 ge, .slice (some ⟨g2, 0, none⟩) gn gn, .int .i64 hs, .string hr, .int .i64 ht] rfl (Sta.r (i := 1) HS14 (by with_unfolding_all rfl)) Tryz.uT_implTrust 15 Tryz.sT_implTrust rfl) rfl ⟨g1, r1, g2, rfl, Hk1.out, fun b hb => ⟨Nat.le_trans (Sta.size HS3) (Hq1.out b hb).1, Sta.lt (i := 1) HS14 rfl b (Hq1.out b hb), fun e => Sta.apart (i := 0) (j := 1) HS14 rfl rfl (by decide) b (e ▸ Hq2.out) (Hq1.out b hb)⟩, ⟨Nat.le_trans (Sta.size HS9) Hq2.out.1, Sta.lt (i := 0) HS14 rfl g2 Hq2.out⟩, fun w2 hw => ⟨Sta.made_of (i := 1) HS14 rfl (fun k hk => Nat.le_trans (Sta.size HS3) hk.1) w2 hw, Sta.made_of (i := 0) HS14 rfl (fun k hk => Nat.le_trans (Sta.size HS9) hk.1) w2 hw⟩, Sta.fin HS14⟩
end Go.Proofs.YtdfglpbappeoaaaGreatDoor
