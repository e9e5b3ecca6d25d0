/- Roots and trusts, marked and found marked. Roles of the call's own are roles each in a block of its own: what is marked of an answer. -/
import Derived.Test.YtdfglpbappeoaaaMkQ
import Derived.Test.YtdfglpbappeoaaaJn8
import Derived.Test.YtdfglpbappeoaaaTrA
import Derived.Test.YtdfglpbappeoaaaSta
import Derived.Test.YtdfglpbappeoaaaOwnR
namespace Go.Proofs.Ytdfglpbappeoaaa
open Go.RowKit
set_option linter.unusedVariables false

/- The blocks of roles and their keys; of a row. -/
def TR (a : Option Addr) (rs : List RoleV) (b : Nat) : Prop := (rs ≠ [] ∧ ∃ ad, a = some ad ∧ ad.block = b) ∨ ∃ i, ∃ h : i < rs.length, rs[i].ks ≠ [] ∧ ∃ ad, rs[i].ka = some ad ∧ ad.block = b
def TW (a : Option Addr) (b : Nat) : Prop := ∃ ad, a = some ad ∧ ad.block = b
def RtO (w : World) (a : Option Addr) (rs : List RoleV) : Prop := rs ≠ [] → ∃ g, a = some ⟨g, 0, none⟩ ∧ RlsO w g rs
theorem flR_ne {l : List RoleV} (h : l ≠ []) : (rlL l).flatten ≠ [] := fun e => by
  have := congrArg List.length e
  rw [flR_len] at this
  cases l with
  | nil => exact h rfl
  | cons x xs => simp at this
theorem RtO.below {w w' : World} {a : Option Addr} {rs : List RoleV} (h : RtO w a rs) (hb : Below w.heap.size w w') : RtO w' a rs := fun hr => by
  obtain ⟨g, h1, h2⟩ := h hr
  exact ⟨g, h1, h2.below hr hb⟩
theorem RtO.far {T : Nat → Prop} {w w' : World} {a : Option Addr} {rs : List RoleV} (h : RtO w a rs) (hm : Mrk T w w') (hd : ∀ b, TR a rs b → ¬ T b) : RtO w' a rs := fun hr => by
  obtain ⟨g, h1, h2⟩ := h hr
  refine ⟨g, h1, h2.row.same fun k => hm.far ⟨g, k, none⟩ (h2.row.lt (flR_ne hr)) (hd g (Or.inl ⟨hr, _, h1, rfl⟩)), fun i hi => ?_, h2.off, h2.dis⟩
  intro hne
  have h3 := h2.ks i hi
  obtain ⟨b, hb, hc⟩ := h3 hne
  refine ⟨b, hb, fun k hk => ?_⟩
  have hlt : b < w.heap.size := cellLt (hc k hk).1
  have hx := hm.far ⟨b, k, none⟩ hlt (hd b (Or.inr ⟨i, hi, hne, _, hb, rfl⟩))
  exact ⟨hx.1.trans (hc k hk).1, hx.2.trans (hc k hk).2⟩
theorem RtO.at {w : World} {a : Option Addr} {rs : List RoleV} (h : RtO w a rs) : RlsAt w a rs := fun i hi => by
  obtain ⟨g, h1, h2⟩ := h (fun e => by rw [e] at hi; exact absurd hi (Nat.not_lt_zero _))
  have := flR_get rs i hi
  refine ⟨g, 0, h1, ?_, ?_, (h2.ks i hi).ai⟩
  · rw [Nat.zero_add]; exact h2.row.cell this.1
  · rw [Nat.zero_add]; exact h2.row.cell this.2
theorem VR.far {T : Nat → Prop} {w w' : World} {a : Option Addr} {L : List Value} (h : VR w a L) (hm : Mrk T w w') (hd : ∀ b, TW a b → ¬ T b) : VR w' a L := fun hl => by
  obtain ⟨g, h1, h2⟩ := h hl
  exact ⟨g, h1, h2.same fun k => hm.far ⟨g, k, none⟩ (h2.lt hl) (hd g ⟨_, h1, rfl⟩)⟩
theorem mkW_mrk {a : Option Addr} {w w' : World} (h : MkW a w w') : Mrk (TW a) w w' :=
  ⟨fun x hx ht => same_far (h.far x.block hx (fun ad had e => ht ⟨ad, had, e.symm⟩)), fun B hB hk => h.below B hB (fun ad had => hk _ ⟨ad, had, rfl⟩), (h.below 0 (Nat.zero_le _) (fun _ _ => Nat.zero_le _)).size⟩
set_option maxRecDepth 100000 in
theorem markRls_any (a : Option Addr) (c n k0 : Nat) (rs : List RoleV) (w : World) (hn : rs.length = n) (h : RtO w a rs) (hT : k0 + tot rs ≤ 900000000) :
    Calls Try.prog 52 #[.slice a n c, .int .i64 (k0 : Int)] w fun e w' => e = .returned (.int .i64 ((k0 + tot rs : Nat) : Int)) ∧ RtO w' a (mrks (k0 : Int) rs) ∧ Mrk (TR a rs) w w' := by
  by_cases hr : rs = []
  · subst hr
    obtain rfl : n = 0 := by simpa using hn.symm
    show Calls Try.prog 52 #[.slice a 0 c, .int .i64 (k0 : Int)] w fun e w' => e = .returned (.int .i64 (k0 : Int)) ∧ RtO w' a [] ∧ Mrk (TR a []) w w'
    clear hn h
    go_enter Try.func52, Try.ntmps52
    go_wp2_with fail
    go_loopw [1, 5] (fun q i wr => q = .int .i64 (k0 : Int) ∧ i = .int .i64 0 ∧ w = wr) (fun _ _ _ => 0)
    case atStart => exact ⟨rfl, rfl, rfl⟩
    case round =>
      obtain ⟨rfl, rfl, rfl⟩ := hrel
      go_wp2
      go_ret
      exact ⟨rfl, fun h => absurd rfl h, Mrk.of (Below.refl _ _)⟩
  · obtain ⟨g, rfl, h2⟩ := h hr
    refine (markRls_some g c n rs (k0 : Int) w hn h2 (by omega) (by omega)).mono fun e w' ⟨e1, e2, e3⟩ => ?_
    refine ⟨by rw [e1, Int.natCast_add], fun _ => ⟨g, rfl, e2⟩, ⟨fun x hx ht => e3.far x (fun e => ht (Or.inl ⟨hr, _, rfl, e.symm⟩)) (fun i hi b hb1 hb2 e => ht (Or.inr ⟨i, hi, hb1, b, hb2, e.symm⟩)), fun B hB hb => e3.below B hB (hb g (Or.inl ⟨hr, _, rfl, rfl⟩)) (fun i hi b hb1 hb2 => hb _ (Or.inr ⟨i, hi, hb1, b, hb2, rfl⟩)), Nat.le_of_eq e3.size.symm⟩⟩
set_option maxRecDepth 100000 in
theorem heldRls_any (a : Option Addr) (c n k0 : Nat) (rs : List RoleV) (w : World) (hn : rs.length = n) (h : RtO w a (mrks (k0 : Int) rs)) (hT : k0 + tot rs ≤ 900000000) :
    Calls Try.prog 68 #[.slice a n c, .int .i64 (k0 : Int)] w fun e w' => e = .returned (.int .i64 ((k0 + tot rs : Nat) : Int)) ∧ Below w.heap.size w w' := by
  by_cases hr : rs = []
  · subst hr
    obtain rfl : n = 0 := by simpa using hn.symm
    show Calls Try.prog 68 #[.slice a 0 c, .int .i64 (k0 : Int)] w fun e w' => e = .returned (.int .i64 (k0 : Int)) ∧ Below w.heap.size w w'
    clear hn h
    go_enter Try.func68, Try.ntmps68
    go_wp2_with fail
    go_loopw [1, 5] (fun q i wr => q = .int .i64 (k0 : Int) ∧ i = .int .i64 0 ∧ w = wr) (fun _ _ _ => 0)
    case atStart => exact ⟨rfl, rfl, rfl⟩
    case round =>
      obtain ⟨rfl, rfl, rfl⟩ := hrel
      go_wp2
      go_ret
      exact ⟨rfl, Below.refl _ _⟩
  · obtain ⟨g, rfl, h2⟩ := h (fun e => hr (by have := congrArg List.length e; rw [mrks_len] at this; exact List.eq_nil_of_length_eq_zero this))
    exact (heldRls_some g c n rs (k0 : Int) w hn h2 (by omega) (by omega)).mono fun e w' ⟨e1, e2⟩ => ⟨by rw [e1, Int.natCast_add], e2⟩
set_option maxRecDepth 100000 in
theorem markRt_any (v e : Int) (a : Option Addr) (c n k0 : Nat) (rs : List RoleV) (w : World) (hn : rs.length = n) (h : RtO w a rs) (hT : k0 + tot rs ≤ 900000000) :
    Calls Try.prog 16 #[.agg #[.int .i64 v, .int .i64 e, .slice a n c], .int .i64 (k0 : Int)] w fun r w' => r = .returned (.int .i64 ((k0 + tot rs : Nat) : Int)) ∧ RtO w' a (mrks (k0 : Int) rs) ∧ Mrk (TR a rs) w w' := by
  have hM : ∀ w0, RtO w0 a rs → Calls Try.prog 52 #[.slice a n c, .int .i64 (k0 : Int)] w0 fun r w' => r = .returned (.int .i64 ((k0 + tot rs : Nat) : Int)) ∧ RtO w' a (mrks (k0 : Int) rs) ∧ Mrk (TR a rs) w0 w' := fun w0 h0 => markRls_any a c n k0 rs w0 hn h0 hT
  have HI : Hid (RtO w a rs) := h
  generalize ((k0 + tot rs : Nat) : Int) = R at *
  clear h hn
  go_enter Try.func16, Try.ntmps16
  go_wp2_with (first
    | (with_reducible refine wpList_boxV (w := w) (by with_unfolding_all rfl) 28 (.tmp 0) (by with_unfolding_all rfl) (rtv v e a n c) (by with_unfolding_all rfl) ?_; intro w1 hA1 hB1 hS1; clear hS1; obtain ⟨p0, p1, p2⟩ := hA1.rt3; have HI1 := hidP (HI.out.below hB1))
    | (go_at_call 52; with_reducible refine (hM w1 HI1.out).mono ?_; rintro r w2 ⟨rfl, hI2, hW2⟩; have HI2 := hidP hI2; have HW2 := hidP hW2; clear hI2 hW2 p0 p1 p2))
  go_ret
  exact ⟨rfl, HI2.out, (Mrk.of hB1).trans HW2.out⟩
set_option maxRecDepth 100000 in
theorem heldRt_any (v e : Int) (a : Option Addr) (c n k0 : Nat) (rs : List RoleV) (w : World) (hn : rs.length = n) (h : RtO w a (mrks (k0 : Int) rs)) (hT : k0 + tot rs ≤ 900000000) :
    Calls Try.prog 26 #[.agg #[.int .i64 v, .int .i64 e, .slice a n c], .int .i64 (k0 : Int)] w fun r w' => r = .returned (.int .i64 ((k0 + tot rs : Nat) : Int)) ∧ Below w.heap.size w w' := by
  have hM : ∀ w0, RtO w0 a (mrks (k0 : Int) rs) → Calls Try.prog 68 #[.slice a n c, .int .i64 (k0 : Int)] w0 fun r w' => r = .returned (.int .i64 ((k0 + tot rs : Nat) : Int)) ∧ Below w0.heap.size w0 w' := fun w0 h0 => heldRls_any a c n k0 rs w0 hn h0 hT
  have HI : Hid (RtO w a (mrks (k0 : Int) rs)) := h
  have hR : 0 ≤ ((k0 + tot rs : Nat) : Int) := by omega
  generalize ((k0 + tot rs : Nat) : Int) = R at *
  clear h hn
  go_enter Try.func26, Try.ntmps26
  go_wp2_with (first
    | (with_reducible refine wpList_boxV (w := w) (by with_unfolding_all rfl) 28 (.tmp 0) (by with_unfolding_all rfl) (rtv v e a n c) (by with_unfolding_all rfl) ?_; intro w1 hA1 hB1 hS1; clear hS1; obtain ⟨p0, p1, p2⟩ := hA1.rt3; have HI1 := hidP (HI.out.below hB1))
    | (go_at_call 68; with_reducible refine (hM w1 HI1.out).mono ?_; rintro r w2 ⟨rfl, hB2⟩))
  go_ret
  exact ⟨rfl, hB1.trans (hB2.mono hB1.size)⟩
theorem newTR {w : World} {ra : Option Addr} {rs : List RoleV} (h : RtO w ra rs) : ¬ TR ra rs w.heap.size := by
  rintro (⟨h1, ad, h2, h3⟩ | ⟨i, hi, h1, ad, h2, h3⟩)
  · obtain ⟨g, e1, e2⟩ := h h1
    rw [e1] at h2
    injection h2 with h2
    subst h2
    have := e2.row.lt (flR_ne h1)
    simp only at h3
    omega
  · obtain ⟨g, e1, e2⟩ := h (fun e => by rw [e] at hi; exact absurd hi (Nat.not_lt_zero _))
    obtain ⟨b, hb, hc⟩ := e2.ks i hi h1
    rw [hb] at h2
    injection h2 with h2
    subst h2
    have hl : 0 < rs[i].ks.length := List.length_pos_iff.2 h1
    have := cellLt (hc 0 hl).1
    simp only at h3 this
    omega
theorem keepTr {T : Nat → Prop} {w1 w2 : World} {g : Nat} {l : List Value} (h : RowV w1 g l) (hm : Mrk T w1 w2) (hn : ¬ T g) (hl : l ≠ [] := by simp [trv]) : RowV w2 g l := h.same fun k => hm.far ⟨g, k, none⟩ (h.lt hl) hn
set_option maxRecDepth 100000 in
theorem markTs0_any (v e : Int) (a : Option Addr) (c n k0 : Nat) (L : List Value) (w : World) (hL : L.length = 3 * n) (h : VR w a L) (hm : n ≤ 1100000) (h0 : 1 ≤ k0) (h1 : k0 ≤ 900000000) :
    Calls Try.prog 53 #[.agg #[.int .i64 v, .int .i64 e, .slice a n c], .int .i64 (k0 : Int)] w fun r w' => r = .returned (.int .i64 ((k0 + 3 * n : Nat) : Int)) ∧ VR w' a (mkC k0 (3 * n)) ∧ Mrk (TW a) w w' := by
  have hM : ∀ w0, VR w0 a L → Calls Try.prog 102 #[.slice a n c, .int .i64 (k0 : Int)] w0 fun r w' => r = .returned (.int .i64 ((k0 + 3 * n : Nat) : Int)) ∧ VR w' a (mkC k0 (3 * n)) ∧ Mrk (TW a) w0 w' := fun w0 hh => (markTgS_any a c n k0 L w0 hL hh hm h0 h1).mono fun _ _ h => ⟨h.1, h.2.1, mkW_mrk h.2.2⟩
  have HI : Hid (VR w a L) := h
  generalize ((k0 + 3 * n : Nat) : Int) = R at *
  clear h hL
  go_enter Try.func53, Try.ntmps53
  go_wp2_with (first
    | (with_reducible refine wpList_boxV (w := w) (by with_unfolding_all rfl) 33 (.tmp 0) (by with_unfolding_all rfl) (rtv v e a n c) (by with_unfolding_all rfl) ?_; intro w1 hA1 hB1 hS1; clear hS1; obtain ⟨p0, p1, p2⟩ := hA1.rt3; have HI1 := hidP (HI.out.below hB1))
    | (go_at_call 102; with_reducible refine (hM w1 HI1.out).mono ?_; rintro r w2 ⟨rfl, hI2, hW2⟩; have HI2 := hidP hI2; have HW2 := hidP hW2; clear hI2 hW2 p0 p1 p2))
  go_ret
  exact ⟨rfl, HI2.out, (Mrk.of hB1).trans HW2.out⟩
set_option maxRecDepth 100000 in
theorem heldTs0_any (v e : Int) (a : Option Addr) (c n k0 : Nat) (w : World) (h : VR w a (mkC k0 (3 * n))) (hm : n ≤ 1100000) (h0 : 1 ≤ k0) (h1 : k0 ≤ 900000000) :
    Calls Try.prog 54 #[.agg #[.int .i64 v, .int .i64 e, .slice a n c], .int .i64 (k0 : Int)] w fun r w' => r = .returned (.int .i64 ((k0 + 3 * n : Nat) : Int)) ∧ Below w.heap.size w w' := by
  have hM : ∀ w0, VR w0 a (mkC k0 (3 * n)) → Calls Try.prog 103 #[.slice a n c, .int .i64 (k0 : Int)] w0 fun r w' => r = .returned (.int .i64 ((k0 + 3 * n : Nat) : Int)) ∧ Below w0.heap.size w0 w' := fun w0 hh => heldTgS_any a c n k0 w0 hh hm h0 h1
  have HI : Hid (VR w a (mkC k0 (3 * n))) := h
  have hR : 0 ≤ ((k0 + 3 * n : Nat) : Int) := by omega
  generalize ((k0 + 3 * n : Nat) : Int) = R at *
  clear h
  go_enter Try.func54, Try.ntmps54
  go_wp2_with (first
    | (with_reducible refine wpList_boxV (w := w) (by with_unfolding_all rfl) 33 (.tmp 0) (by with_unfolding_all rfl) (rtv v e a n c) (by with_unfolding_all rfl) ?_; intro w1 hA1 hB1 hS1; clear hS1; obtain ⟨p0, p1, p2⟩ := hA1.rt3; have HI1 := hidP (HI.out.below hB1))
    | (go_at_call 103; with_reducible refine (hM w1 HI1.out).mono ?_; rintro r w2 ⟨rfl, hB2⟩))
  go_ret
  exact ⟨rfl, hB1.trans (hB2.mono hB1.size)⟩
/- Of a trust: its roles' rows and its targets' row. -/
structure TrO (w : World) (ra : Option Addr) (rs : List RoleV) (ga : Option Addr) (L : List Value) : Prop where
  r : RtO w ra rs
  g : VR w ga L
def TT (ra : Option Addr) (rs : List RoleV) (ga : Option Addr) (b : Nat) : Prop := TR ra rs b ∨ TW ga b
theorem mrks_TR (k : Int) : ∀ (rs : List RoleV) (i : Nat) (h : i < (mrks k rs).length), ∃ h' : i < rs.length, (mrks k rs)[i].ka = rs[i].ka ∧ ((mrks k rs)[i].ks = [] ↔ rs[i].ks = []) := fun rs i h => by
  have h' : i < rs.length := by rw [mrks_len] at h; exact h
  refine ⟨h', ?_⟩
  rw [mrks_get k rs h' h]
  refine ⟨rfl, fun e => ?_, fun e => ?_⟩
  · have := congrArg List.length e
    change (cnt _ rs[i].ks.length).length = 0 at this
    rw [cnt_length] at this
    exact List.eq_nil_of_length_eq_zero this
  · show cnt _ rs[i].ks.length = []
    rw [e]
    rfl
theorem TR_mrks {k : Int} {ra : Option Addr} {rs : List RoleV} {b : Nat} (h : TR ra (mrks k rs) b) : TR ra rs b := by
  rcases h with ⟨h1, h2⟩ | ⟨i, hi, h1, ad, h2, h3⟩
  · exact Or.inl ⟨fun e => h1 (by rw [e]; rfl), h2⟩
  · obtain ⟨h', e1, e2⟩ := mrks_TR k rs i hi
    exact Or.inr ⟨i, h', fun e => h1 (e2.2 e), ad, e1 ▸ h2, h3⟩
set_option maxRecDepth 100000 in
set_option maxHeartbeats 4000000 in
theorem markTr_any (rv re : Int) (rn : Nat) (t1 t2 t3 s1 s2 s3 gv ge : Int) (gn : Nat) (hs : Int) (hr : ByteArray) (ht : Int) (ra : Option Addr) (rc k0 : Nat) (rs : List RoleV) (ga : Option Addr) (gc : Nat) (L : List Value) (w : World) (hn : rs.length = rn) (h : TrO w ra rs ga L) (hL : L.length = 3 * gn) (hd : ∀ b, TR ra rs b → ¬ TW ga b) (hgm : gn ≤ 1100000) (h0 : 1 ≤ k0) (h1 : k0 + tot rs ≤ 900000000) :
    Calls Try.prog 17 #[.agg #[.int .i64 rv, .int .i64 re, .slice ra rn rc, .int .i64 t1, .int .i64 t2, .int .i64 t3, .int .i64 s1, .int .i64 s2, .int .i64 s3, .int .i64 gv, .int .i64 ge, .slice ga gn gc, .int .i64 hs, .string hr, .int .i64 ht], .int .i64 (k0 : Int)] w fun r w' => r = .returned (.int .i64 ((k0 + tot rs + 3 * gn : Nat) : Int)) ∧ TrO w' ra (mrks (k0 : Int) rs) ga (mkC (k0 + tot rs) (3 * gn)) ∧ Mrk (TT ra rs ga) w w' := by
  have hR : ∀ w0, RtO w0 ra rs → Calls Try.prog 16 #[.agg #[.int .i64 rv, .int .i64 re, .slice ra rn rc], .int .i64 (k0 : Int)] w0 fun r w' => r = .returned (.int .i64 ((k0 + tot rs : Nat) : Int)) ∧ RtO w' ra (mrks (k0 : Int) rs) ∧ Mrk (TR ra rs) w0 w' := fun w0 hh => markRt_any rv re ra rc rn k0 rs w0 hn hh h1
  have hG : ∀ w0, VR w0 ga L → Calls Try.prog 53 #[.agg #[.int .i64 gv, .int .i64 ge, .slice ga gn gc], .int .i64 ((k0 + tot rs : Nat) : Int)] w0 fun r w' => r = .returned (.int .i64 ((k0 + tot rs + 3 * gn : Nat) : Int)) ∧ VR w' ga (mkC (k0 + tot rs) (3 * gn)) ∧ Mrk (TW ga) w0 w' := fun w0 hh => markTs0_any gv ge ga gc gn (k0 + tot rs) L w0 hL hh hgm (by omega) h1
  have HI : Hid (TrO w ra rs ga L) := h
  have HK : Hid (∀ w1 w2, RowV w1 w.heap.size (trv rv re ra rn rc t1 t2 t3 s1 s2 s3 gv ge ga gn gc hs hr ht) → Mrk (TR ra rs) w1 w2 → RowV w2 w.heap.size (trv rv re ra rn rc t1 t2 t3 s1 s2 s3 gv ge ga gn gc hs hr ht)) := fun w1 w2 x y => keepTr x y (newTR h.r) (by simp [trv])
  have HG : Hid (∀ w1 w2, VR w1 ga L → Mrk (TR ra rs) w1 w2 → VR w2 ga L) := fun w1 w2 x y => x.far y fun b p q => hd b q p
  have HR : Hid (∀ w1 w2, RtO w1 ra (mrks (k0 : Int) rs) → Mrk (TW ga) w1 w2 → RtO w2 ra (mrks (k0 : Int) rs)) := fun w1 w2 x y => x.far y fun b p q => hd b (TR_mrks p) q
  have HMR : Hid (∀ w1 w2, Mrk (TT ra rs ga) w w1 → Mrk (TR ra rs) w1 w2 → Mrk (TT ra rs ga) w w2) := fun w1 w2 x y => x.trans (y.mono fun b p => Or.inl p)
  have HMG : Hid (∀ w1 w2, Mrk (TT ra rs ga) w w1 → Mrk (TW ga) w1 w2 → Mrk (TT ra rs ga) w w2) := fun w1 w2 x y => x.trans (y.mono fun b p => Or.inr p)
  generalize ((k0 + tot rs + 3 * gn : Nat) : Int) = R2 at *
  generalize ((k0 + tot rs : Nat) : Int) = R1 at *
  clear h hn hL hd
  go_enter Try.func17, Try.ntmps17
  go_wp2_with (first
    | (with_reducible refine wpList_boxV (w := w) (by with_unfolding_all rfl) 37 (.tmp 0) (by with_unfolding_all rfl) (trv rv re ra rn rc t1 t2 t3 s1 s2 s3 gv ge ga gn gc hs hr ht) (by with_unfolding_all rfl) ?_; intro w1 hA1 hB1 hS1; have z1 : w.heap.size < w1.heap.size := (by omega); clear hS1; obtain ⟨p0, p1, p2, p3, p4, p5, p6, p7, p8, p9, p10, p11, p12, p13, p14⟩ := RowV.tr hA1; have HR1 := hidP (HI.out.r.below hB1); have HG1 := hidP (HI.out.g.below hB1); have HM1 := hidP (Mrk.of (T := TT ra rs ga) hB1))
    | (go_at_call 16; with_reducible refine (hR w1 HR1.out).mono ?_; rintro r w2 ⟨rfl, hI2, hW2⟩; have HR2 := hidP hI2; have HG2 := hidP (HG.out w1 w2 HG1.out hW2); have HM2 := hidP (HMR.out w1 w2 HM1.out hW2); have HV2 := hidP (HK.out w1 w2 hA1 hW2); clear hI2 hW2 p0 p1 p2 p3 p4 p5 p6 p7 p8 p9 p10 p11 p12 p13 p14; obtain ⟨p0, p1, p2, p3, p4, p5, p6, p7, p8, p9, p10, p11, p12, p13, p14⟩ := RowV.tr HV2.out)
    | (go_at_call 53; with_reducible refine (hG w2 HG2.out).mono ?_; rintro r w3 ⟨rfl, hI3, hW3⟩; have HG3 := hidP hI3; have HR3 := hidP (HR.out w2 w3 HR2.out hW3); have HM3 := hidP (HMG.out w2 w3 HM2.out hW3); clear hI3 hW3))
  go_ret
  exact ⟨rfl, ⟨HR3.out, HG3.out⟩, HM3.out⟩
set_option maxRecDepth 100000 in
set_option maxHeartbeats 4000000 in
theorem heldTr_any (rv re : Int) (rn : Nat) (t1 t2 t3 s1 s2 s3 gv ge : Int) (gn : Nat) (hs : Int) (hr : ByteArray) (ht : Int) (ra : Option Addr) (rc k0 : Nat) (rs : List RoleV) (ga : Option Addr) (gc : Nat) (w : World) (hn : rs.length = rn) (h : TrO w ra (mrks (k0 : Int) rs) ga (mkC (k0 + tot rs) (3 * gn))) (hgm : gn ≤ 1100000) (h0 : 1 ≤ k0) (h1 : k0 + tot rs ≤ 900000000) :
    Calls Try.prog 18 #[.agg #[.int .i64 rv, .int .i64 re, .slice ra rn rc, .int .i64 t1, .int .i64 t2, .int .i64 t3, .int .i64 s1, .int .i64 s2, .int .i64 s3, .int .i64 gv, .int .i64 ge, .slice ga gn gc, .int .i64 hs, .string hr, .int .i64 ht], .int .i64 (k0 : Int)] w fun r w' => r = .returned (.int .i64 ((k0 + tot rs + 3 * gn : Nat) : Int)) ∧ Below w.heap.size w w' := by
  have hR : ∀ w0, RtO w0 ra (mrks (k0 : Int) rs) → Calls Try.prog 26 #[.agg #[.int .i64 rv, .int .i64 re, .slice ra rn rc], .int .i64 (k0 : Int)] w0 fun r w' => r = .returned (.int .i64 ((k0 + tot rs : Nat) : Int)) ∧ Below w0.heap.size w0 w' := fun w0 hh => heldRt_any rv re ra rc rn k0 rs w0 hn hh h1
  have hG : ∀ w0, VR w0 ga (mkC (k0 + tot rs) (3 * gn)) → Calls Try.prog 54 #[.agg #[.int .i64 gv, .int .i64 ge, .slice ga gn gc], .int .i64 ((k0 + tot rs : Nat) : Int)] w0 fun r w' => r = .returned (.int .i64 ((k0 + tot rs + 3 * gn : Nat) : Int)) ∧ Below w0.heap.size w0 w' := fun w0 hh => heldTs0_any gv ge ga gc gn (k0 + tot rs) w0 hh hgm (by omega) h1
  have HI : Hid (TrO w ra (mrks (k0 : Int) rs) ga (mkC (k0 + tot rs) (3 * gn))) := h
  have g1 : 0 ≤ ((k0 + tot rs : Nat) : Int) := by omega
  have g2 : 0 ≤ ((k0 + tot rs + 3 * gn : Nat) : Int) := by omega
  generalize mkC (k0 + tot rs) (3 * gn) = L at *
  generalize ((k0 + tot rs + 3 * gn : Nat) : Int) = R2 at *
  generalize ((k0 + tot rs : Nat) : Int) = R1 at *
  clear h hn
  go_enter Try.func18, Try.ntmps18
  go_wp2_with (first
    | (with_reducible refine wpList_boxV (w := w) (by with_unfolding_all rfl) 37 (.tmp 0) (by with_unfolding_all rfl) (trv rv re ra rn rc t1 t2 t3 s1 s2 s3 gv ge ga gn gc hs hr ht) (by with_unfolding_all rfl) ?_; intro w1 hA1 hB1 hS1; have z1 : w.heap.size < w1.heap.size := (by omega); clear hS1; obtain ⟨p0, p1, p2, p3, p4, p5, p6, p7, p8, p9, p10, p11, p12, p13, p14⟩ := RowV.tr hA1; have HR1 := hidP (HI.out.r.below hB1); have HG1 := hidP (HI.out.g.below hB1); have HB1 := hidP hB1)
    | (go_at_call 26; with_reducible refine (hR w1 HR1.out).mono ?_; rintro r w2 ⟨rfl, hB2⟩; have HG2 := hidP (HG1.out.below hB2); have HV2 := hidP (hA1.below hB2 z1); have HB2 := hidP (HB1.out.trans (hB2.mono HB1.out.size)); clear hB2 p0 p1 p2 p3 p4 p5 p6 p7 p8 p9 p10 p11 p12 p13 p14; obtain ⟨p0, p1, p2, p3, p4, p5, p6, p7, p8, p9, p10, p11, p12, p13, p14⟩ := RowV.tr HV2.out)
    | (go_at_call 54; with_reducible refine (hG w2 HG2.out).mono ?_; rintro r w3 ⟨rfl, hB3⟩; have HB3 := hidP (HB2.out.trans (hB3.mono HB2.out.size)); clear hB3))
  go_ret
  exact ⟨rfl, HB3.out⟩
end Go.Proofs.Ytdfglpbappeoaaa

namespace Go.Proofs.Ytdfglpbappeoaaa
open Go.RowKit
set_option linter.unusedVariables false

theorem ownI_at {w : World} {base n c : Nat} {a : Option Addr} {l : List Int} (h : OwnI w base (.slice a n c) l) : IAt w a l := by
  obtain ⟨a', c', e, hi, hb⟩ := h.form
  injection e with e1 e2 e3
  subst e1
  exact hi
theorem OwR.rto {w : World} {B n c : Nat} {a : Option Addr} {ys : List RoleV} (h : OwR w B (.slice a n c) ys) : RtO w a ys := fun hr => by
  obtain ⟨a', c', e, hf⟩ := OwnRw.form h.own
  injection e with e1 e2 e3
  subst e1
  obtain ⟨g, e4, hrow, hb, ho⟩ := hf hr
  refine ⟨g, e4, hrow, fun i hi => ownI_at (h.ks i hi), fun i hi b hne hb2 e => ?_, fun i j hi hj b c' hij h1 h2 h3 h4 e => ?_⟩
  · exact h.off i hi g ho (by rw [hb2]; show some b.block = some g; rw [e])
  · exact h.dis i j hi hj b.block hij (by rw [h3]; rfl) (by rw [h4]; show some c'.block = _; rw [e])
/- The answer's blocks lie at the base or above it: an argument's blocks, older, are not among them. -/
theorem OwR.ge {w : World} {B n c : Nat} {a : Option Addr} {ys : List RoleV} (h : OwR w B (.slice a n c) ys) : ∀ b, TR a ys b → B ≤ b ∧ b < w.heap.size := by
  rintro b (⟨h1, ad, h2, h3⟩ | ⟨i, hi, h1, ad, h2, h3⟩)
  · subst h2
    exact own_ge h.own (k := b) (by show some ad.block = some b; rw [h3])
  · exact ownI_ge (h.ks i hi) (k := b) (by rw [h2]; show some ad.block = some b; rw [h3])
end Go.Proofs.Ytdfglpbappeoaaa
