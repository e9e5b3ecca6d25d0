/- The specification's reader of a link. -/
import Derived.Test.YtnlalnkoggkdfaaSpB
import Derived.Test.YtnlalnkoggkdfaaRwL
namespace Go.Proofs.Ytnlalnkoggkdfaa
open Go.RowKit
set_option linter.unusedVariables false

theorem Try.sizeSr : (Try.prog.info? 174).map (·.size) = some 3 := by kernel_rfl
/- A link whose bytes a text is. -/
def LinkOk (k : Int) (t : ByteArray) (v e x : Int) : Prop := ∃ y b1 b2 b3, kindB k = ⟨#[y]⟩ ∧ FirstB t y ∧ numO t 1 = some (v, b1) ∧ numO t b1 = some (e, b2) ∧ numO t b2 = some (x, b3) ∧ b3 = t.size ∧ linkB v e x = true
theorem kind_ways (k : Int) : kindB k = ⟨#[]⟩ ∨ ∃ y, kindB k = ⟨#[y]⟩ := by
  unfold kindB
  by_cases h2 : k = 2
  · rw [if_pos h2]; exact Or.inr ⟨_, rfl⟩
  · rw [if_neg h2]
    by_cases h3 : k = 3
    · rw [if_pos h3]; exact Or.inr ⟨_, rfl⟩
    · rw [if_neg h3]; exact Or.inl rfl
/- What the reader's steps say together. -/
structure LnR (k : Int) (t : ByteArray) (p1 : Nat) (d1 : Bool) (v : Int) (p2 : Nat) (d2 : Bool) (e : Int) (p3 : Nat) (d3 : Bool) (x : Int) (p4 : Nat) (d4 : Bool) : Prop where
  f : FstR t (kindB k) p1 d1
  a : NumR t p1 d1 v p2 d2
  b : NumR t p2 d2 e p3 d3
  c : NumR t p3 d3 x p4 d4
theorem LnR.yes {k : Int} {t : ByteArray} {p1 p2 p3 p4 : Nat} {d1 d2 d3 d4 : Bool} {v e x : Int} (h : LnR k t p1 d1 v p2 d2 e p3 d3 x p4 d4) (hd : doneB t p4 d4 = true) (hl : linkB v e x = true) : LinkOk k t v e x := by
  unfold doneB at hd
  rw [Bool.and_eq_true, decide_eq_true_eq] at hd
  obtain ⟨h4, hq⟩ := hd
  have h4' : d4 = false := by cases d4 with
    | true => cases h4
    | false => rfl
  rcases h.c.2 with ⟨c1, c2, -⟩ | ⟨-, c3⟩
  · rcases h.b.2 with ⟨b1, b2, -⟩ | ⟨-, b3⟩
    · rcases h.a.2 with ⟨a1, a2, -⟩ | ⟨-, a3⟩
      · rcases h.f.2 with ⟨y, f1, f2, f3, -⟩ | ⟨-, f4⟩
        · subst f3
          exact ⟨y, _, _, _, f1, f2, a2, b2, c2, hq, hl⟩
        · rw [a1] at f4; cases f4
      · rw [b1] at a3; cases a3
    · rw [c1] at b3; cases b3
  · rw [h4'] at c3; cases c3
theorem LnR.no {k : Int} {t : ByteArray} {p1 p2 p3 p4 : Nat} {d1 d2 d3 d4 : Bool} {v e x : Int} (h : LnR k t p1 d1 v p2 d2 e p3 d3 x p4 d4) (hn : ¬ (doneB t p4 d4 = true ∧ linkB v e x = true)) : ¬ ∃ v e x, LinkOk k t v e x := by
  rintro ⟨v', e', x', y, b1, b2, b3, k1, k2, k3, k4, k5, k6, k7⟩
  apply hn
  rcases h.f.2 with ⟨z, f1, f2, f3, f4⟩ | ⟨f5, -⟩
  · subst f3 f4
    rcases h.a.2 with ⟨-, a2, a3⟩ | ⟨a4, -⟩
    · rw [k3] at a2
      injection a2 with a2
      injection a2 with a5 a6
      subst a5 a6 a3
      rcases h.b.2 with ⟨-, b4, b5⟩ | ⟨b6, -⟩
      · rw [k4] at b4
        injection b4 with b4
        injection b4 with b7 b8
        subst b7 b8 b5
        rcases h.c.2 with ⟨-, c2, c3⟩ | ⟨c4, -⟩
        · rw [k5] at c2
          injection c2 with c2
          injection c2 with c5 c6
          subst c5 c6 c3
          exact ⟨by unfold doneB; rw [decide_eq_true k6]; rfl, k7⟩
        · rcases c4 with c4 | c4
          · cases c4
          · rw [k5] at c4; cases c4
      · rcases b6 with b6 | b6
        · cases b6
        · rw [k4] at b6; cases b6
    · rcases a4 with a4 | a4
      · cases a4
      · rw [k3] at a4; cases a4
  · exact absurd ⟨y, k1, k2⟩ f5
theorem no_kind {k : Int} {t : ByteArray} (h : kindB k = ⟨#[]⟩) : ¬ ∃ v e x, LinkOk k t v e x := by
  rintro ⟨_, _, _, y, _, _, _, k1, _⟩
  rw [h] at k1
  exact absurd (show (0 : Nat) = 1 from congrArg ByteArray.size k1) (by decide)
/- The rows of the call: its result, the reader, the link that is read. -/
structure Rk (k : Int) (w : World) (g G : Nat) (t : ByteArray) (p : Nat) (d : Bool) (v e x : Int) (w' : World) : Prop where
  bel : Below w.heap.size w w'
  res : RowV w' w.heap.size (lkv 0 0 0)
  cur : RowV w' g (srv t p d)
  var : RowV w' G (lkv v e x)
  l1 : w.heap.size < g
  l2 : g < G
theorem Rk.start {k : Int} {w w1 w2 w3 w4 : World} {t : ByteArray} (r : RowV w3 w.heap.size (lkv 0 0 0)) (c : RowV w3 w1.heap.size (srv t 0 false)) (a : RowV w4 w2.heap.size (lkv 0 0 0)) (z1 : w.heap.size < w1.heap.size) (z2 : w1.heap.size < w2.heap.size) (b : Below w.heap.size w w3) (o : Only w2.heap.size w3 w4) : Hid (Rk k w w1.heap.size w2.heap.size t 0 false 0 0 0 w4) :=
  ⟨b.trans (o.bel (by omega)), o.row r (lkv_ne _ _ _) (by omega), o.row c (srv_ne _ _ _) (by omega), a, z1, z2⟩
theorem Rk.read {k : Int} {w w' w2 : World} {g G p q : Nat} {d d' : Bool} {t : ByteArray} {v e x : Int} (h : Hid (Rk k w g G t p d v e x w')) (c : RowV w2 g (srv t q d')) (o : Only g w' w2) : Hid (Rk k w g G t q d' v e x w2) :=
  ⟨h.out.bel.trans (o.bel (Nat.le_of_lt h.out.l1)), o.row h.out.res (lkv_ne _ _ _) (Nat.ne_of_lt h.out.l1), c, o.row h.out.var (lkv_ne _ _ _) (Nat.ne_of_gt h.out.l2), h.out.l1, h.out.l2⟩
theorem Rk.put {k : Int} {w w' w2 : World} {g G p : Nat} {d : Bool} {t : ByteArray} {v e x v' e' x' : Int} (h : Hid (Rk k w g G t p d v e x w')) (c : RowV w2 G (lkv v' e' x')) (o : Only G w' w2) : Hid (Rk k w g G t p d v' e' x' w2) :=
  ⟨h.out.bel.trans (o.bel (Nat.le_of_lt (Nat.lt_trans h.out.l1 h.out.l2))), o.row h.out.res (lkv_ne _ _ _) (Nat.ne_of_lt (Nat.lt_trans h.out.l1 h.out.l2)), o.row h.out.cur (srv_ne _ _ _) (Nat.ne_of_lt h.out.l2), c, h.out.l1, h.out.l2⟩
theorem Rk.call {k : Int} {w w' w2 : World} {g G p : Nat} {d : Bool} {t : ByteArray} {v e x : Int} (h : Hid (Rk k w g G t p d v e x w')) (b : Below w'.heap.size w' w2) : Hid (Rk k w g G t p d v e x w2) :=
  ⟨h.out.bel.trans (b.mono h.out.bel.size), h.out.res.below b (h.out.res.lt (lkv_ne _ _ _)), h.out.cur.below b (h.out.cur.lt (srv_ne _ _ _)), h.out.var.below b (h.out.var.lt (lkv_ne _ _ _)), h.out.l1, h.out.l2⟩
theorem Rk.drew {k : Int} {w w' : World} {g G p : Nat} {d : Bool} {t : ByteArray} {v e x : Int} (h : Hid (Rk k w g G t p d v e x w')) : Hid (Rk k w g G t p d v e x w'.drew) := ⟨h.out.bel.drew, h.out.res.drew, h.out.cur.drew, h.out.var.drew, h.out.l1, h.out.l2⟩
theorem Rk.curH {k : Int} {w w' : World} {g G p : Nat} {d : Bool} {t : ByteArray} {v e x : Int} (h : Hid (Rk k w g G t p d v e x w')) : RowV w' g (srv t p d) := h.out.cur
theorem Rk.varH {k : Int} {w w' : World} {g G p : Nat} {d : Bool} {t : ByteArray} {v e x : Int} (h : Hid (Rk k w g G t p d v e x w')) : RowV w' G (lkv v e x) := h.out.var
theorem Rk.resH {k : Int} {w w' : World} {g G p : Nat} {d : Bool} {t : ByteArray} {v e x : Int} (h : Hid (Rk k w g G t p d v e x w')) : RowV w' w.heap.size (lkv 0 0 0) := h.out.res
theorem Rk.belH {k : Int} {w w' : World} {g G p : Nat} {d : Bool} {t : ByteArray} {v e x : Int} (h : Hid (Rk k w g G t p d v e x w')) : Below w.heap.size w w' := h.out.bel
theorem Rk.neH {k : Int} {w w' : World} {g G p : Nat} {d : Bool} {t : ByteArray} {v e x : Int} (h : Hid (Rk k w g G t p d v e x w')) : G ≠ w.heap.size := Nat.ne_of_gt (Nat.lt_trans h.out.l1 h.out.l2)
theorem hidP {P : Prop} (h : P) : Hid P := h
theorem fst_le {t m : ByteArray} {p : Nat} {d : Bool} (h : Hid (FstR t m p d)) : p ≤ t.size := h.out.1
theorem num_le {t : ByteArray} {p p' : Nat} {d d' : Bool} {n : Int} (h : Hid (NumR t p d n p' d')) : p' ≤ t.size := h.out.1
theorem results_VB {P : Program} {fn : Func} {a b : Tmp} {t : TypeId} {w : World} (h : fn.results = #[.cell a t, .tmp b]) (tmps : Array Value) (g : Nat) (l : List Value) (hx : tmps.getD a undef = .pointer (some ⟨g, 0, none⟩))
    (hl : RowV w g l) (hu : ∃ d, P.underlying t = some d ∧ d.isRow = true) (n : Nat) (hi : (P.info? t).map (·.size) = some n) (hn : l.length = n) (v : Value) (hx2 : tmps.getD b undef = v) :
    (results fn tmps).run P w = .ok (.tuple #[.agg l.toArray, v]) w := by
  obtain ⟨d, hd, hr⟩ := hu
  have := run_loadVar_mid (P := P) w g 0 t l d hl.rng hd hr (by rw [hn]; exact hi)
  rw [Array.getD_eq_getD_getElem?] at hx hx2
  simp [results, h, hx, hx2, asAddr, this]
set_option maxRecDepth 100000 in
set_option maxHeartbeats 4000000 in
theorem spLink (k : Int) (t : ByteArray) (w : World) (hs : t.size ≤ maxLen) :
    Calls Try.prog 103 #[.int .i64 k, .string t] w fun r w' => ∃ v e x ok, r = .returned (.tuple #[.agg #[.int .i64 v, .int .i64 e, .int .i64 x], .bool ok]) ∧ ((ok = true ∧ LinkOk k t v e x) ∨ (ok = false ∧ ¬ ∃ v e x, LinkOk k t v e x)) ∧ Below w.heap.size w w' := by
  have hK : ∀ w0, Calls Try.prog 75 #[.int .i64 k] w0 fun e w' => e = .returned (.string (kindB k)) ∧ w0 = w' := fun w0 => specKind k w0
  have HW := kind_ways k
  have HW2 : Hid (kindB k = ⟨#[]⟩ ∨ ∃ y, kindB k = ⟨#[y]⟩) := HW
  clear HW
  obtain ⟨M, hM⟩ : ∃ M, kindB k = M := ⟨_, rfl⟩
  have HM : Hid (kindB k = M) := hM
  rw [hM] at hK HW2
  clear hM
  have hs' : Hid (t.size ≤ maxLen) := hs
  clear hs
  go_enter Try.func103, Try.ntmps103
  go_wp2_with (first
    | (with_reducible refine wpList_allocV (w := w) (by with_unfolding_all rfl) 49 (by with_unfolding_all rfl) (lkv 0 0 0) Try.infoLkz ?_; intro w1 hA1 hB1 hS1; have z1 : w.heap.size < w1.heap.size := (by omega); clear hS1)
    | (with_reducible refine wpList_boxV (w := w1) (by with_unfolding_all rfl) 174 (.tmp 9) (by with_unfolding_all rfl) (srv t 0 false) (by with_unfolding_all rfl) ?_; intro w2 hA2 hB2 hS2; have z2 : w1.heap.size < w2.heap.size := (by omega); clear hS2; have R2 := hA1.below hB2 z1)
    | (with_reducible refine wpList_allocV (w := w2) (by with_unfolding_all rfl) 49 (by with_unfolding_all rfl) (lkv 0 0 0) Try.infoLkz ?_; intro w3 hA3 hB3 hS3; have z3 : w2.heap.size < w3.heap.size := (by omega); clear hS3; have R3 := R2.below hB3 (Nat.lt_trans z1 z2); have C3 := hA2.below hB3 z2)
    | (with_reducible refine wpList_storeH (w := w3) (by with_unfolding_all rfl) 49 (.tmp 7) (.tmp 11) (by with_unfolding_all rfl) w2.heap.size (lkv 0 0 0) (lkv 0 0 0) (by with_unfolding_all rfl) (by with_unfolding_all rfl) hA3 3 Try.sizeLkI (by with_unfolding_all rfl) (by with_unfolding_all rfl) (lkv_one _ _ _) ?_; intro w4 hA4 hB4 hF4 hS4; have HR4 := Rk.start (k := k) R3 C3 hA4 z1 z2 (((hB1.trans (hB2.mono (Nat.le_of_lt z1))).trans (hB3.mono (Nat.le_of_lt (Nat.lt_trans z1 z2))))) (Only.set hB4 hF4 hS4))
    | (go_at_call 75; with_reducible refine (hK _).mono ?_; rintro r w' ⟨rfl, rfl⟩)
    | (go_at_call 134; refine (spFirst w1.heap.size t M w4 hs'.out (Rk.curH HR4)).mono ?_; rintro r w5 ⟨p1, d1, rfl, hf, hA5, hO5⟩; have HF1 := hidP hf; clear hf; have HR5 := Rk.read HR4 hA5 hO5)
    | (go_at_call 137; with_reducible refine (spNum w1.heap.size p1 t w5 hs'.out (fst_le HF1) d1 (Rk.curH HR5)).mono ?_; rintro r w6 ⟨v, p2, d2, rfl, hf, hA6, hO6⟩; have HN1 := hidP hf; clear hf; have HR6 := Rk.read HR5 hA6 hO6)
    | (with_reducible refine wpList_cellH (w := w6) (by with_unfolding_all rfl) 2 (.tmp 18) (.tmp 17) (by with_unfolding_all rfl) w2.heap.size 0 (lkv 0 0 0) (lkv v 0 0) (.int .i64 v) (by with_unfolding_all rfl) (by with_unfolding_all rfl) rfl Try.siz1I (Rk.varH HR6) (by simp [lkv]) (by with_unfolding_all rfl) ?_; intro w7 hA7 hB7 hF7 hS7; have HR7 := Rk.put HR6 hA7 (Only.set hB7 hF7 hS7))
    | (go_at_call 137; with_reducible refine (spNum w1.heap.size p2 t w7 hs'.out (num_le HN1) d2 (Rk.curH HR7)).mono ?_; rintro r w8 ⟨e, p3, d3, rfl, hf, hA8, hO8⟩; have HN2 := hidP hf; clear hf; have HR8 := Rk.read HR7 hA8 hO8)
    | (with_reducible refine wpList_cellH (w := w8) (by with_unfolding_all rfl) 2 (.tmp 21) (.tmp 20) (by with_unfolding_all rfl) w2.heap.size 1 (lkv v 0 0) (lkv v e 0) (.int .i64 e) (by with_unfolding_all rfl) (by with_unfolding_all rfl) rfl Try.siz1I (Rk.varH HR8) (by simp [lkv]) (by with_unfolding_all rfl) ?_; intro w9 hA9 hB9 hF9 hS9; have HR9 := Rk.put HR8 hA9 (Only.set hB9 hF9 hS9))
    | (go_at_call 137; with_reducible refine (spNum w1.heap.size p3 t w9 hs'.out (num_le HN2) d3 (Rk.curH HR9)).mono ?_; rintro r wa ⟨x, p4, d4, rfl, hf, hAa, hOa⟩; have HN3 := hidP hf; clear hf; have HRa := Rk.read HR9 hAa hOa)
    | (with_reducible refine wpList_cellH (w := wa) (by with_unfolding_all rfl) 2 (.tmp 24) (.tmp 23) (by with_unfolding_all rfl) w2.heap.size 2 (lkv v e 0) (lkv v e x) (.int .i64 x) (by with_unfolding_all rfl) (by with_unfolding_all rfl) rfl Try.siz1I (Rk.varH HRa) (by simp [lkv]) (by with_unfolding_all rfl) ?_; intro wb hAb hBb hFb hSb; have HRb := Rk.put HRa hAb (Only.set hBb hFb hSb)))
  have HLn : Hid (LnR k t p1 d1 v p2 d2 e p3 d3 x p4 d4) := ⟨by rw [HM.out]; exact HF1.out, HN1.out, HN2.out, HN3.out⟩
  have hp4 : p4 ≤ t.size := num_le HN3
  clear HR4 HR5 HR6 HR7 HR8 HR9 HRa HF1 HN1 HN2 HN3 hA1 hA2 hA3 hA4 hA5 hA6 hA7 hA8 hA9 hAa hAb hB1 hB2 hB3 hB4 hF4 hS4 hB7 hF7 hS7 hB9 hF9 hS9 hBb hFb hSb R2 R3 C3 hO5 hO6 hO8 hOa
  have HRc := Rk.drew HRb
  clear HRb
  have hD : ∀ w0, Hid (Rk k w w1.heap.size w2.heap.size t p4 d4 v e x w0) → Calls Try.prog 138 #[.pointer (some ⟨w1.heap.size, 0, none⟩)] w0 fun e w' => e = .returned (.bool (doneB t p4 d4)) ∧ Below w0.heap.size w0 w' := fun w0 h0 => spDone _ p4 t w0 hs'.out hp4 d4 (Rk.curH h0)
  have hL : ∀ w0, Calls Try.prog 76 #[.agg #[.int .i64 v, .int .i64 e, .int .i64 x]] w0 fun r w' => r = .returned (.bool (linkB v e x)) ∧ Below w0.heap.size w0 w' := fun w0 => specLink v e x w0
  rcases HW2.out with hk | ⟨y, hk⟩
  · as_aux_lemma =>
    rw [hk] at HM
    rw [hk] at hK
    have HNo : Hid (¬ ∃ v e x, LinkOk k t v e x) := no_kind HM.out
    clear hD hL HLn HW2 hk
    refine wp_region_held_drew (S := fun w' => (w'.cell? ⟨w2.heap.size, 0, none⟩ = some (.int .i64 v) ∧ w'.cell? ⟨w2.heap.size, 1, none⟩ = some (.int .i64 e) ∧ w'.cell? ⟨w2.heap.size, 2, none⟩ = some (.int .i64 x))) (by kernel_rfl) (Rk.varH HRc).lk (fun hHeld => ?_)
    refine wpAnyH_take (i := 0) (oi := ⟨_, _, _, _, _, _⟩) (v := .agg #[.int .i64 v, .int .i64 e, .int .i64 x]) rfl (by kernel_rfl) (by kernel_rfl) (by kernel_rfl) (fun _ _ _ h => h) (Or.inl ⟨wanted_free rfl, fun w' hSw => ?_⟩) hHeld ?_
    · obtain ⟨s0, s1, s2⟩ := hSw
      go_simp
    try simp only [Act.put, List.setIfInBounds_toArray, List.set_cons_zero, List.set_cons_succ]
    refine wpAnyH_take (i := 1) (oi := ⟨_, _, _, _, _, _⟩) (v := .int .i64 k) rfl (by kernel_rfl) (by kernel_rfl) (by kernel_rfl) (fun _ _ _ h => h) (Or.inl ⟨wanted_free rfl, fun w' hSw => ?_⟩) hHeld ?_
    · go_simp
    try simp only [Act.put, List.setIfInBounds_toArray, List.set_cons_zero, List.set_cons_succ]
    generalize wb.drew = wc at *
    refine wpAnyH_ready (rs := [2]) (by kernel_rfl) (by simp) (AllReadyH.cons (o := ⟨_, _, _, _, _, _⟩) rfl (fun K hK_ => ?_) AllReadyH.nil)
    rewrite [if_pos (wanted_free rfl)]
    go_simp
    refine (hK wc).mono ?_
    rintro r w' ⟨rfl, rfl⟩
    go_wp2_with fail
    refine hK_.out _ _ hHeld (fun _ => ?_)
    clear hK_ K
    try simp only [Act.put, List.setIfInBounds_toArray, List.set_cons_zero, List.set_cons_succ]
    refine wpAnyH_take (i := 3) (oi := ⟨_, _, _, _, _, _⟩) (v := .bool false) rfl (by kernel_rfl) (by kernel_rfl) (by kernel_rfl) (fun _ _ _ h => h) (Or.inl ⟨wanted_free rfl, fun w' hSw => ?_⟩) hHeld ?_
    · go_simp
    try simp only [Act.put, List.setIfInBounds_toArray, List.set_cons_zero, List.set_cons_succ]
    refine wpAnyH_take (i := 4) (oi := ⟨_, _, _, _, _, _⟩) (v := .bool false) rfl (by kernel_rfl) (by kernel_rfl) (by kernel_rfl) (fun _ _ _ h => h) (Or.inl ⟨wanted_free rfl, fun w' hSw => ?_⟩) hHeld ?_
    · go_simp
    try simp only [Act.put, List.setIfInBounds_toArray, List.set_cons_zero, List.set_cons_succ]
    refine wpAnyH_take (i := 5) (oi := ⟨_, _, _, _, _, _⟩) (v := undef) rfl (by kernel_rfl) (by kernel_rfl) (by kernel_rfl) (fun _ _ _ h => h) (Or.inr ⟨by with_unfolding_all rfl, rfl⟩) hHeld ?_
    try simp only [Act.put, List.setIfInBounds_toArray, List.set_cons_zero, List.set_cons_succ]
    refine wpAnyH_take (i := 6) (oi := ⟨_, _, _, _, _, _⟩) (v := undef) rfl (by kernel_rfl) (by kernel_rfl) (by kernel_rfl) (fun _ _ _ h => h) (Or.inr ⟨by with_unfolding_all rfl, rfl⟩) hHeld ?_
    try simp only [Act.put, List.setIfInBounds_toArray, List.set_cons_zero, List.set_cons_succ]
    refine wpAnyH_take (i := 7) (oi := ⟨_, _, _, _, _, _⟩) (v := .bool false) rfl (by kernel_rfl) (by kernel_rfl) (by kernel_rfl) (fun _ _ _ h => h) (Or.inl ⟨wanted_free rfl, fun w' hSw => ?_⟩) hHeld ?_
    · go_simp
    try simp only [Act.put, List.setIfInBounds_toArray, List.set_cons_zero, List.set_cons_succ]
    refine wpAnyH_take (i := 8) (oi := ⟨_, _, _, _, _, _⟩) (v := .bool false) rfl (by kernel_rfl) (by kernel_rfl) (by kernel_rfl) (fun _ _ _ h => h) (Or.inl ⟨wanted_free rfl, fun w' hSw => ?_⟩) hHeld ?_
    · go_simp
    try simp only [Act.put, List.setIfInBounds_toArray, List.set_cons_zero, List.set_cons_succ]
    refine wpAnyH_take (i := 9) (oi := ⟨_, _, _, _, _, _⟩) (v := undef) rfl (by kernel_rfl) (by kernel_rfl) (by kernel_rfl) (fun _ _ _ h => h) (Or.inr ⟨by with_unfolding_all rfl, rfl⟩) hHeld ?_
    try simp only [Act.put, List.setIfInBounds_toArray, List.set_cons_zero, List.set_cons_succ]
    refine wpAnyH_take (i := 10) (oi := ⟨_, _, _, _, _, _⟩) (v := undef) rfl (by kernel_rfl) (by kernel_rfl) (by kernel_rfl) (fun _ _ _ h => h) (Or.inr ⟨by with_unfolding_all rfl, rfl⟩) hHeld ?_
    try simp only [Act.put, List.setIfInBounds_toArray, List.set_cons_zero, List.set_cons_succ]
    refine wpAnyH_take (i := 11) (oi := ⟨_, _, _, _, _, _⟩) (v := .bool false) rfl (by kernel_rfl) (by kernel_rfl) (by kernel_rfl) (fun _ _ _ h => h) (Or.inl ⟨wanted_free rfl, fun w' hSw => ?_⟩) hHeld ?_
    · go_simp
    try simp only [Act.put, List.setIfInBounds_toArray, List.set_cons_zero, List.set_cons_succ]
    refine wpAnyH_ready (rs := [12]) (by kernel_rfl) (by simp) (AllReadyH.cons (o := ⟨_, _, _, _, _, _⟩) rfl (fun K hK_ => ?_) AllReadyH.nil)
    rewrite [if_pos (wanted_free rfl)]
    with_reducible refine wp_storeV 49 (.tmp 4) (.tmp 25) (by with_unfolding_all rfl) w.heap.size (lkv 0 0 0) (lkv v e x) (by with_unfolding_all rfl) (by with_unfolding_all rfl) (Rk.resH HRc) 3 Try.sizeLkI (by with_unfolding_all rfl) (by with_unfolding_all rfl) (lkv_one _ _ _) ?_
    intro wf hAf hOf
    have BF := (Rk.belH HRc).trans (hOf.bel (Nat.le_refl _))
    have SF := (hOf.row (Rk.varH HRc) (lkv_ne _ _ _) (Rk.neH HRc)).lk
    refine hK_.out _ _ SF (fun hHeld => ?_)
    clear hK_ K
    try simp only [Act.put]
    refine wpAnyH_ready (rs := [13]) (by kernel_rfl) (by simp) (AllReadyH.cons (o := ⟨_, _, _, _, _, _⟩) rfl (fun K hK_ => ?_) AllReadyH.nil)
    rewrite [if_pos (wanted_free rfl)]
    go_simp
    refine hK_.out _ _ hHeld (fun _ => ?_)
    clear hK_ K
    try simp only [Act.put, List.setIfInBounds_toArray, List.set_cons_zero, List.set_cons_succ]
    refine wpAnyH_done (by kernel_rfl) ?_ _
    go_wp2
    exact bodyPost_ret (results_VB (t := 49) rfl _ w.heap.size (lkv v e x) rfl hAf Try.undLkI 3 Try.sizeLkI rfl _ rfl) rfl ⟨v, e, x, false, rfl, Or.inr ⟨rfl, HNo.out⟩, BF⟩
  · as_aux_lemma =>
    have eK : (M.toList == (⟨#[]⟩ : ByteArray).toList) = false := by rw [hk]; exact mark_ne y
    have eK2 : M.toList.isEmpty = false := by rw [hk, ByteArray.toList_eq]; rfl
    clear HW2 hk
    cases hdn : doneB t p4 d4 with
    | false =>
      as_aux_lemma =>
      have HNo : Hid (¬ ∃ v e x, LinkOk k t v e x) := HLn.out.no (fun h => by rw [hdn] at h; cases h.1)
      rw [hdn] at hD
      clear hL HLn hdn
      refine wp_region_held_drew (S := fun w' => (w'.cell? ⟨w2.heap.size, 0, none⟩ = some (.int .i64 v) ∧ w'.cell? ⟨w2.heap.size, 1, none⟩ = some (.int .i64 e) ∧ w'.cell? ⟨w2.heap.size, 2, none⟩ = some (.int .i64 x))) (by kernel_rfl) (Rk.varH HRc).lk (fun hHeld => ?_)
      refine wpAnyH_take (i := 0) (oi := ⟨_, _, _, _, _, _⟩) (v := .agg #[.int .i64 v, .int .i64 e, .int .i64 x]) rfl (by kernel_rfl) (by kernel_rfl) (by kernel_rfl) (fun _ _ _ h => h) (Or.inl ⟨wanted_free rfl, fun w' hSw => ?_⟩) hHeld ?_
      · obtain ⟨s0, s1, s2⟩ := hSw
        go_simp
      try simp only [Act.put, List.setIfInBounds_toArray, List.set_cons_zero, List.set_cons_succ]
      refine wpAnyH_take (i := 1) (oi := ⟨_, _, _, _, _, _⟩) (v := .int .i64 k) rfl (by kernel_rfl) (by kernel_rfl) (by kernel_rfl) (fun _ _ _ h => h) (Or.inl ⟨wanted_free rfl, fun w' hSw => ?_⟩) hHeld ?_
      · go_simp
      try simp only [Act.put, List.setIfInBounds_toArray, List.set_cons_zero, List.set_cons_succ]
      generalize wb.drew = wc at *
      refine wpAnyH_ready (rs := [2]) (by kernel_rfl) (by simp) (AllReadyH.cons (o := ⟨_, _, _, _, _, _⟩) rfl (fun K hK_ => ?_) AllReadyH.nil)
      rewrite [if_pos (wanted_free rfl)]
      go_simp
      refine (hK wc).mono ?_
      rintro r w' ⟨rfl, rfl⟩
      go_wp2_with fail
      refine hK_.out _ _ hHeld (fun _ => ?_)
      clear hK_ K
      try simp only [Act.put, List.setIfInBounds_toArray, List.set_cons_zero, List.set_cons_succ]
      refine wpAnyH_take (i := 3) (oi := ⟨_, _, _, _, _, _⟩) (v := .bool true) rfl (by kernel_rfl) (by kernel_rfl) (by kernel_rfl) (fun _ _ _ h => h) (Or.inl ⟨wanted_free rfl, fun w' hSw => ?_⟩) hHeld ?_
      · go_simp
      try simp only [Act.put, List.setIfInBounds_toArray, List.set_cons_zero, List.set_cons_succ]
      refine wpAnyH_take (i := 4) (oi := ⟨_, _, _, _, _, _⟩) (v := .bool true) rfl (by kernel_rfl) (by kernel_rfl) (by kernel_rfl) (fun _ _ _ h => h) (Or.inl ⟨wanted_free rfl, fun w' hSw => ?_⟩) hHeld ?_
      · go_simp
      try simp only [Act.put, List.setIfInBounds_toArray, List.set_cons_zero, List.set_cons_succ]
      refine wpAnyH_take (i := 5) (oi := ⟨_, _, _, _, _, _⟩) (v := .pointer (some ⟨w1.heap.size, 0, none⟩)) rfl (by kernel_rfl) (by kernel_rfl) (by kernel_rfl) (fun _ _ _ h => h) (Or.inl ⟨by with_unfolding_all rfl, fun w' hSw => ?_⟩) hHeld ?_
      · go_simp
      try simp only [Act.put, List.setIfInBounds_toArray, List.set_cons_zero, List.set_cons_succ]
      refine wpAnyH_ready (rs := [6]) (by kernel_rfl) (by simp) (AllReadyH.cons (o := ⟨_, _, _, _, _, _⟩) rfl (fun K hK_ => ?_) AllReadyH.nil)
      rewrite [if_pos (by with_unfolding_all rfl)]
      go_simp
      refine (hD wc HRc).mono ?_
      rintro r wd ⟨rfl, hBd⟩
      have HRd := Rk.call HRc hBd
      go_wp2_with fail
      refine hK_.out _ _ (Rk.varH HRd).lk (fun hHeld => ?_)
      clear hK_ K
      try simp only [Act.put, List.setIfInBounds_toArray, List.set_cons_zero, List.set_cons_succ]
      refine wpAnyH_take (i := 7) (oi := ⟨_, _, _, _, _, _⟩) (v := .bool false) rfl (by kernel_rfl) (by kernel_rfl) (by kernel_rfl) (fun _ _ _ h => h) (Or.inl ⟨wanted_free rfl, fun w' hSw => ?_⟩) hHeld ?_
      · go_simp
      try simp only [Act.put, List.setIfInBounds_toArray, List.set_cons_zero, List.set_cons_succ]
      refine wpAnyH_take (i := 8) (oi := ⟨_, _, _, _, _, _⟩) (v := .bool false) rfl (by kernel_rfl) (by kernel_rfl) (by kernel_rfl) (fun _ _ _ h => h) (Or.inl ⟨wanted_free rfl, fun w' hSw => ?_⟩) hHeld ?_
      · go_simp
      try simp only [Act.put, List.setIfInBounds_toArray, List.set_cons_zero, List.set_cons_succ]
      refine wpAnyH_take (i := 9) (oi := ⟨_, _, _, _, _, _⟩) (v := undef) rfl (by kernel_rfl) (by kernel_rfl) (by kernel_rfl) (fun _ _ _ h => h) (Or.inr ⟨by with_unfolding_all rfl, rfl⟩) hHeld ?_
      try simp only [Act.put, List.setIfInBounds_toArray, List.set_cons_zero, List.set_cons_succ]
      refine wpAnyH_take (i := 10) (oi := ⟨_, _, _, _, _, _⟩) (v := undef) rfl (by kernel_rfl) (by kernel_rfl) (by kernel_rfl) (fun _ _ _ h => h) (Or.inr ⟨by with_unfolding_all rfl, rfl⟩) hHeld ?_
      try simp only [Act.put, List.setIfInBounds_toArray, List.set_cons_zero, List.set_cons_succ]
      refine wpAnyH_take (i := 11) (oi := ⟨_, _, _, _, _, _⟩) (v := .bool false) rfl (by kernel_rfl) (by kernel_rfl) (by kernel_rfl) (fun _ _ _ h => h) (Or.inl ⟨wanted_free rfl, fun w' hSw => ?_⟩) hHeld ?_
      · go_simp
      try simp only [Act.put, List.setIfInBounds_toArray, List.set_cons_zero, List.set_cons_succ]
      refine wpAnyH_ready (rs := [12]) (by kernel_rfl) (by simp) (AllReadyH.cons (o := ⟨_, _, _, _, _, _⟩) rfl (fun K hK_ => ?_) AllReadyH.nil)
      rewrite [if_pos (wanted_free rfl)]
      with_reducible refine wp_storeV 49 (.tmp 4) (.tmp 25) (by with_unfolding_all rfl) w.heap.size (lkv 0 0 0) (lkv v e x) (by with_unfolding_all rfl) (by with_unfolding_all rfl) (Rk.resH HRd) 3 Try.sizeLkI (by with_unfolding_all rfl) (by with_unfolding_all rfl) (lkv_one _ _ _) ?_
      intro wf hAf hOf
      have BF := (Rk.belH HRd).trans (hOf.bel (Nat.le_refl _))
      have SF := (hOf.row (Rk.varH HRd) (lkv_ne _ _ _) (Rk.neH HRd)).lk
      refine hK_.out _ _ SF (fun hHeld => ?_)
      clear hK_ K
      try simp only [Act.put]
      refine wpAnyH_ready (rs := [13]) (by kernel_rfl) (by simp) (AllReadyH.cons (o := ⟨_, _, _, _, _, _⟩) rfl (fun K hK_ => ?_) AllReadyH.nil)
      rewrite [if_pos (wanted_free rfl)]
      go_simp
      refine hK_.out _ _ hHeld (fun _ => ?_)
      clear hK_ K
      try simp only [Act.put, List.setIfInBounds_toArray, List.set_cons_zero, List.set_cons_succ]
      refine wpAnyH_done (by kernel_rfl) ?_ _
      go_wp2
      exact bodyPost_ret (results_VB (t := 49) rfl _ w.heap.size (lkv v e x) rfl hAf Try.undLkI 3 Try.sizeLkI rfl _ rfl) rfl ⟨v, e, x, false, rfl, Or.inr ⟨rfl, HNo.out⟩, BF⟩
    | true =>
      as_aux_lemma =>
      have HAn : Hid ((linkB v e x = true ∧ LinkOk k t v e x) ∨ (linkB v e x = false ∧ ¬ ∃ v e x, LinkOk k t v e x)) := by
        cases hl : linkB v e x with
        | true => exact Or.inl ⟨rfl, HLn.out.yes hdn hl⟩
        | false => exact Or.inr ⟨rfl, HLn.out.no (fun h => by rw [hl] at h; cases h.2)⟩
      rw [hdn] at hD
      obtain ⟨lb, hlb⟩ : ∃ lb, linkB v e x = lb := ⟨_, rfl⟩
      rw [hlb] at hL HAn
      clear HLn hdn hlb
      refine wp_region_held_drew (S := fun w' => (w'.cell? ⟨w2.heap.size, 0, none⟩ = some (.int .i64 v) ∧ w'.cell? ⟨w2.heap.size, 1, none⟩ = some (.int .i64 e) ∧ w'.cell? ⟨w2.heap.size, 2, none⟩ = some (.int .i64 x))) (by kernel_rfl) (Rk.varH HRc).lk (fun hHeld => ?_)
      refine wpAnyH_take (i := 0) (oi := ⟨_, _, _, _, _, _⟩) (v := .agg #[.int .i64 v, .int .i64 e, .int .i64 x]) rfl (by kernel_rfl) (by kernel_rfl) (by kernel_rfl) (fun _ _ _ h => h) (Or.inl ⟨wanted_free rfl, fun w' hSw => ?_⟩) hHeld ?_
      · obtain ⟨s0, s1, s2⟩ := hSw
        go_simp
      try simp only [Act.put, List.setIfInBounds_toArray, List.set_cons_zero, List.set_cons_succ]
      refine wpAnyH_take (i := 1) (oi := ⟨_, _, _, _, _, _⟩) (v := .int .i64 k) rfl (by kernel_rfl) (by kernel_rfl) (by kernel_rfl) (fun _ _ _ h => h) (Or.inl ⟨wanted_free rfl, fun w' hSw => ?_⟩) hHeld ?_
      · go_simp
      try simp only [Act.put, List.setIfInBounds_toArray, List.set_cons_zero, List.set_cons_succ]
      generalize wb.drew = wc at *
      refine wpAnyH_ready (rs := [2]) (by kernel_rfl) (by simp) (AllReadyH.cons (o := ⟨_, _, _, _, _, _⟩) rfl (fun K hK_ => ?_) AllReadyH.nil)
      rewrite [if_pos (wanted_free rfl)]
      go_simp
      refine (hK wc).mono ?_
      rintro r w' ⟨rfl, rfl⟩
      go_wp2_with fail
      refine hK_.out _ _ hHeld (fun _ => ?_)
      clear hK_ K
      try simp only [Act.put, List.setIfInBounds_toArray, List.set_cons_zero, List.set_cons_succ]
      refine wpAnyH_take (i := 3) (oi := ⟨_, _, _, _, _, _⟩) (v := .bool true) rfl (by kernel_rfl) (by kernel_rfl) (by kernel_rfl) (fun _ _ _ h => h) (Or.inl ⟨wanted_free rfl, fun w' hSw => ?_⟩) hHeld ?_
      · go_simp
      try simp only [Act.put, List.setIfInBounds_toArray, List.set_cons_zero, List.set_cons_succ]
      refine wpAnyH_take (i := 4) (oi := ⟨_, _, _, _, _, _⟩) (v := .bool true) rfl (by kernel_rfl) (by kernel_rfl) (by kernel_rfl) (fun _ _ _ h => h) (Or.inl ⟨wanted_free rfl, fun w' hSw => ?_⟩) hHeld ?_
      · go_simp
      try simp only [Act.put, List.setIfInBounds_toArray, List.set_cons_zero, List.set_cons_succ]
      refine wpAnyH_take (i := 5) (oi := ⟨_, _, _, _, _, _⟩) (v := .pointer (some ⟨w1.heap.size, 0, none⟩)) rfl (by kernel_rfl) (by kernel_rfl) (by kernel_rfl) (fun _ _ _ h => h) (Or.inl ⟨by with_unfolding_all rfl, fun w' hSw => ?_⟩) hHeld ?_
      · go_simp
      try simp only [Act.put, List.setIfInBounds_toArray, List.set_cons_zero, List.set_cons_succ]
      refine wpAnyH_ready (rs := [6]) (by kernel_rfl) (by simp) (AllReadyH.cons (o := ⟨_, _, _, _, _, _⟩) rfl (fun K hK_ => ?_) AllReadyH.nil)
      rewrite [if_pos (by with_unfolding_all rfl)]
      go_simp
      refine (hD wc HRc).mono ?_
      rintro r wd ⟨rfl, hBd⟩
      have HRd := Rk.call HRc hBd
      go_wp2_with fail
      refine hK_.out _ _ (Rk.varH HRd).lk (fun hHeld => ?_)
      clear hK_ K
      try simp only [Act.put, List.setIfInBounds_toArray, List.set_cons_zero, List.set_cons_succ]
      refine wpAnyH_take (i := 7) (oi := ⟨_, _, _, _, _, _⟩) (v := .bool true) rfl (by kernel_rfl) (by kernel_rfl) (by kernel_rfl) (fun _ _ _ h => h) (Or.inl ⟨wanted_free rfl, fun w' hSw => ?_⟩) hHeld ?_
      · go_simp
      try simp only [Act.put, List.setIfInBounds_toArray, List.set_cons_zero, List.set_cons_succ]
      refine wpAnyH_take (i := 8) (oi := ⟨_, _, _, _, _, _⟩) (v := .bool true) rfl (by kernel_rfl) (by kernel_rfl) (by kernel_rfl) (fun _ _ _ h => h) (Or.inl ⟨wanted_free rfl, fun w' hSw => ?_⟩) hHeld ?_
      · go_simp
      try simp only [Act.put, List.setIfInBounds_toArray, List.set_cons_zero, List.set_cons_succ]
      refine wpAnyH_take (i := 9) (oi := ⟨_, _, _, _, _, _⟩) (v := .agg #[.int .i64 v, .int .i64 e, .int .i64 x]) rfl (by kernel_rfl) (by kernel_rfl) (by kernel_rfl) (fun _ _ _ h => h) (Or.inl ⟨by with_unfolding_all rfl, fun w' hSw => ?_⟩) hHeld ?_
      · obtain ⟨s0, s1, s2⟩ := hSw
        go_simp
      try simp only [Act.put, List.setIfInBounds_toArray, List.set_cons_zero, List.set_cons_succ]
      refine wpAnyH_ready (rs := [10]) (by kernel_rfl) (by simp) (AllReadyH.cons (o := ⟨_, _, _, _, _, _⟩) rfl (fun K hK_ => ?_) AllReadyH.nil)
      rewrite [if_pos (by with_unfolding_all rfl)]
      go_simp
      refine (hL wd).mono ?_
      rintro r we ⟨rfl, hBe⟩
      have HRe := Rk.call HRd hBe
      go_wp2_with fail
      refine hK_.out _ _ (Rk.varH HRe).lk (fun hHeld => ?_)
      clear hK_ K
      try simp only [Act.put, List.setIfInBounds_toArray, List.set_cons_zero, List.set_cons_succ]
      refine wpAnyH_take (i := 11) (oi := ⟨_, _, _, _, _, _⟩) (v := .bool lb) rfl (by kernel_rfl) (by kernel_rfl) (by kernel_rfl) (fun _ _ _ h => h) (Or.inl ⟨wanted_free rfl, fun w' hSw => ?_⟩) hHeld ?_
      · go_simp
      try simp only [Act.put, List.setIfInBounds_toArray, List.set_cons_zero, List.set_cons_succ]
      refine wpAnyH_ready (rs := [12]) (by kernel_rfl) (by simp) (AllReadyH.cons (o := ⟨_, _, _, _, _, _⟩) rfl (fun K hK_ => ?_) AllReadyH.nil)
      rewrite [if_pos (wanted_free rfl)]
      with_reducible refine wp_storeV 49 (.tmp 4) (.tmp 25) (by with_unfolding_all rfl) w.heap.size (lkv 0 0 0) (lkv v e x) (by with_unfolding_all rfl) (by with_unfolding_all rfl) (Rk.resH HRe) 3 Try.sizeLkI (by with_unfolding_all rfl) (by with_unfolding_all rfl) (lkv_one _ _ _) ?_
      intro wf hAf hOf
      have BF := (Rk.belH HRe).trans (hOf.bel (Nat.le_refl _))
      have SF := (hOf.row (Rk.varH HRe) (lkv_ne _ _ _) (Rk.neH HRe)).lk
      refine hK_.out _ _ SF (fun hHeld => ?_)
      clear hK_ K
      try simp only [Act.put]
      refine wpAnyH_ready (rs := [13]) (by kernel_rfl) (by simp) (AllReadyH.cons (o := ⟨_, _, _, _, _, _⟩) rfl (fun K hK_ => ?_) AllReadyH.nil)
      rewrite [if_pos (wanted_free rfl)]
      go_simp
      refine hK_.out _ _ hHeld (fun _ => ?_)
      clear hK_ K
      try simp only [Act.put, List.setIfInBounds_toArray, List.set_cons_zero, List.set_cons_succ]
      refine wpAnyH_done (by kernel_rfl) ?_ _
      go_wp2
      exact bodyPost_ret (results_VB (t := 49) rfl _ w.heap.size (lkv v e x) rfl hAf Try.undLkI 3 Try.sizeLkI rfl _ rfl) rfl ⟨v, e, x, lb, rfl, HAn.out, BF⟩
end Go.Proofs.Ytnlalnkoggkdfaa
