/- The specification's reader of a link. -/
import Derived.Test.YtdfglpbappeoaaaSpB
import Derived.Test.YtdfglpbappeoaaaJn3
namespace Go.Proofs.Ytdfglpbappeoaaa
open Go.RowKit
set_option linter.unusedVariables false

theorem Try.sizeSr : (Try.prog.info? 132).map (·.size) = some 3 := by kernel_rfl
/- A link whose bytes a text is. -/
def LinkOk (k : Int) (t : ByteArray) (v e x : Int) : Prop := ∃ y b1 b2 b3, kindB k = ⟨#[y]⟩ ∧ FirstB t y ∧ numO t 1 = some (v, b1) ∧ numO t b1 = some (e, b2) ∧ numO t b2 = some (x, b3) ∧ b3 = t.size ∧ linkB v e x = true
theorem kind_ways (k : Int) : kindB k = ⟨#[]⟩ ∨ ∃ y, kindB k = ⟨#[y]⟩ := by
  unfold kindB
  by_cases h2 : k = 2
  · rw [if_pos h2]; exact Or.inr ⟨_, rfl⟩
  · rw [if_neg h2]
    by_cases h3 : k = 3
    · rw [if_pos h3]; exact Or.inr ⟨_, rfl⟩
    · rw [if_neg h3]; exact Or.inl rfl
/- What the reader's steps say together. -/
structure LnR (k : Int) (t : ByteArray) (p1 : Nat) (d1 : Bool) (v : Int) (p2 : Nat) (d2 : Bool) (e : Int) (p3 : Nat) (d3 : Bool) (x : Int) (p4 : Nat) (d4 : Bool) : Prop where
  f : FstR t (kindB k) p1 d1
  a : NumR t p1 d1 v p2 d2
  b : NumR t p2 d2 e p3 d3
  c : NumR t p3 d3 x p4 d4
theorem LnR.yes {k : Int} {t : ByteArray} {p1 p2 p3 p4 : Nat} {d1 d2 d3 d4 : Bool} {v e x : Int} (h : LnR k t p1 d1 v p2 d2 e p3 d3 x p4 d4) (hd : doneB t p4 d4 = true) (hl : linkB v e x = true) : LinkOk k t v e x := by
  unfold doneB at hd
  rw [Bool.and_eq_true, decide_eq_true_eq] at hd
  obtain ⟨h4, hq⟩ := hd
  have h4' : d4 = false := by cases d4 with
    | true => cases h4
    | false => rfl
  rcases h.c.2 with ⟨c1, c2, -⟩ | ⟨-, c3⟩
  · rcases h.b.2 with ⟨b1, b2, -⟩ | ⟨-, b3⟩
    · rcases h.a.2 with ⟨a1, a2, -⟩ | ⟨-, a3⟩
      · rcases h.f.2 with ⟨y, f1, f2, f3, -⟩ | ⟨-, f4⟩
        · subst f3
          exact ⟨y, _, _, _, f1, f2, a2, b2, c2, hq, hl⟩
        · rw [a1] at f4; cases f4
      · rw [b1] at a3; cases a3
    · rw [c1] at b3; cases b3
  · rw [h4'] at c3; cases c3
theorem LnR.no {k : Int} {t : ByteArray} {p1 p2 p3 p4 : Nat} {d1 d2 d3 d4 : Bool} {v e x : Int} (h : LnR k t p1 d1 v p2 d2 e p3 d3 x p4 d4) (hn : ¬ (doneB t p4 d4 = true ∧ linkB v e x = true)) : ¬ ∃ v e x, LinkOk k t v e x := by
  rintro ⟨v', e', x', y, b1, b2, b3, k1, k2, k3, k4, k5, k6, k7⟩
  apply hn
  rcases h.f.2 with ⟨z, f1, f2, f3, f4⟩ | ⟨f5, -⟩
  · subst f3 f4
    rcases h.a.2 with ⟨-, a2, a3⟩ | ⟨a4, -⟩
    · rw [k3] at a2
      injection a2 with a2
      injection a2 with a5 a6
      subst a5 a6 a3
      rcases h.b.2 with ⟨-, b4, b5⟩ | ⟨b6, -⟩
      · rw [k4] at b4
        injection b4 with b4
        injection b4 with b7 b8
        subst b7 b8 b5
        rcases h.c.2 with ⟨-, c2, c3⟩ | ⟨c4, -⟩
        · rw [k5] at c2
          injection c2 with c2
          injection c2 with c5 c6
          subst c5 c6 c3
          exact ⟨by unfold doneB; rw [decide_eq_true k6]; rfl, k7⟩
        · rcases c4 with c4 | c4
          · cases c4
          · rw [k5] at c4; cases c4
      · rcases b6 with b6 | b6
        · cases b6
        · rw [k4] at b6; cases b6
    · rcases a4 with a4 | a4
      · cases a4
      · rw [k3] at a4; cases a4
  · exact absurd ⟨y, k1, k2⟩ f5
theorem no_kind {k : Int} {t : ByteArray} (h : kindB k = ⟨#[]⟩) : ¬ ∃ v e x, LinkOk k t v e x := by
  rintro ⟨_, _, _, y, _, _, _, k1, _⟩
  rw [h] at k1
  exact absurd (show (0 : Nat) = 1 from congrArg ByteArray.size k1) (by decide)
/- The rows of the call: its result, the reader, the link that is read. -/
structure Rk (k : Int) (w : World) (g G : Nat) (t : ByteArray) (p : Nat) (d : Bool) (v e x : Int) (w' : World) : Prop where
  bel : Below w.heap.size w w'
  res : RowV w' w.heap.size (lkv 0 0 0)
  cur : RowV w' g (srv t p d)
  var : RowV w' G (lkv v e x)
  l1 : w.heap.size < g
  l2 : g < G
theorem Rk.start {k : Int} {w w1 w2 w3 w4 : World} {t : ByteArray} (r : RowV w3 w.heap.size (lkv 0 0 0)) (c : RowV w3 w1.heap.size (srv t 0 false)) (a : RowV w4 w2.heap.size (lkv 0 0 0)) (z1 : w.heap.size < w1.heap.size) (z2 : w1.heap.size < w2.heap.size) (b : Below w.heap.size w w3) (o : Only w2.heap.size w3 w4) : Hid (Rk k w w1.heap.size w2.heap.size t 0 false 0 0 0 w4) :=
  ⟨b.trans (o.bel (by omega)), o.row r (lkv_ne _ _ _) (by omega), o.row c (srv_ne _ _ _) (by omega), a, z1, z2⟩
theorem Rk.read {k : Int} {w w' w2 : World} {g G p q : Nat} {d d' : Bool} {t : ByteArray} {v e x : Int} (h : Hid (Rk k w g G t p d v e x w')) (c : RowV w2 g (srv t q d')) (o : Only g w' w2) : Hid (Rk k w g G t q d' v e x w2) :=
  ⟨h.out.bel.trans (o.bel (Nat.le_of_lt h.out.l1)), o.row h.out.res (lkv_ne _ _ _) (Nat.ne_of_lt h.out.l1), c, o.row h.out.var (lkv_ne _ _ _) (Nat.ne_of_gt h.out.l2), h.out.l1, h.out.l2⟩
theorem Rk.put {k : Int} {w w' w2 : World} {g G p : Nat} {d : Bool} {t : ByteArray} {v e x v' e' x' : Int} (h : Hid (Rk k w g G t p d v e x w')) (c : RowV w2 G (lkv v' e' x')) (o : Only G w' w2) : Hid (Rk k w g G t p d v' e' x' w2) :=
  ⟨h.out.bel.trans (o.bel (Nat.le_of_lt (Nat.lt_trans h.out.l1 h.out.l2))), o.row h.out.res (lkv_ne _ _ _) (Nat.ne_of_lt (Nat.lt_trans h.out.l1 h.out.l2)), o.row h.out.cur (srv_ne _ _ _) (Nat.ne_of_lt h.out.l2), c, h.out.l1, h.out.l2⟩
theorem Rk.call {k : Int} {w w' w2 : World} {g G p : Nat} {d : Bool} {t : ByteArray} {v e x : Int} (h : Hid (Rk k w g G t p d v e x w')) (b : Below w'.heap.size w' w2) : Hid (Rk k w g G t p d v e x w2) :=
  ⟨h.out.bel.trans (b.mono h.out.bel.size), h.out.res.below b (h.out.res.lt (lkv_ne _ _ _)), h.out.cur.below b (h.out.cur.lt (srv_ne _ _ _)), h.out.var.below b (h.out.var.lt (lkv_ne _ _ _)), h.out.l1, h.out.l2⟩
theorem Rk.drew {k : Int} {w w' : World} {g G p : Nat} {d : Bool} {t : ByteArray} {v e x : Int} (h : Hid (Rk k w g G t p d v e x w')) : Hid (Rk k w g G t p d v e x w'.drew) := ⟨h.out.bel.drew, h.out.res.drew, h.out.cur.drew, h.out.var.drew, h.out.l1, h.out.l2⟩
theorem Rk.curH {k : Int} {w w' : World} {g G p : Nat} {d : Bool} {t : ByteArray} {v e x : Int} (h : Hid (Rk k w g G t p d v e x w')) : RowV w' g (srv t p d) := h.out.cur
theorem Rk.varH {k : Int} {w w' : World} {g G p : Nat} {d : Bool} {t : ByteArray} {v e x : Int} (h : Hid (Rk k w g G t p d v e x w')) : RowV w' G (lkv v e x) := h.out.var
theorem Rk.resH {k : Int} {w w' : World} {g G p : Nat} {d : Bool} {t : ByteArray} {v e x : Int} (h : Hid (Rk k w g G t p d v e x w')) : RowV w' w.heap.size (lkv 0 0 0) := h.out.res
theorem Rk.belH {k : Int} {w w' : World} {g G p : Nat} {d : Bool} {t : ByteArray} {v e x : Int} (h : Hid (Rk k w g G t p d v e x w')) : Below w.heap.size w w' := h.out.bel
theorem Rk.neH {k : Int} {w w' : World} {g G p : Nat} {d : Bool} {t : ByteArray} {v e x : Int} (h : Hid (Rk k w g G t p d v e x w')) : G ≠ w.heap.size := Nat.ne_of_gt (Nat.lt_trans h.out.l1 h.out.l2)
theorem fst_le {t m : ByteArray} {p : Nat} {d : Bool} (h : Hid (FstR t m p d)) : p ≤ t.size := h.out.1
theorem num_le {t : ByteArray} {p p' : Nat} {d d' : Bool} {n : Int} (h : Hid (NumR t p d n p' d')) : p' ≤ t.size := h.out.1
theorem results_VB {P : Program} {fn : Func} {a b : Tmp} {t : TypeId} {w : World} (h : fn.results = #[.cell a t, .tmp b]) (tmps : Array Value) (g : Nat) (l : List Value) (hx : tmps.getD a undef = .pointer (some ⟨g, 0, none⟩))
    (hl : RowV w g l) (hu : ∃ d, P.underlying t = some d ∧ d.isRow = true) (n : Nat) (hi : (P.info? t).map (·.size) = some n) (hn : l.length = n) (v : Value) (hx2 : tmps.getD b undef = v) :
    (results fn tmps).run P w = .ok (.tuple #[.agg l.toArray, v]) w := by
  obtain ⟨d, hd, hr⟩ := hu
  have := run_loadVar_mid (P := P) w g 0 t l d hl.rng hd hr (by rw [hn]; exact hi)
  rw [Array.getD_eq_getD_getElem?] at hx hx2
  simp [results, h, hx, hx2, asAddr, this]
end Go.Proofs.Ytdfglpbappeoaaa
