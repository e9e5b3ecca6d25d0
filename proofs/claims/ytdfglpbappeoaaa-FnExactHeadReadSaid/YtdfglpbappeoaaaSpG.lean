/- The specification's reader of targets. -/
import Derived.Test.YtdfglpbappeoaaaSpT
import Derived.Test.YtdfglpbappeoaaaSpL
import Derived.Test.YtdfglpbappeoaaaRdT
import Derived.Test.YtdfglpbappeoaaaJn2
namespace Go.Proofs.Ytdfglpbappeoaaa
open Go.RowKit
set_option linter.unusedVariables false

def BytR (t : ByteArray) (p : Nat) (bad : Bool) (x : ByteArray) (p' : Nat) (bad' : Bool) : Prop := p' ≤ t.size ∧ ((bad = false ∧ bytesO t p 32 = some (x, p') ∧ bad' = false) ∨ ((bad = true ∨ bytesO t p 32 = none) ∧ bad' = true ∧ x = ⟨#[]⟩))
theorem spByt (g p : Nat) (t : ByteArray) (w : World) (hs : t.size ≤ maxLen) (hp : p ≤ t.size) (bad : Bool) (h : RowV w g (srv t p bad)) :
    Calls Try.prog 121 #[.pointer (some ⟨g, 0, none⟩), .int .i64 32] w fun e w' => ∃ x p' bad', e = .returned (.string x) ∧ BytR t p bad x p' bad' ∧ RowV w' g (srv t p' bad') ∧ Only g w w' := by
  by_cases hb : bad = true ∨ t.size < p + 32
  · refine (spBytesBad g p 32 t w hs hp (by omega) bad hb h).mono ?_
    rintro e w' ⟨rfl, h1, h2⟩
    refine ⟨⟨#[]⟩, p, true, rfl, ⟨hp, Or.inr ⟨hb.imp id (fun hh => ?_), rfl, rfl⟩⟩, h1, h2⟩
    unfold bytesO
    rw [if_neg (by omega)]
  · have hbf : bad = false := by
      cases bad with
      | false => rfl
      | true => exact absurd (Or.inl rfl) hb
    subst hbf
    have hq : p + 32 ≤ t.size := by
      by_cases h3 : t.size < p + 32
      · exact absurd (Or.inr h3) hb
      · omega
    refine (spBytesYes g p 32 (p + 32) t w hs rfl hq h).mono ?_
    rintro e w' ⟨rfl, h1, h2⟩
    exact ⟨_, p + 32, false, rfl, ⟨hq, Or.inl ⟨rfl, by unfold bytesO; rw [if_pos hq], rfl⟩⟩, h1, h2⟩
/- The text is that of targets just where what was read says so. -/
def OiT (t : ByteArray) (O : Option (Int × Int × List TarV × Nat)) : Prop := ∀ v e l, TargetsOk t v e l ↔ ∃ q, O = some (v, e, l, q) ∧ q = t.size
theorem ot_first {t : ByteArray} {p : Nat} {d : Bool} (h : FstR t ⟨#[84]⟩ p d) : (d = false ∧ p = 1 ∧ OiT t (targetsO t 1)) ∨ (d = true ∧ OiT t none) := by
  rcases h.2 with ⟨y, e1, e2, e3, e4⟩ | ⟨e1, e2⟩
  · have : y = 84 := by simpa using (congrArg (fun b : ByteArray => b.data.toList) e1).symm
    subst this
    exact Or.inl ⟨e4, e3, fun v e l => ⟨fun ⟨_, q, k1, k2⟩ => ⟨q, k1, k2⟩, fun ⟨q, k1, k2⟩ => ⟨e2, q, k1, k2⟩⟩⟩
  · exact Or.inr ⟨e2, fun v e l => ⟨fun ⟨k0, _⟩ => absurd ⟨84, rfl, k0⟩ e1, fun ⟨q, k1, _⟩ => by cases k1⟩⟩
def ot1 (t : ByteArray) (v : Int) (b1 : Nat) : Option (Int × Int × List TarV × Nat) := match numO t b1 with
  | none => none
  | some (e, b2) => match countO t b2 20 with
    | none => none
    | some (k, b3) => restT t v e [] k b3
def ot2 (t : ByteArray) (v e : Int) (b2 : Nat) : Option (Int × Int × List TarV × Nat) := match countO t b2 20 with
  | none => none
  | some (k, b3) => restT t v e [] k b3
theorem ot_num1 {t : ByteArray} {v : Int} {p p2 : Nat} {d d2 : Bool} (h : (d = false ∧ p = 1 ∧ OiT t (targetsO t 1)) ∨ (d = true ∧ OiT t none)) (h2 : NumR t p d v p2 d2) : (d2 = false ∧ OiT t (ot1 t v p2)) ∨ (d2 = true ∧ OiT t none) := by
  rcases h with ⟨rfl, rfl, e3⟩ | ⟨rfl, e2⟩
  · unfold targetsO at e3
    rcases h2.2 with ⟨_, k1, k2⟩ | ⟨k1, k2⟩
    · rw [k1] at e3
      exact Or.inl ⟨k2, e3⟩
    · rcases k1 with k1 | k1
      · cases k1
      · rw [k1] at e3
        exact Or.inr ⟨k2, e3⟩
  · rcases h2.2 with ⟨k1, _⟩ | ⟨_, k2⟩
    · cases k1
    · exact Or.inr ⟨k2, e2⟩
theorem ot_num2 {t : ByteArray} {v e : Int} {p p2 : Nat} {d d2 : Bool} (h : (d = false ∧ OiT t (ot1 t v p)) ∨ (d = true ∧ OiT t none)) (h2 : NumR t p d e p2 d2) : (d2 = false ∧ OiT t (ot2 t v e p2)) ∨ (d2 = true ∧ OiT t none) := by
  rcases h with ⟨rfl, e3⟩ | ⟨rfl, e2⟩
  · unfold ot1 at e3
    rcases h2.2 with ⟨_, k1, k2⟩ | ⟨k1, k2⟩
    · rw [k1] at e3
      exact Or.inl ⟨k2, e3⟩
    · rcases k1 with k1 | k1
      · cases k1
      · rw [k1] at e3
        exact Or.inr ⟨k2, e3⟩
  · rcases h2.2 with ⟨k1, _⟩ | ⟨_, k2⟩
    · cases k1
    · exact Or.inr ⟨k2, e2⟩
def LpT (t : ByteArray) (v e : Int) (l : List TarV) (m p : Nat) (d : Bool) : Prop := (d = false ∧ OiT t (restT t v e l m p) ∧ ∀ y ∈ l, y.w) ∨ (d = true ∧ OiT t none)
theorem ot_many {t : ByteArray} {v e : Int} {p k p2 : Nat} {d d2 : Bool} (h : (d = false ∧ OiT t (ot2 t v e p)) ∨ (d = true ∧ OiT t none)) (h2 : ManR t p d 20 k p2 d2) : LpT t v e [] k p2 d2 := by
  rcases h with ⟨rfl, e3⟩ | ⟨rfl, e2⟩
  · unfold ot2 at e3
    rcases h2.2.2 with ⟨_, k1, k2⟩ | ⟨k1, k2⟩
    · rw [k1] at e3
      exact Or.inl ⟨k2, e3, fun y hy => by cases hy⟩
    · rcases k1 with k1 | k1
      · cases k1
      · rw [k1] at e3
        exact Or.inr ⟨k2, e3⟩
  · rcases h2.2.2 with ⟨k1, _⟩ | ⟨_, k2⟩
    · cases k1
    · exact Or.inr ⟨k2, e2⟩
theorem ot_round {t : ByteArray} {v e : Int} {l : List TarV} {m p p1 p2 p3 : Nat} {d d1 d2 d3 : Bool} {a b : ByteArray} {c : Int} (hs : t.size ≤ maxLen) (h : LpT t v e l (m + 1) p d) (h1 : TxtR t p d a p1 d1) (h2 : BytR t p1 d1 b p2 d2) (h3 : NumR t p2 d2 c p3 d3) : LpT t v e (l ++ [⟨a, b, c⟩]) m p3 d3 := by
  have badN : ∀ {p q : Nat} {e : Bool} {n : Int}, NumR t p true n q e → e = true := fun h => by
    rcases h.2 with ⟨k, _⟩ | ⟨_, k⟩
    · cases k
    · exact k
  have badB : ∀ {p q : Nat} {e : Bool} {n : ByteArray}, BytR t p true n q e → e = true := fun h => by
    rcases h.2 with ⟨k, _⟩ | ⟨_, k, _⟩
    · cases k
    · exact k
  have badT : ∀ {p q : Nat} {e : Bool} {n : ByteArray}, TxtR t p true n q e → e = true := fun h => by
    rcases h.2 with ⟨k, _⟩ | ⟨_, k, _⟩
    · cases k
    · exact k
  rcases h with ⟨rfl, e2, e3⟩ | ⟨rfl, e2⟩
  · rcases h1.2 with ⟨_, k1, rfl⟩ | ⟨k1, rfl, _⟩
    · rcases h2.2 with ⟨_, k2, rfl⟩ | ⟨k2, rfl, _⟩
      · rcases h3.2 with ⟨_, k3, rfl⟩ | ⟨k3, rfl⟩
        · refine Or.inl ⟨rfl, by rw [restT_step k1 k2 k3] at e2; exact e2, fun y hy => ?_⟩
          rcases List.mem_append.1 hy with hy | hy
          · exact e3 y hy
          · obtain rfl := List.mem_singleton.1 hy
            exact tarW hs k1 k2 k3
        · rcases k3 with k3 | k3
          · cases k3
          · exact Or.inr ⟨rfl, by rw [restT_no3 k1 k2 k3] at e2; exact e2⟩
      · rcases k2 with k2 | k2
        · cases k2
        · exact Or.inr ⟨badN h3, by rw [restT_no2 k1 k2] at e2; exact e2⟩
    · rcases k1 with k1 | k1
      · cases k1
      · obtain rfl := badB h2
        exact Or.inr ⟨badN h3, by rw [restT_no1 k1] at e2; exact e2⟩
  · obtain rfl := badT h1
    obtain rfl := badB h2
    exact Or.inr ⟨badN h3, e2⟩
theorem ot_end {t : ByteArray} {v e : Int} {l : List TarV} {p : Nat} {d : Bool} (h : LpT t v e l 0 p d) : (doneB t p d = false → ¬ ∃ v e l, TargetsOk t v e l) ∧ (doneB t p d = true → (∀ y ∈ l, y.w) ∧ ((targetsB v e l = true ∧ TargetsOk t v e l) ∨ (targetsB v e l = false ∧ ¬ ∃ v e l, TargetsOk t v e l))) := by
  unfold doneB
  rcases h with ⟨rfl, e2, e3⟩ | ⟨rfl, e2⟩
  · rw [restT_end] at e2
    constructor
    · intro hd
      have hp : ¬ p = t.size := by simpa using hd
      rintro ⟨v', x', l', hh⟩
      obtain ⟨q, k1, k2⟩ := (e2 v' x' l').1 hh
      split at k1
      · injection k1 with k1
        injection k1 with _ k1
        injection k1 with _ k1
        injection k1 with _ k4
        exact hp (k4.trans k2)
      · cases k1
    · intro hd
      have hp : p = t.size := by simpa using hd
      refine ⟨e3, ?_⟩
      cases hb : targetsB v e l with
      | true => exact Or.inl ⟨rfl, (e2 v e l).2 ⟨p, by rw [hb]; rfl, hp⟩⟩
      | false =>
        refine Or.inr ⟨rfl, ?_⟩
        rintro ⟨v', x', l', hh⟩
        obtain ⟨q, k1, _⟩ := (e2 v' x' l').1 hh
        rw [hb] at k1
        cases k1
  · refine ⟨fun _ => ?_, fun hd => by cases hd⟩
    rintro ⟨v', x', l', hh⟩
    obtain ⟨q, k1, _⟩ := (e2 v' x' l').1 hh
    cases k1
/- The rows of the call. -/
structure KpSt (w4 : World) (B0 g G2 G5 : Nat) (t : ByteArray) (p : Nat) (d : Bool) (x y : Int) (v : Value) (l : List TarV) (w' : World) : Prop where
  bel : Below B0 w4 w'
  cur : RowV w' g (srv t p d)
  r2 : RowV w' G2 (rtv 0 0 none 0 0)
  r5 : RowV w' G5 (rtw x y v)
  own : OwnTg w' w4.heap.size v l
  sz : w4.heap.size ≤ w'.heap.size
  b2 : B0 ≤ G2
  bg : G2 < g
  b5 : g < G5
  b4 : G5 < w4.heap.size
theorem KpSt.same {w4 w' w2 : World} {B0 g G2 G5 p : Nat} {d : Bool} {t : ByteArray} {x y : Int} {v : Value} {l : List TarV} (h : KpSt w4 B0 g G2 G5 t p d x y v l w') (hb : Below B0 w' w2) (hk : ∀ k, k < w4.heap.size → B0 ≤ k → w2.heap[k]? = w'.heap[k]?) (ho : OwnTg w2 w4.heap.size v l) : KpSt w4 B0 g G2 G5 t p d x y v l w2 := by
  have := h.b2
  have := h.bg
  have := h.b5
  have := h.b4
  exact ⟨h.bel.trans hb, row_blk h.cur (hk g (by omega) (by omega)), row_blk h.r2 (hk G2 (by omega) (by omega)), row_blk h.r5 (hk G5 (by omega) (by omega)), ho, Nat.le_trans h.sz hb.size, h.b2, h.bg, h.b5, h.b4⟩
theorem KpSt.call {w4 w' w2 : World} {B0 g G2 G5 p : Nat} {d : Bool} {t : ByteArray} {x y : Int} {v : Value} {l : List TarV} (h : Hid (KpSt w4 B0 g G2 G5 t p d x y v l w')) (hb : Below w'.heap.size w' w2) : Hid (KpSt w4 B0 g G2 G5 t p d x y v l w2) := by
  have e1 := h.out.b2
  have e2 := h.out.bg
  have e3 := h.out.b5
  have e4 := h.out.b4
  have e5 := h.out.sz
  exact h.out.same (hb.mono (by omega)) (fun k hk _ => hb.block k (by omega)) (OwnTg.keep h.out.own hb)
theorem KpSt.drew {w4 w' : World} {B0 g G2 G5 p : Nat} {d : Bool} {t : ByteArray} {x y : Int} {v : Value} {l : List TarV} (h : Hid (KpSt w4 B0 g G2 G5 t p d x y v l w')) : Hid (KpSt w4 B0 g G2 G5 t p d x y v l w'.drew) := ⟨h.out.bel.drew, h.out.cur.drew, h.out.r2.drew, h.out.r5.drew, h.out.own, h.out.sz, h.out.b2, h.out.bg, h.out.b5, h.out.b4⟩
theorem KpSt.far {w4 w' w2 : World} {B0 g G2 G5 p G : Nat} {d : Bool} {t : ByteArray} {x y : Int} {v : Value} {l : List TarV} (h : Hid (KpSt w4 B0 g G2 G5 t p d x y v l w')) (ho : Only G w' w2) (hG : w4.heap.size ≤ G) (hv : ∀ k, v.ownBlock = some k → k ≠ G) : Hid (KpSt w4 B0 g G2 G5 t p d x y v l w2) := by
  have e1 := h.out.b2
  have e2 := h.out.bg
  have e3 := h.out.b5
  have e4 := h.out.b4
  have e5 := h.out.sz
  exact h.out.same (ho.bel (by omega)) (fun k hk _ => ho.blk k (by omega) (by omega)) (own_same h.out.own (fun k hk hl => ho.blk k (hv k hk) hl))
theorem KpSt.read {w4 w' w2 : World} {B0 g G2 G5 p q : Nat} {d d' : Bool} {t : ByteArray} {x y : Int} {v : Value} {l : List TarV} (h : Hid (KpSt w4 B0 g G2 G5 t p d x y v l w')) (hr : RowV w2 g (srv t q d')) (ho : Only g w' w2) : Hid (KpSt w4 B0 g G2 G5 t q d' x y v l w2) := by
  have e1 := h.out.b2
  have e2 := h.out.bg
  have e3 := h.out.b5
  have e4 := h.out.b4
  have e5 := h.out.sz
  exact ⟨h.out.bel.trans (ho.bel (by omega)), hr, ho.row h.out.r2 (rtv_nev) (by omega), ho.row h.out.r5 (rtw_ne _ _ _) (by omega), own_same h.out.own (fun k hk hl => ho.blk k (by have := (own_ge h.out.own hk).1; omega) hl), Nat.le_trans e5 ho.size, e1, e2, e3, e4⟩
theorem KpSt.body {w4 w' w2 : World} {B0 g G2 G5 p : Nat} {d : Bool} {t : ByteArray} {x y x2 y2 : Int} {v : Value} {l : List TarV} (h : Hid (KpSt w4 B0 g G2 G5 t p d x y v l w')) (hr : RowV w2 G5 (rtw x2 y2 v)) (ho : Only G5 w' w2) : Hid (KpSt w4 B0 g G2 G5 t p d x2 y2 v l w2) := by
  have e1 := h.out.b2
  have e2 := h.out.bg
  have e3 := h.out.b5
  have e4 := h.out.b4
  have e5 := h.out.sz
  exact ⟨h.out.bel.trans (ho.bel (by omega)), ho.row h.out.cur (srv_ne _ _ _) (by omega), ho.row h.out.r2 (rtv_nev) (by omega), hr, own_same h.out.own (fun k hk hl => ho.blk k (by have := (own_ge h.out.own hk).1; omega) hl), Nat.le_trans e5 ho.size, e1, e2, e3, e4⟩
theorem KpSt.old {w4 w' w2 : World} {B0 g G2 G5 p k : Nat} {d : Bool} {t : ByteArray} {x y : Int} {v : Value} {l : List TarV} (h : Hid (KpSt w4 B0 g G2 G5 t p d x y v l w')) (hg : w'.grownBy w2 v.ownBlock) (hk : k < w4.heap.size) : w2.heap[k]? = w'.heap[k]? := hg.block k (by have := h.out.sz; omega) (fun e => by have := (own_ge h.out.own e.symm).1; omega)
theorem KpSt.r5a {w4 w' w2 : World} {B0 g G2 G5 p : Nat} {d : Bool} {t : ByteArray} {x y : Int} {v : Value} {l : List TarV} (h : Hid (KpSt w4 B0 g G2 G5 t p d x y v l w')) (hg : w'.grownBy w2 v.ownBlock) : RowV w2 G5 (rtw x y v) := row_blk h.out.r5 (KpSt.old h hg h.out.b4)
theorem KpSt.app {w4 w' w2 w3 : World} {B0 g G2 G5 p : Nat} {d : Bool} {t : ByteArray} {x y : Int} {v v' : Value} {l l' : List TarV} (h : Hid (KpSt w4 B0 g G2 G5 t p d x y v l w')) (hg : w'.grownBy w2 v.ownBlock) (hw : OwnTg w2 w4.heap.size v' l') (hr : RowV w3 G5 (rtw x y v')) (ho : Only G5 w2 w3) : Hid (KpSt w4 B0 g G2 G5 t p d x y v' l' w3) := by
  have e1 := h.out.b2
  have e2 := h.out.bg
  have e3 := h.out.b5
  have e4 := h.out.b4
  have e5 := h.out.sz
  refine ⟨(h.out.bel.trans ⟨hg.os, hg.tape, hg.output, hg.size, fun k hk => KpSt.old h hg (by omega)⟩).trans (ho.bel (by omega)), ho.row (row_blk h.out.cur (KpSt.old h hg (by omega))) (srv_ne _ _ _) (by omega), ho.row (row_blk h.out.r2 (KpSt.old h hg (by omega))) (rtv_nev) (by omega), hr, own_same hw (fun k hk hl => ho.blk k (by have := (own_ge hw hk).1; omega) hl), Nat.le_trans (Nat.le_trans e5 hg.size) ho.size, e1, e2, e3, e4⟩
theorem KpSt.curH {w4 w' : World} {B0 g G2 G5 p : Nat} {d : Bool} {t : ByteArray} {x y : Int} {v : Value} {l : List TarV} (h : Hid (KpSt w4 B0 g G2 G5 t p d x y v l w')) : RowV w' g (srv t p d) := h.out.cur
theorem KpSt.r5H {w4 w' : World} {B0 g G2 G5 p : Nat} {d : Bool} {t : ByteArray} {x y : Int} {v : Value} {l : List TarV} (h : Hid (KpSt w4 B0 g G2 G5 t p d x y v l w')) : RowV w' G5 (rtw x y v) := h.out.r5
theorem KpSt.r2H {w4 w' : World} {B0 g G2 G5 p : Nat} {d : Bool} {t : ByteArray} {x y : Int} {v : Value} {l : List TarV} (h : Hid (KpSt w4 B0 g G2 G5 t p d x y v l w')) : RowV w' G2 (rtv 0 0 none 0 0) := h.out.r2
theorem KpSt.szH {w4 w' : World} {B0 g G2 G5 p : Nat} {d : Bool} {t : ByteArray} {x y : Int} {v : Value} {l : List TarV} (h : Hid (KpSt w4 B0 g G2 G5 t p d x y v l w')) : w4.heap.size ≤ w'.heap.size := h.out.sz
theorem KpSt.ownH {w4 w' : World} {B0 g G2 G5 p : Nat} {d : Bool} {t : ByteArray} {x y : Int} {v : Value} {l : List TarV} (h : Hid (KpSt w4 B0 g G2 G5 t p d x y v l w')) : OwnTg w' w4.heap.size v l := h.out.own
theorem KpSt.ob {w4 w' : World} {B0 g G2 G5 p : Nat} {d : Bool} {t : ByteArray} {x y : Int} {v : Value} {l : List TarV} (h : Hid (KpSt w4 B0 g G2 G5 t p d x y v l w')) : ∀ k, v.ownBlock = some k → k ≠ w'.heap.size := fun k hk => Nat.ne_of_lt (own_ge h.out.own hk).2
theorem KpSt.neg {w4 w' : World} {B0 g G2 G5 p k : Nat} {d : Bool} {t : ByteArray} {x y : Int} {v : Value} {l : List TarV} (h : Hid (KpSt w4 B0 g G2 G5 t p d x y v l w')) (hk : w4.heap.size ≤ k) : k ≠ g := by
  have := h.out.b5
  have := h.out.b4
  omega
theorem KpSt.cell {w4 w' : World} {B0 g G2 G5 p : Nat} {d : Bool} {t : ByteArray} {x y : Int} {v : Value} {l : List TarV} (h : Hid (KpSt w4 B0 g G2 G5 t p d x y v l w')) : w'.cell? ⟨G5, 0, none⟩ = some (.int .i64 x) ∧ w'.cell? ⟨G5, 1, none⟩ = some (.int .i64 y) ∧ w'.cell? ⟨G5, 2, none⟩ = some v := ⟨h.out.r5.cell (k := 0) rfl, h.out.r5.cell (k := 1) rfl, h.out.r5.cell (k := 2) rfl⟩
theorem KpSt.start {w w1 w2 w3 w4 : World} {t : ByteArray} (r : RowV w3 w.heap.size (rtv 0 0 none 0 0)) (c : RowV w3 w1.heap.size (srv t 0 false)) (a : RowV w4 w2.heap.size (rtv 0 0 none 0 0)) (z1 : w.heap.size < w1.heap.size) (z2 : w1.heap.size < w2.heap.size) (z3 : w2.heap.size < w3.heap.size) (o : Only w2.heap.size w3 w4) (hs : w4.heap.size = w3.heap.size) : Hid (KpSt w4 w.heap.size w1.heap.size w.heap.size w2.heap.size t 0 false 0 0 (.slice none 0 0) [] w4) :=
  ⟨Below.refl _ _, o.row c (srv_ne _ _ _) (by omega), o.row r (rtv_nev) (by omega), a, ownTg_nil _ _, Nat.le_refl _, Nat.le_refl _, z1, z2, by omega⟩
theorem lenT_add {l : List TarV} {n : Nat} (h : Hid (l.length = n)) (y : TarV) : (l ++ [y]).length = n + 1 := by rw [List.length_append, h.out]; rfl
theorem txtT_le {t x : ByteArray} {p p' : Nat} {d d' : Bool} (h : Hid (TxtR t p d x p' d')) : p' ≤ t.size := h.out.1
theorem manT_le {t : ByteArray} {p p' m k : Nat} {d d' : Bool} (h : Hid (ManR t p d m k p' d')) : p' ≤ t.size := h.out.1
theorem Try.siz1S : (Try.prog.info? 9).map (·.size) = some 1 := by kernel_rfl
theorem byt_le {t x : ByteArray} {p p' : Nat} {d d' : Bool} (h : Hid (BytR t p d x p' d')) : p' ≤ t.size := h.out.1
theorem KpSt.sgf {w w1 w2 w4 w' w3 : World} {p : Nat} {d : Bool} {t : ByteArray} {x y : Int} {a : Option Addr} {n c : Nat} {l : List TarV} (h : Hid (KpSt w4 w.heap.size w1.heap.size w.heap.size w2.heap.size t p d x y (.slice a n c) l w')) (hat : TgsAt w' a l) (ho : Only w.heap.size w' w3) (z1 : w.heap.size < w1.heap.size) (z2 : w1.heap.size < w2.heap.size) : TgsAt w3 a l := by
  have hO : OwnTg w3 w4.heap.size (.slice a n c) l := own_same h.out.own (fun k hk hl => ho.blk k (by have := (own_ge h.out.own hk).1; have := h.out.b4; omega) hl)
  obtain ⟨a', c', e, hs⟩ := hO.form
  injection e with e1 e2 e3
  subst e1
  exact hs
theorem KpSt.ab {w w1 w2 w4 w' : World} {p : Nat} {d : Bool} {t : ByteArray} {x y : Int} {a : Option Addr} {n c : Nat} {l : List TarV} (h : Hid (KpSt w4 w.heap.size w1.heap.size w.heap.size w2.heap.size t p d x y (.slice a n c) l w')) (z1 : w.heap.size < w1.heap.size) (z2 : w1.heap.size < w2.heap.size) : ∀ ad, a = some ad → w.heap.size ≤ ad.block := by
  intro ad e
  subst e
  have := (own_ge h.out.own (k := ad.block) rfl).1
  have := h.out.b4
  omega
theorem KpSt.cf {w w1 w2 w4 w' w3 : World} {p : Nat} {d : Bool} {t : ByteArray} {x y : Int} {v : Value} {l : List TarV} (h : Hid (KpSt w4 w.heap.size w1.heap.size w.heap.size w2.heap.size t p d x y v l w')) (ho : Only w.heap.size w' w3) (z1 : w.heap.size < w1.heap.size) (z2 : w1.heap.size < w2.heap.size) : w3.cell? ⟨w2.heap.size, 0, none⟩ = some (.int .i64 x) ∧ w3.cell? ⟨w2.heap.size, 1, none⟩ = some (.int .i64 y) ∧ w3.cell? ⟨w2.heap.size, 2, none⟩ = some v := by
  have hr := ho.row h.out.r5 (rtw_ne _ _ _) (by omega)
  exact ⟨hr.cell (k := 0) rfl, hr.cell (k := 1) rfl, hr.cell (k := 2) rfl⟩
end Go.Proofs.Ytdfglpbappeoaaa
