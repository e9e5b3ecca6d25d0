/- What is signed, gathered while it is read: the numbers' bounds, the signatures that stand in a text, a row of the call's own. -/
import Derived.Test.YtdfglpbappeoaaaJn10
import Derived.Test.YtdfglpbappeoaaaSgI
import Derived.Test.YtdfglpbappeoaaaOwnG
namespace Go.Proofs.Ytdfglpbappeoaaa
open Go.RowKit
set_option linter.unusedVariables false

theorem unf_i64 {u : Nat} (h : u ≤ 18446744073709551615) : I64 (unf u) := by
  unfold I64 unf
  split <;> simp [Lit.wf, IntKind.min, IntKind.max, IntKind.signed, IntKind.bits] <;> omega
theorem Rd.i64 {s : ByteArray} {a : Nat} {R : G} : ∀ (m i u : Nat), i + m = 9 → Rd s a R i u → R.code = 0 → I64 R.n
  | m, i, u, hm, h, hc => by
    by_cases hlt : a + i < s.size
    · by_cases hl : s[a + i].toNat < 128 ∨ i = 9
      · have he := h.last hlt rfl hl
        unfold fin at he
        split at he
        · rw [he] at hc; exact absurd hc (by decide)
        · rename_i hn
          rw [he]
          exact unf_i64 (h.sum (d := s[a + i].toNat) (by omega) (by omega))
      · have h2 := h.more hlt rfl (by omega) (by omega)
        match m, hm with
        | 0, hm => omega
        | m + 1, hm => exact Rd.i64 m (i + 1) _ (by omega) h2 hc
    · rw [h.short hlt] at hc; exact absurd hc (by decide)
theorem numO_i64 {t : ByteArray} {p b : Nat} {n : Int} (h : numO t p = some (n, b)) : I64 n := by
  obtain ⟨hg, -, h2⟩ := numO_some h
  have hh : scan t p 10 0 0 = ⟨n, b, 0⟩ := by
    have := hg
    unfold getN at this
    rw [if_neg (by omega), if_neg (by omega)] at this
    simpa using this
  have := Rd.i64 9 0 0 rfl (Rd.start t p) (by rw [hh])
  rw [hh] at this
  exact this
/- So many signatures, one behind the other. -/
def sigsO (t : ByteArray) : Nat → Nat → Option (List SigV × Nat)
  | 0, p => some ([], p)
  | m + 1, p => match numO t p with
    | none => none
    | some (a, b1) => match numO t b1 with
      | none => none
      | some (b, b2) => match numO t b2 with
        | none => none
        | some (c, b3) => match sigsO t m b3 with
          | none => none
          | some (l, q) => some (⟨a, b, c⟩ :: l, q)
/- What is still to be read, behind what was. -/
def restO (t x : ByteArray) (l1 : List SigV) (m p : Nat) : Option (ByteArray × List SigV × Nat) := match sigsO t m p with
  | none => none
  | some (l2, q) => if signedB x (l1 ++ l2) then some (x, l1 ++ l2, q) else none
theorem restO_end {t x : ByteArray} {l1 : List SigV} {p : Nat} : restO t x l1 0 p = if signedB x l1 then some (x, l1, p) else none := by
  unfold restO sigsO
  simp
theorem restO_step {t x : ByteArray} {l1 : List SigV} {m p b1 b2 b3 : Nat} {a b c : Int} (h1 : numO t p = some (a, b1)) (h2 : numO t b1 = some (b, b2)) (h3 : numO t b2 = some (c, b3)) : restO t x l1 (m + 1) p = restO t x (l1 ++ [⟨a, b, c⟩]) m b3 := by
  unfold restO
  rw [sigsO, h1]
  simp only
  rw [h2]
  simp only
  rw [h3]
  simp only
  cases sigsO t m b3 with
  | none => rfl
  | some y => simp
theorem restO_no1 {t x : ByteArray} {l1 : List SigV} {m p : Nat} (h1 : numO t p = none) : restO t x l1 (m + 1) p = none := by
  unfold restO
  rw [sigsO, h1]
theorem restO_no2 {t x : ByteArray} {l1 : List SigV} {m p b1 : Nat} {a : Int} (h1 : numO t p = some (a, b1)) (h2 : numO t b1 = none) : restO t x l1 (m + 1) p = none := by
  unfold restO
  rw [sigsO, h1]
  simp only
  rw [h2]
theorem restO_no3 {t x : ByteArray} {l1 : List SigV} {m p b1 b2 : Nat} {a b : Int} (h1 : numO t p = some (a, b1)) (h2 : numO t b1 = some (b, b2)) (h3 : numO t b2 = none) : restO t x l1 (m + 1) p = none := by
  unfold restO
  rw [sigsO, h1]
  simp only
  rw [h2]
  simp only
  rw [h3]
/- A Signed that stands in a text from a place on. -/
def signedO (t : ByteArray) (p : Nat) : Option (ByteArray × List SigV × Nat) := match textO t p with
  | none => none
  | some (x, b1) => match countO t b1 16 with
    | none => none
    | some (k, b2) => restO t x [] k b2
def sdv (x : ByteArray) (v : Value) : List Value := [.string x, v]
theorem sdv_ne (x : ByteArray) (v : Value) : sdv x v ≠ [] := by simp [sdv]
/- What stands while a Signed is read. -/
structure KpSd (w : World) (g G2 G3 : Nat) (t : ByteArray) (p : Nat) (x : ByteArray) (vr v : Value) (l : List SigV) (w' : World) : Prop where
  only : Only g w w'
  cur : RowV w' g (cuv t p)
  r2 : RowV w' G2 (sgv ⟨#[]⟩ none 0 0)
  r3 : RowV w' G3 (sdv x vr)
  own : OwnSg w' w.heap.size v l
  lg : g < w.heap.size
  l2 : w.heap.size ≤ G2
  l3 : w.heap.size ≤ G3
  n23 : G2 ≠ G3
  n2 : v.ownBlock ≠ some G2
  n3 : v.ownBlock ≠ some G3
theorem KpSd.num {w w' w2 : World} {g G2 G3 p q : Nat} {t x : ByteArray} {vr v : Value} {l : List SigV} (h : Hid (KpSd w g G2 G3 t p x vr v l w')) (hr : RowV w2 g (cuv t q)) (ho : Only g w' w2) : Hid (KpSd w g G2 G3 t q x vr v l w2) := by
  have hg := h.out.lg
  have := h.out.l2
  have := h.out.l3
  exact ⟨h.out.only.trans ho, hr, ho.row h.out.r2 (sgv_ne _ _ _ _) (by omega), ho.row h.out.r3 (sdv_ne _ _) (by omega), own_same h.out.own (fun k hk hl => ho.blk k (by have := (own_ge h.out.own hk).1; omega) hl), hg, h.out.l2, h.out.l3, h.out.n23, h.out.n2, h.out.n3⟩
theorem KpSd.call {w w' w2 : World} {g G2 G3 p : Nat} {t x : ByteArray} {vr v : Value} {l : List SigV} (h : Hid (KpSd w g G2 G3 t p x vr v l w')) (hb : Below w'.heap.size w' w2) : Hid (KpSd w g G2 G3 t p x vr v l w2) :=
  ⟨h.out.only.trans (Only.of hb (Nat.le_trans (Nat.le_of_lt h.out.lg) h.out.only.size)), h.out.cur.below hb (h.out.cur.lt (cuv_ne _ _)), h.out.r2.below hb (h.out.r2.lt (sgv_ne _ _ _ _)), h.out.r3.below hb (h.out.r3.lt (sdv_ne _ _)), own_same h.out.own (fun k _ hl => hb.block k hl), h.out.lg, h.out.l2, h.out.l3, h.out.n23, h.out.n2, h.out.n3⟩
theorem KpSd.drew {w w' : World} {g G2 G3 p : Nat} {t x : ByteArray} {vr v : Value} {l : List SigV} (h : Hid (KpSd w g G2 G3 t p x vr v l w')) : Hid (KpSd w g G2 G3 t p x vr v l w'.drew) :=
  ⟨h.out.only.drew, h.out.cur.drew, h.out.r2.drew, h.out.r3.drew, h.out.own, h.out.lg, h.out.l2, h.out.l3, h.out.n23, h.out.n2, h.out.n3⟩
theorem KpSd.app {w w' w2 : World} {g G2 G3 p : Nat} {t x : ByteArray} {vr v v' : Value} {l l' : List SigV} (h : Hid (KpSd w g G2 G3 t p x vr v l w')) (ho : OwnSg w2 w.heap.size v' l') (hg : w'.grownBy w2 v.ownBlock) (hb : v'.ownBlock = v.ownBlock ∨ v'.ownBlock = some w'.heap.size) : Hid (KpSd w g G2 G3 t p x vr v' l' w2) := by
  have e := h.out.lg
  have el := h.out.only.size
  have hb2 := h.out.r2.lt (sgv_ne _ _ _ _)
  have hb3 := h.out.r3.lt (sdv_ne _ _)
  have old : ∀ k, k < w.heap.size → w2.heap[k]? = w'.heap[k]? := fun k hk => hg.block k (by omega) (fun e => by have := (own_ge h.out.own e.symm).1; omega)
  refine ⟨⟨h.out.only.below.trans ⟨hg.os, hg.tape, hg.output, hg.size, fun k hk => old k (by omega)⟩, fun k hk hl => (old k hl).trans (h.out.only.blk k hk hl), Nat.le_trans el hg.size⟩, row_blk h.out.cur (old g e), row_blk h.out.r2 (hg.block G2 hb2 (fun e => h.out.n2 e.symm)), row_blk h.out.r3 (hg.block G3 hb3 (fun e => h.out.n3 e.symm)), ho, e, h.out.l2, h.out.l3, h.out.n23, ?_, ?_⟩
  · rcases hb with hb | hb
    · rw [hb]; exact h.out.n2
    · rw [hb]; intro e; injection e with e; omega
  · rcases hb with hb | hb
    · rw [hb]; exact h.out.n3
    · rw [hb]; intro e; injection e with e; omega
theorem KpSd.put {w w' w2 : World} {g G2 G3 p : Nat} {t x : ByteArray} {vr v : Value} {l : List SigV} (h : Hid (KpSd w g G2 G3 t p x vr v l w')) (hr : RowV w2 G3 (sdv x v)) (ho : Only G3 w' w2) : Hid (KpSd w g G2 G3 t p x v v l w2) := by
  have e := h.out.lg
  have e3 := h.out.l3
  refine ⟨⟨h.out.only.below.trans (ho.below.mono (by omega)), fun k hk hl => (ho.blk k (by omega) (Nat.lt_of_lt_of_le hl h.out.only.size)).trans (h.out.only.blk k hk hl), Nat.le_trans h.out.only.size ho.size⟩, ho.row h.out.cur (cuv_ne _ _) (by omega), ho.row h.out.r2 (sgv_ne _ _ _ _) h.out.n23, hr, own_same h.out.own (fun k hk hl => ho.blk k (fun e => h.out.n3 (by rw [hk, e])) hl), e, h.out.l2, h.out.l3, h.out.n23, h.out.n2, h.out.n3⟩
theorem KpSd.cell {w w' : World} {g G2 G3 p : Nat} {t x : ByteArray} {vr v : Value} {l : List SigV} (h : Hid (KpSd w g G2 G3 t p x vr v l w')) : w'.cell? ⟨G3, 0, none⟩ = some (.string x) ∧ w'.cell? ⟨G3, 1, none⟩ = some vr := ⟨h.out.r3.cell (k := 0) rfl, h.out.r3.cell (k := 1) rfl⟩
theorem KpSd.curH {w w' : World} {g G2 G3 p : Nat} {t x : ByteArray} {vr v : Value} {l : List SigV} (h : Hid (KpSd w g G2 G3 t p x vr v l w')) : RowV w' g (cuv t p) := h.out.cur
end Go.Proofs.Ytdfglpbappeoaaa
