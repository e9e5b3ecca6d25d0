/- The consistency check: what it answers, and what holds round by round. -/
import Derived.Test.YtdfglpbappeoaabDoorIncS
import Derived.Test.YtdfglpbappeoaabDoorOwnS
namespace Go.Proofs.YtdfglpbappeoaabDoor
open Go.RowKit
set_option linter.unusedVariables false

def pwB (i : Int) : Bool := bits .and .i64 i (i - 1) == 0
def chkC (old root : ByteArray) : List ByteArray → Nat → Nat → ByteArray → ByteArray → Bool
  | [], f, s, a, b => decide (a = old) && (decide (b = root) && s == 0)
  | p :: ps, f, s, a, b => s != 0 && chkC old root ps (Mer.nx f s).1 (Mer.nx f s).2 (if Mer.rgt f s then nodeD p a else a) (if Mer.rgt f s then nodeD p b else nodeD b p)
theorem chkC_run (old root : ByteArray) : ∀ (ps : List ByteArray) (f s : Nat) (a b : ByteArray), chkC old root ps f s a b = true ↔ Mer.okN ps.length f s = true ∧ (Mer.goP ps.length f s).2 = 0 ∧ Mer.goA nodeD ps f s a = old ∧ Mer.goB nodeD ps f s b = root
  | [], f, s, a, b => by
    simp only [chkC, Mer.okN, Mer.goP, Mer.goA, Mer.goB, List.length_nil, Bool.and_eq_true, decide_eq_true_eq, beq_iff_eq, true_and]
    constructor
    · rintro ⟨h1, h2, h3⟩; exact ⟨h3, h1, h2⟩
    · rintro ⟨h3, h1, h2⟩; exact ⟨h1, h2, h3⟩
  | p :: ps, f, s, a, b => by
    rw [chkC, Bool.and_eq_true, chkC_run old root ps, List.length_cons, Mer.okN, Bool.and_eq_true, Mer.goP, Mer.goA, Mer.goB, and_assoc]
def ConOk (i n : Int) (ps : List ByteArray) (old root : ByteArray) : Prop := old.size = 32 ∧ root.size = 32 ∧ ps.length ≤ 400 ∧ okHs ps = true ∧ 1 ≤ n ∧ n ≤ 1099511627776 ∧ 1 ≤ i ∧ i ≤ n
def conLs (i : Int) (ps : List ByteArray) (old : ByteArray) : List ByteArray := if pwB i then old :: ps else ps
def conR (i n : Int) (ps : List ByteArray) (old root : ByteArray) : Bool :=
  if i = n then decide (ps = []) && decide (old = root) else
  match conLs i ps old with
  | [] => false
  | x :: rest => chkC old root rest (Mer.strip (i.toNat - 1) (n.toNat - 1)).1 (Mer.strip (i.toNat - 1) (n.toNat - 1)).2 x x
def okCn (i n : Int) (ps : List ByteArray) (old root : ByteArray) : Bool := decide (old.size = 32) && (decide (root.size = 32) && (decide (ps.length ≤ 400) && (okHs ps && (decide (1 ≤ n ∧ n ≤ 1099511627776) && decide (1 ≤ i ∧ i ≤ n)))))
theorem okCn_iff {i n : Int} {ps : List ByteArray} {old root : ByteArray} : okCn i n ps old root = true ↔ ConOk i n ps old root := by
  unfold okCn ConOk
  simp only [Bool.and_eq_true, decide_eq_true_eq, and_assoc]
def conB (i n : Int) (ps : List ByteArray) (old root : ByteArray) : Bool := okCn i n ps old root && conR i n ps old root
theorem conB_no {i n : Int} {ps : List ByteArray} {old root : ByteArray} (h : ¬ ConOk i n ps old root) : conB i n ps old root = false := by
  unfold conB
  cases hh : okCn i n ps old root with
  | false => rfl
  | true => exact absurd (okCn_iff.1 hh) h
theorem conB_yes {i n : Int} {ps : List ByteArray} {old root : ByteArray} (h : ConOk i n ps old root) : conB i n ps old root = conR i n ps old root := by
  unfold conB; rw [okCn_iff.2 h, Bool.true_and]
/- Halved as long as it is odd: one step. -/
theorem strp_fuel : ∀ (n m f s : Nat), f ≤ n → f ≤ m → Mer.strp n f s = Mer.strp m f s
  | 0, m, f, s, h1, h2 => by
    have : f = 0 := by omega
    subst this
    cases m <;> simp [Mer.strp]
  | n + 1, 0, f, s, h1, h2 => by
    have : f = 0 := by omega
    subst this
    simp [Mer.strp]
  | n + 1, m + 1, f, s, h1, h2 => by
    rw [Mer.strp, Mer.strp]
    by_cases h : f % 2 = 1
    · rw [if_pos h, if_pos h]
      exact strp_fuel n m _ _ (by omega) (by omega)
    · rw [if_neg h, if_neg h]
theorem strip_go {f s : Nat} (h : f % 2 = 1) : Mer.strip f s = Mer.strip (f / 2) (s / 2) := by
  unfold Mer.strip
  obtain ⟨n, hn⟩ : ∃ n, f = n + 1 := ⟨f - 1, by omega⟩
  conv => lhs; rw [hn, Mer.strp]
  rw [← hn, if_pos h]
  exact strp_fuel _ _ _ _ (by omega) (Nat.le_refl _)
theorem strip_stop {f s : Nat} (h : ¬ f % 2 = 1) : Mer.strip f s = (f, s) := by
  unfold Mer.strip
  cases f with
  | zero => rfl
  | succ n => rw [Mer.strp, if_neg h]
/- What holds at the head of a round. -/
structure ConAt (R : Bool) (old root : ByteArray) (L : List ByteArray) (k f s : Nat) (a b : ByteArray) : Prop where
  eq : R = chkC old root (L.drop k) f s a b
  sa32 : a.size = 32
  sb32 : b.size = 32
theorem ConAt.right {R : Bool} {old root a b p : ByteArray} {L : List ByteArray} {k f s : Nat} (h : ConAt R old root L k f s a b) (hk : k < L.length) (hp : L[k] = p) (hs : s ≠ 0) (hr : Mer.rgt f s = true) : ConAt R old root L (k + 1) ((dn f s).1 / 2) ((dn f s).2 / 2) (nodeD p a) (nodeD p b) := by
  refine ⟨?_, nodeD_size _ _, nodeD_size _ _⟩
  rw [h.eq, List.drop_eq_getElem_cons hk, hp, chkC, nx_right hr, if_pos hr, if_pos hr]
  simp [hs]
theorem ConAt.left {R : Bool} {old root a b p : ByteArray} {L : List ByteArray} {k f s : Nat} (h : ConAt R old root L k f s a b) (hk : k < L.length) (hp : L[k] = p) (hs : s ≠ 0) (hr : Mer.rgt f s = false) : ConAt R old root L (k + 1) (f / 2) (s / 2) a (nodeD b p) := by
  refine ⟨?_, h.sa32, nodeD_size _ _⟩
  rw [h.eq, List.drop_eq_getElem_cons hk, hp, chkC, nx_left hr, hr, if_neg (by decide), if_neg (by decide)]
  simp [hs]
theorem ConAt.stop {R : Bool} {old root a b : ByteArray} {L : List ByteArray} {k f : Nat} (h : ConAt R old root L k f 0 a b) (hk : k < L.length) : R = false := by
  rw [h.eq, List.drop_eq_getElem_cons hk, chkC]; rfl
theorem ConAt.done {R : Bool} {old root a b : ByteArray} {L : List ByteArray} {f s : Nat} (h : ConAt R old root L L.length f s a b) : R = (decide (a = old) && (decide (b = root) && s == 0)) := by
  rw [h.eq, List.drop_of_length_le (Nat.le_refl _), chkC]
end Go.Proofs.YtdfglpbappeoaabDoor
