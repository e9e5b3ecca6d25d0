/- Rows of Label that a call owns, and appends to. What a text says of a manifest. -/
import Derived.Test.YtchfpiadfmnphaaDoorJn8
import Derived.Test.YtchfpiadfmnphaaDoorMrkW
import Derived.Maps.AppendAt
import Derived.Great.BuildSlice
import Derived.Great.FillDense
import Derived.Test.YtchfpiadfmnphaaDoorJn12
import Derived.Test.YtchfpiadfmnphaaDoorLayO

namespace Go.Proofs.YtchfpiadfmnphaaDoor
open Go.RowKit
set_option linter.unusedVariables false

def LabO (w : World) (base : Nat) (v : Value) (l : List LabV) : Prop := w.ownsRow base 116 2 v l.length (labL l).flatten
theorem LabO.row {w : World} {base n c : Nat} {a : Option Addr} {l : List LabV} (h : LabO w base (.slice a n c) l) : VR w a (labL l).flatten ∧ (∀ ad, a = some ad → base ≤ ad.block ∧ ad.block < w.heap.size) ∧ n = l.length := by
  rcases h.2 with ⟨h0, hn⟩ | ⟨g, cap, cur, hv, hbg, hg, h1, h2, h3, h4⟩
  · injection h0 with e1 e2 e3
    subst e1
    have : l = [] := List.eq_nil_of_length_eq_zero hn
    subst this
    exact ⟨fun hl => absurd rfl hl, fun ad e => (by cases e), e2⟩
  · injection hv with e1 e2 e3
    subst e1 e2
    have h' : w.ownsRow base 116 2 (.slice (some ⟨g, 0, none⟩) l.length c) l.length (labL l).flatten := h
    have hlen : (labL l).flatten.length = l.length * 2 := by rw [flatS_len (labL l) (labL_all l), labL_len]
    refine ⟨fun _ => ⟨g, rfl, ⟨fun j v hv => ?_, fun j hj => ?_⟩⟩, fun ad e => (by injection e with e; rw [← e]; exact ⟨hbg, (Array.getElem?_eq_some_iff.1 hg).1⟩), rfl⟩
    · have hj : j < l.length * 2 := by have := (List.getElem?_eq_some_iff.1 hv).1; rw [hlen] at this; exact this
      rw [Nat.zero_add, World.ownsRow.cellAt h' j hj, hv]
    · have hj2 : j < l.length * 2 := by rw [hlen] at hj; exact hj
      rw [Nat.zero_add, World.ownsRow.cellAt h' j hj2]
      have hjl : j < (labL l).flatten.length := by rw [hlen]; exact hj2
      rw [List.getElem?_eq_getElem hjl]
      exact ⟨rfl, h'.frozenAt j⟩
theorem VR.lab {w : World} {a : Option Addr} {l : List LabV} (h : VR w a (labL l).flatten) : LabAt w a l := fun i hi => by
  obtain ⟨g, rfl, hr⟩ := h (fun e => by have := congrArg List.length e; rw [flatS_len (labL l) (labL_all l), labL_len] at this; simp at this; omega)
  exact hr.lab i hi
theorem LabO.form {w : World} {base : Nat} {v : Value} {l : List LabV} (h : LabO w base v l) : ∃ a n c, l.length = n ∧ v = .slice a n c := by
  rcases h.2 with ⟨h0, hn⟩ | ⟨g, cap, cur, hv, hbg, hg, h1, h2, h3, h4⟩
  · exact ⟨none, 0, 0, hn, h0⟩
  · exact ⟨some ⟨g, 0, none⟩, _, cap, rfl, hv⟩
theorem wp_buildLab {o : Oper} {a : Act} {w : World} {K : Act → World → Prop} {Q : Exit → Act → World → Prop} (x : Operand) (ho : o.op = .buildSlice 39 1 #[(0, x)]) (x0 : ByteArray) (x1 : ByteArray) (e0 : a.eval x = .agg #[.string x0, .string x1])
    (h : ∀ w', RowV w' w.heap.size (labv x0 x1) → Below w.heap.size w w' → K (a.put o.dst (.slice (some ⟨w.heap.size, 0, none⟩) 1 1)) w') : o.wp Tryd.prog a w K Q := by
  obtain ⟨i0, hi, hz0, hz1, hz2⟩ := info_parts Tryd.infLab
  refine wp_buildSlice 39 116 1 _ ho (labv x0 x1).toArray i0 _ Tryd.underlying39 hi hz0 (by rw [hz1]; omega) (by rw [hz1]; omega) ?_ (h _ (RowV.new w (labv x0 x1) 116) (below_alloc _ _))
  rw [hz1]
  simp only [List.map_toArray, List.map, e0]
  kernel_rfl
theorem wp_appendLab {W : World} {o : Oper} {a : Act} {K : Act → World → Prop} {Q : Exit → Act → World → Prop} (s x : Operand) (ho : o.op = .call { callee := .builtin .append, args := #[s, x], argTypes := #[39, 39] })
    (base : Nat) (v : Value) (l : List LabV) (y : LabV) (hs : a.eval s = v) (hown : LabO W base v l) (B : Nat) (hx : a.eval x = .slice (some ⟨B, 0, none⟩) 1 1) (hB : RowV W B (labv y.ky y.vl)) (hn : l.length ≤ 1000) (hbase : base ≤ W.heap.size)
    (h : ∀ v' w', LabO w' base v' (l ++ [y]) → W.grownBy w' v.ownBlock → (v'.ownBlock = v.ownBlock ∨ v'.ownBlock = some W.heap.size) → K (a.put o.dst v') w') : Oper.wp Tryd.prog o a W K Q := by
  obtain ⟨i0, hi, hz0, hz1, hz2⟩ := info_parts Tryd.infLab
  obtain ⟨v', w', hr, h2, h3, h4, h5⟩ := run_append_own_at (P := Tryd.prog) W base 39 o.type 116 i0 _ 2 32 Tryd.underlying39 hi hz0 hz1 hz2 rfl (by decide) v l.length (labL l).flatten hown ⟨B, 0, none⟩ 1 1 (labv y.ky y.vl) rfl
    (fun j u hj => by rw [Addr.add_lit]; have := hB.rng j u hj; exact this) (labv_one _ _) (by unfold maxLen; omega) (by omega) hbase
  unfold Oper.wp execOp
  simp only [ho, resolve, invoke, builtin, Sem.run_bind, Sem.run_pure, Result.andThen_ok, List.map_toArray, List.map_cons, List.map_nil, hs, hx, hr]
  refine h v' w' ?_ h3 h5
  unfold LabO
  have ea : (labL (l ++ [y])).flatten = (labL l).flatten ++ (labL [y]).flatten := by unfold labL; rw [List.map_append, List.flatten_append]
  rw [ea, List.length_append]
  have e : (labL [y]).flatten = labv y.ky y.vl := by unfold labL; simp
  rw [e]
  exact h2
theorem wpList_buildLab {ops : Array Oper} {rest : List Oper} {o : Oper} {a : Act} {w : World} {Q : Exit → Act → World → Prop} (hg : o.guard = none) (x : Operand) (ho : o.op = .buildSlice 39 1 #[(0, x)]) (x0 : ByteArray) (x1 : ByteArray) (e0 : a.eval x = .agg #[.string x0, .string x1])
    (h : ∀ w', RowV w' w.heap.size (labv x0 x1) → Below w.heap.size w w' → wpList Tryd.prog ops Q rest (a.put o.dst (.slice (some ⟨w.heap.size, 0, none⟩) 1 1)) w') : wpList Tryd.prog ops Q (o :: rest) a w :=
  wpList_plain hg fun _ hK => wp_buildLab x ho x0 x1 e0 (fun w' h1 h2 => hK _ _ (h w' h1 h2))
theorem wpList_appendLab {ops : Array Oper} {rest : List Oper} {W : World} {o : Oper} {a : Act} {Q : Exit → Act → World → Prop} (hg : o.guard = none) (s x : Operand) (ho : o.op = .call { callee := .builtin .append, args := #[s, x], argTypes := #[39, 39] })
    (base : Nat) (v : Value) (l : List LabV) (y : LabV) (hs : a.eval s = v) (hown : LabO W base v l) (B : Nat) (hx : a.eval x = .slice (some ⟨B, 0, none⟩) 1 1) (hB : RowV W B (labv y.ky y.vl)) (hn : l.length ≤ 1000) (hbase : base ≤ W.heap.size)
    (h : ∀ v' w', LabO w' base v' (l ++ [y]) → W.grownBy w' v.ownBlock → (v'.ownBlock = v.ownBlock ∨ v'.ownBlock = some W.heap.size) → wpList Tryd.prog ops Q rest (a.put o.dst v') w') : wpList Tryd.prog ops Q (o :: rest) a W :=
  wpList_plain hg fun _ hK => wp_appendLab s x ho base v l y hs hown B hx hB hn hbase (fun v' w' h1 h2 h3 => hK _ _ (h v' w' h1 h2 h3))
end Go.Proofs.YtchfpiadfmnphaaDoor
namespace Go.Proofs.YtchfpiadfmnphaaDoor
open Go.RowKit
set_option linter.unusedVariables false

def laysO (t : ByteArray) : Nat → Nat → Option (List LayV × Nat)
  | 0, p => some ([], p)
  | m + 1, p => match bytesO t p 32 with
    | none => none
    | some (a, b1) => match numO t b1 with
      | none => none
      | some (c, b2) => match laysO t m b2 with
        | none => none
        | some (l, q) => some (⟨a, c⟩ :: l, q)
def labsO (t : ByteArray) : Nat → Nat → Option (List LabV × Nat)
  | 0, p => some ([], p)
  | m + 1, p => match textO t p with
    | none => none
    | some (a, b1) => match textO t b1 with
      | none => none
      | some (c, b2) => match labsO t m b2 with
        | none => none
        | some (l, q) => some (⟨a, c⟩ :: l, q)
abbrev MfRes := ByteArray × List LayV × List LabV × Nat
noncomputable def restBs (t nm : ByteArray) (ls : List LayV) (l1 : List LabV) (m p : Nat) : Option MfRes := match labsO t m p with
  | none => none
  | some (l2, q) => if boolP (ManOk nm ls (l1 ++ l2)) = true then some (nm, ls, l1 ++ l2, q) else none
noncomputable def restC (t nm : ByteArray) (ls : List LayV) (p : Nat) : Option MfRes := match countO t p 10 with
  | none => none
  | some (k, b) => restBs t nm ls [] k b
noncomputable def restLs (t nm : ByteArray) (l1 : List LayV) (m p : Nat) : Option MfRes := match laysO t m p with
  | none => none
  | some (l2, q) => restC t nm (l1 ++ l2) q
noncomputable def manO (t : ByteArray) (p : Nat) : Option MfRes := match textO t p with
  | none => none
  | some (nm, b1) => match countO t b1 10 with
    | none => none
    | some (k, b2) => restLs t nm [] k b2
theorem restBs_yes {t nm : ByteArray} {ls : List LayV} {l1 : List LabV} {p : Nat} (h : boolP (ManOk nm ls l1) = true) : restBs t nm ls l1 0 p = some (nm, ls, l1, p) := by
  unfold restBs labsO
  simp [h]
theorem restBs_no {t nm : ByteArray} {ls : List LayV} {l1 : List LabV} {p : Nat} (h : boolP (ManOk nm ls l1) = false) : restBs t nm ls l1 0 p = none := by
  unfold restBs labsO
  simp [h]
theorem restBs_step {t nm : ByteArray} {ls : List LayV} {l1 : List LabV} {m p b1 b2 : Nat} {a c : ByteArray} (h1 : textO t p = some (a, b1)) (h2 : textO t b1 = some (c, b2)) : restBs t nm ls l1 (m + 1) p = restBs t nm ls (l1 ++ [⟨a, c⟩]) m b2 := by
  unfold restBs
  rw [labsO, h1]
  simp only
  rw [h2]
  simp only
  cases labsO t m b2 with
  | none => rfl
  | some y => simp
theorem restBs_no1 {t nm : ByteArray} {ls : List LayV} {l1 : List LabV} {m p : Nat} (h1 : textO t p = none) : restBs t nm ls l1 (m + 1) p = none := by
  unfold restBs
  rw [labsO, h1]
theorem restBs_no2 {t nm : ByteArray} {ls : List LayV} {l1 : List LabV} {m p b1 : Nat} {a : ByteArray} (h1 : textO t p = some (a, b1)) (h2 : textO t b1 = none) : restBs t nm ls l1 (m + 1) p = none := by
  unfold restBs
  rw [labsO, h1]
  simp only
  rw [h2]
theorem restLs_end {t nm : ByteArray} {l1 : List LayV} {p : Nat} : restLs t nm l1 0 p = restC t nm l1 p := by
  unfold restLs laysO
  simp
theorem restLs_step {t nm : ByteArray} {l1 : List LayV} {m p b1 b2 : Nat} {a : ByteArray} {c : Int} (h1 : bytesO t p 32 = some (a, b1)) (h2 : numO t b1 = some (c, b2)) : restLs t nm l1 (m + 1) p = restLs t nm (l1 ++ [⟨a, c⟩]) m b2 := by
  unfold restLs
  rw [laysO, h1]
  simp only
  rw [h2]
  simp only
  cases laysO t m b2 with
  | none => rfl
  | some y => simp
theorem restLs_no1 {t nm : ByteArray} {l1 : List LayV} {m p : Nat} (h1 : bytesO t p 32 = none) : restLs t nm l1 (m + 1) p = none := by
  unfold restLs
  rw [laysO, h1]
theorem restLs_no2 {t nm : ByteArray} {l1 : List LayV} {m p b1 : Nat} {a : ByteArray} (h1 : bytesO t p 32 = some (a, b1)) (h2 : numO t b1 = none) : restLs t nm l1 (m + 1) p = none := by
  unfold restLs
  rw [laysO, h1]
  simp only
  rw [h2]
theorem restC_no {t nm : ByteArray} {ls : List LayV} {p : Nat} (h : countO t p 10 = none) : restC t nm ls p = none := by unfold restC; rw [h]
theorem restC_yes {t nm : ByteArray} {ls : List LayV} {p k b : Nat} (h : countO t p 10 = some (k, b)) : restC t nm ls p = restBs t nm ls [] k b := by unfold restC; rw [h]
theorem laysO_w {t : ByteArray} (hs : t.size ≤ maxLen) {p b1 b2 : Nat} {a : ByteArray} {c : Int} (h1 : bytesO t p 32 = some (a, b1)) (h2 : numO t b1 = some (c, b2)) : LayV.w ⟨a, c⟩ := by
  refine ⟨?_, numO_i64 h2⟩
  obtain ⟨e, e2, e3⟩ := bytesO_yes h1
  show a.size ≤ maxLen
  rw [e, ByteArray.size_extract]
  omega
theorem labsO_w {t : ByteArray} (hs : t.size ≤ maxLen) {p b1 b2 : Nat} {a c : ByteArray} (h1 : textO t p = some (a, b1)) (h2 : textO t b1 = some (c, b2)) : LabV.w ⟨a, c⟩ := ⟨Nat.le_trans (textO_some h1).2.2.1 hs, Nat.le_trans (textO_some h2).2.2.1 hs⟩
/- What the reader makes: its cells, of which it owns the rows. -/
def ManQ (nm : ByteArray) (ls : List LayV) (bs : List LabV) (L : List Value) (w : World) : Prop := ∃ a1 c1 a2 c2, L = [.string nm, .slice a1 ls.length c1, .slice a2 bs.length c2] ∧ VR w a1 (layL ls).flatten ∧ VR w a2 (labL bs).flatten
def ManF (L : List Value) (lo hi : Nat) : Prop := ∃ nm a1 n1 c1 a2 n2 c2, L = [.string nm, .slice a1 n1 c1, .slice a2 n2 c2] ∧ (∀ ad, a1 = some ad → lo ≤ ad.block ∧ ad.block < hi) ∧ (∀ ad, a2 = some ad → lo ≤ ad.block ∧ ad.block < hi) ∧ (∀ x y, a1 = some x → a2 = some y → x.block ≠ y.block)
theorem ManF.mono {L : List Value} {a b c d : Nat} (h : ManF L a b) (h1 : c ≤ a) (h2 : b ≤ d) : ManF L c d := by
  obtain ⟨nm, a1, n1, c1, a2, n2, c2, e, k1, k2, k3⟩ := h
  exact ⟨nm, a1, n1, c1, a2, n2, c2, e, fun ad e => ⟨Nat.le_trans h1 (k1 ad e).1, Nat.lt_of_lt_of_le (k1 ad e).2 h2⟩, fun ad e => ⟨Nat.le_trans h1 (k2 ad e).1, Nat.lt_of_lt_of_le (k2 ad e).2 h2⟩, k3⟩
end Go.Proofs.YtchfpiadfmnphaaDoor
