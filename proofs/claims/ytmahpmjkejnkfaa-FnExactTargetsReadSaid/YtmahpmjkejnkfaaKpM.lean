/- What stands while a reader goes on: its own cells, and the variables of the call; two laws for regions that draw their order. -/
import Derived.Test.YtmahpmjkejnkfaaCu2
namespace Go.Proofs.Ytmahpmjkejnkfaa
open Go.RowKit
set_option linter.unusedVariables false

theorem wp_allocV {P : Program} {o : Oper} {a : Act} {w : World} {K : Act → World → Prop} {Q : Exit → Act → World → Prop} (t : TypeId) (ho : o.op = .alloc t) (l : List Value)
    (hi : (P.info? t).map (fun i => i.zero) = some (some (.agg l.toArray)))
    (h : ∀ w', RowV w' w.heap.size l → Below w.heap.size w w' → K (a.put o.dst (.pointer (some ⟨w.heap.size, 0, none⟩))) w') : o.wp P a w K Q := by
  cases hq : P.info? t with
  | none => simp [hq] at hi
  | some i =>
    have hz : i.zero = some (.agg l.toArray) := by simpa [hq] using hi
    unfold Oper.wp execOp
    simp only [ho, Sem.run_bind, Instr.alloc, zeroValue, run_typeInfo w hq, hz, newVar, newRow, run_newObj_alloc, Sem.run_pure, Result.andThen_ok]
    exact h _ (RowV.new w _ t) ((Below.refl _ _).alloc (Nat.le_refl _) _)
theorem wp_storeV {P : Program} {o : Oper} {a : Act} {w : World} {K : Act → World → Prop} {Q : Exit → Act → World → Prop} (t : TypeId) (x y : Operand) (ho : o.op = .store t x y) (g : Nat) (l l' : List Value)
    (hx : a.eval x = .pointer (some ⟨g, 0, none⟩)) (hy : a.eval y = .agg l'.toArray) (hl : RowV w g l) (n : Nat) (hi : (P.info? t).map (·.size) = some n) (hn : l.length = n) (hn' : l'.length = n) (h1 : ∀ v ∈ l', v.oneCell' = true)
    (h : ∀ w', RowV w' g l' → Only g w w' → K (a.put o.dst undef) w') : o.wp P a w K Q := by
  subst hn
  refine wp_store_mid t x y ho g 0 l'.toArray hx hy (by simp only [List.size_toArray, hn']; exact hl.ths) (by simp only [List.size_toArray, hn']; exact hi) (by rw [Array.all_eq_true_iff_forall_mem]; intro v hv; exact h1 v (by simpa using hv)) ?_
  exact h _ (hl.put hn') (Only.set (fun B hB => Lib.below_setCells_w hB _ _ _) (fun k hk => setCells_blk g _ _ _ k hk) (setCells_size g _ 0 w))
/- The reader's row at g, and rows of the call's own. -/
structure KpM (g : Nat) (r : List Value) (rows : List (Nat × List Value)) (w w' : World) : Prop where
  only : Only g w w'
  row : RowV w' g r
  ne : r ≠ []
  lt : g < w.heap.size
  own : ∀ x ∈ rows, w.heap.size ≤ x.1 ∧ x.2 ≠ [] ∧ RowV w' x.1 x.2
theorem KpM.start {g : Nat} {r : List Value} {w : World} (h : RowV w g r) (hn : r ≠ []) : Hid (KpM g r [] w w) := ⟨Only.refl _ _, h, hn, h.lt hn, fun x hx => by cases hx⟩
theorem KpM.sz {g : Nat} {r : List Value} {rows : List (Nat × List Value)} {w w' : World} (h : Hid (KpM g r rows w w')) : w.heap.size ≤ w'.heap.size := h.out.only.size
theorem KpM.call {g : Nat} {r : List Value} {rows : List (Nat × List Value)} {w w' w2 : World} (h : Hid (KpM g r rows w w')) (hb : Below w'.heap.size w' w2) : Hid (KpM g r rows w w2) :=
  ⟨h.out.only.trans (Only.of hb (Nat.le_trans (Nat.le_of_lt h.out.lt) h.out.only.size)), h.out.row.below hb (h.out.row.lt h.out.ne), h.out.ne, h.out.lt, fun x hx => ⟨(h.out.own x hx).1, (h.out.own x hx).2.1, (h.out.own x hx).2.2.below hb ((h.out.own x hx).2.2.lt (h.out.own x hx).2.1)⟩⟩
theorem KpM.drew {g : Nat} {r : List Value} {rows : List (Nat × List Value)} {w w' : World} (h : Hid (KpM g r rows w w')) : Hid (KpM g r rows w w'.drew) := ⟨h.out.only.drew, h.out.row.drew, h.out.ne, h.out.lt, fun x hx => ⟨(h.out.own x hx).1, (h.out.own x hx).2.1, (h.out.own x hx).2.2.drew⟩⟩
theorem KpM.drewN {g : Nat} {r : List Value} {rows : List (Nat × List Value)} {w w' : World} (h : Hid (KpM g r rows w w')) (n : Nat) : Hid (KpM g r rows w (w'.drewN n)) := ⟨⟨belowN h.out.only.below n, h.out.only.blk, h.out.only.size⟩, h.out.row.drewN n, h.out.ne, h.out.lt, fun x hx => ⟨(h.out.own x hx).1, (h.out.own x hx).2.1, (h.out.own x hx).2.2.drewN n⟩⟩
/- The reader went on. -/
theorem KpM.read {g : Nat} {r r' : List Value} {rows : List (Nat × List Value)} {w w' w2 : World} (h : Hid (KpM g r rows w w')) (hr : RowV w2 g r') (hn : r' ≠ []) (ho : Only g w' w2) : Hid (KpM g r' rows w w2) :=
  ⟨h.out.only.trans ho, hr, hn, h.out.lt, fun x hx => ⟨(h.out.own x hx).1, (h.out.own x hx).2.1, ho.row (h.out.own x hx).2.2 (h.out.own x hx).2.1 (by have := (h.out.own x hx).1; have := h.out.lt; omega)⟩⟩
/- A new variable. -/
theorem KpM.new {g : Nat} {r l : List Value} {rows : List (Nat × List Value)} {w w' w2 : World} (h : Hid (KpM g r rows w w')) (hr : RowV w2 w'.heap.size l) (hn : l ≠ []) (hb : Below w'.heap.size w' w2) : Hid (KpM g r ((w'.heap.size, l) :: rows) w w2) := by
  have h2 := (KpM.call h hb).out
  refine ⟨h2.only, h2.row, h2.ne, h2.lt, fun x hx => ?_⟩
  rcases List.mem_cons.1 hx with rfl | hx
  · exact ⟨h.out.only.size, hn, hr⟩
  · exact h2.own x hx
/- The newest variable is written. -/
theorem KpM.put {g b : Nat} {r l l' : List Value} {rows : List (Nat × List Value)} {w w' w2 : World} (h : Hid (KpM g r ((b, l) :: rows) w w')) (hd : ∀ x ∈ rows, x.1 ≠ b) (hr : RowV w2 b l') (hn : l' ≠ []) (ho : Only b w' w2) : Hid (KpM g r ((b, l') :: rows) w w2) := by
  have hb := (h.out.own (b, l) (List.mem_cons_self ..)).1
  have hgb : g ≠ b := by have := h.out.lt; have : w.heap.size ≤ b := hb; omega
  have hbl : b < w'.heap.size := (h.out.own (b, l) (List.mem_cons_self ..)).2.2.lt (h.out.own (b, l) (List.mem_cons_self ..)).2.1
  refine ⟨⟨h.out.only.below.trans (ho.below.mono (by have := h.out.lt; have : w.heap.size ≤ b := hb; omega)), fun x hx hl => ?_, Nat.le_trans h.out.only.size ho.size⟩, ho.row h.out.row h.out.ne hgb, h.out.ne, h.out.lt, fun x hx => ?_⟩
  · have h1 := h.out.only.blk x hx hl
    have h2 := ho.blk x (by have : w.heap.size ≤ b := hb; omega) (Nat.lt_of_lt_of_le hl h.out.only.size)
    exact h2.trans h1
  · rcases List.mem_cons.1 hx with rfl | hx
    · exact ⟨hb, hn, hr⟩
    · have := h.out.own x (List.mem_cons_of_mem _ hx)
      exact ⟨this.1, this.2.1, ho.row this.2.2 this.2.1 (hd x hx)⟩
theorem KpM.get {g b : Nat} {r l : List Value} {rows : List (Nat × List Value)} {w w' : World} (h : Hid (KpM g r rows w w')) (hx : (b, l) ∈ rows) : RowV w' b l := (h.out.own _ hx).2.2
theorem KpM.swap {g : Nat} {r : List Value} {x y : Nat × List Value} {rows : List (Nat × List Value)} {w w' : World} (h : Hid (KpM g r (x :: y :: rows) w w')) : Hid (KpM g r (y :: x :: rows) w w') :=
  ⟨h.out.only, h.out.row, h.out.ne, h.out.lt, fun z hz => h.out.own z (by simp only [List.mem_cons] at hz ⊢; rcases hz with h | h | h <;> simp [h])⟩
theorem KpM.apart {g b : Nat} {r l l2 : List Value} {rows : List (Nat × List Value)} {w w' w2 : World} (h : Hid (KpM g r rows w w')) (hx : (b, l) ∈ rows) : b < w'.heap.size := (h.out.own _ hx).2.2.lt (h.out.own _ hx).2.1
theorem KpM.rowH {g : Nat} {r : List Value} {rows : List (Nat × List Value)} {w w' : World} (h : Hid (KpM g r rows w w')) : RowV w' g r := h.out.row
end Go.Proofs.Ytmahpmjkejnkfaa
