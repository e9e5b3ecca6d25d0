/- Arrays of numbers of 32 bits that lie in a block of their own, as wholes; what the operations on them do. -/
import Derived.Test.YtchfpiadfmnphaaDoorBlk
import Derived.Deep.MidRow
import Derived.Great.Ranges
import Derived.Lib.EndianMore
namespace Go.Proofs.YtchfpiadfmnphaaDoor
open Go.RowKit
set_option linter.unusedVariables false

theorem belN {B : Nat} {a w : World} (h : Below B a w) (n : Nat) : Below B a (w.drewN n) := ⟨h.os, h.tape, h.output, h.size, h.block⟩
structure ArrU (w : World) (g : Nat) (l : List UInt32) : Prop where
  rng : w.rangeAt g 0 (us l)
  ths : w.there g 0 l.length
def aggU (l : List UInt32) : Value := .agg (us l).toArray
theorem us_one (l : List UInt32) : (us l).toArray.all (·.oneCell') = true := by
  rw [Array.all_eq_true_iff_forall_mem]
  intro v hv
  simp [us] at hv
  obtain ⟨x, _, rfl⟩ := hv
  rfl
theorem ArrU.of_block {w : World} {g : Nat} {l : List UInt32} {t : TypeId} (h : w.heap[g]? = some (.cells (us l).toArray t (0, 0))) : ArrU w g l := by
  refine ⟨fun j v hv => ?_, fun j hj => ⟨?_, ?_⟩⟩
  · simpa [World.cell?, h] using hv
  · simp [World.cell?, h, us, hj]
  · simp [World.frozen?, h]
theorem ArrU.new (w : World) (l : List UInt32) (t : TypeId) : ArrU (w.alloc (.cells (us l).toArray t)) w.heap.size l := ArrU.of_block (heap_alloc_new w _)
theorem ArrU.cell {w : World} {g : Nat} {l : List UInt32} (h : ArrU w g l) {k : Nat} (hk : k < l.length) : w.cell? ⟨g, k, none⟩ = some (U l[k]) := by
  have := h.rng k (U l[k]) (us_get hk)
  rw [Nat.zero_add] at this
  exact this
theorem ArrU.frozen {w : World} {g : Nat} {l : List UInt32} (h : ArrU w g l) {k : Nat} (hk : k < l.length) : w.frozen? ⟨g, k, none⟩ = false := by
  have := (h.ths k hk).2
  rw [Nat.zero_add] at this
  exact this
theorem ArrU.below {w w' : World} {g B : Nat} {l : List UInt32} (h : ArrU w g l) (hb : Below B w w') (hB : g < B) : ArrU w' g l :=
  ⟨fun j v hv => (hb.cell (p := ⟨g, 0 + j, none⟩) hB).trans (h.rng j v hv), fun j hj => by
    rw [hb.cell (p := ⟨g, 0 + j, none⟩) hB, hb.frozen (p := ⟨g, 0 + j, none⟩) hB]
    exact h.ths j hj⟩
theorem ArrU.drewN {w : World} {g : Nat} {l : List UInt32} (h : ArrU w g l) (n : Nat) : ArrU (w.drewN n) g l := ⟨h.rng, h.ths⟩
theorem ArrU.drew {w : World} {g : Nat} {l : List UInt32} (h : ArrU w g l) : ArrU w.drew g l := ⟨h.rng, h.ths⟩
theorem ArrU.lt {w : World} {g : Nat} {l : List UInt32} (h : ArrU w g l) (hl : 0 < l.length) : g < w.heap.size := cell_lt (h.cell hl)
theorem ArrU.put {w : World} {g : Nat} {l l' : List UInt32} (h : ArrU w g l) (hl : l'.length = l.length) : ArrU (w.setCells g 0 (us l')) g l' :=
  ⟨World.rangeAt_setCells_same w g 0 (us l') (by rw [us_length, hl]; exact h.ths), by rw [hl]; exact World.there_setCells h.ths g 0 (us l')⟩
theorem ArrU.set {w : World} {g k : Nat} {l l' : List UInt32} {x : UInt32} (h : ArrU w g l) (hk : k < l.length) (hl : l' = l.set k x) : ArrU (w.setCell ⟨g, k, none⟩ (U x)) g l' := by
  subst hl
  have hs := h.cell hk
  refine ⟨fun j v hv => ?_, fun j hj => ⟨?_, ?_⟩⟩
  · rw [Nat.zero_add]
    by_cases hjk : j = k
    · subst hjk
      rw [us_get (by simpa using hk)] at hv
      rw [World.cell?_setCell_same w _ _ hs]
      simpa using hv
    · rw [World.cell?_setCell_other w _ _ _ (by intro e; injection e with _ e _; exact hjk e.symm)]
      have := h.rng j v (by rw [← hv]; simp [us, show ¬ k = j from fun e => hjk e.symm])
      rw [Nat.zero_add] at this
      exact this
  · rw [Nat.zero_add]
    by_cases hjk : j = k
    · subst hjk
      rw [World.cell?_setCell_same w _ _ hs]; rfl
    · rw [World.cell?_setCell_other w _ _ _ (by intro e; injection e with _ e _; exact hjk e.symm)]
      rw [h.cell (by simpa using hj)]; rfl
  · rw [World.frozen?_setCell]
    exact (h.ths j (by simpa using hj)).2

/- A variable that holds an array: made of a value, made of zeros; read, written as a whole. -/
theorem wpList_boxU {P : Program} {ops : Array Oper} {rest : List Oper} {o : Oper} {a : Act} {w : World} {Q : Exit → Act → World → Prop} (hg : o.guard = none) (t : TypeId) (x : Operand) (ho : o.op = .box t x) (l : List UInt32) (hx : a.eval x = aggU l)
    (h : ∀ w', ArrU w' w.heap.size l → Below w.heap.size w w' → w'.heap.size = w.heap.size + 1 → wpList P ops Q rest (a.put o.dst (.pointer (some ⟨w.heap.size, 0, none⟩))) w') : wpList P ops Q (o :: rest) a w :=
  Great.wpList_boxTo hg t x ho o.dst rfl w.heap.size rfl (us l).toArray (by rw [hx]; rfl)
    (h _ (ArrU.new w l t) ((Below.refl _ _).alloc (Nat.le_refl _) _) (Array.size_push _))
theorem wpList_allocU {P : Program} {ops : Array Oper} {rest : List Oper} {o : Oper} {a : Act} {w : World} {Q : Exit → Act → World → Prop} (hg : o.guard = none) (t : TypeId) (ho : o.op = .alloc t) (n : Nat)
    (hi : (P.info? t).map (fun i => i.zero) = some (some (aggU (List.replicate n 0))))
    (h : ∀ w', ArrU w' w.heap.size (List.replicate n 0) → Below w.heap.size w w' → w'.heap.size = w.heap.size + 1 → wpList P ops Q rest (a.put o.dst (.pointer (some ⟨w.heap.size, 0, none⟩))) w') : wpList P ops Q (o :: rest) a w := by
  refine wpList_plain hg fun K hK => ?_
  cases hq : P.info? t with
  | none => simp [hq] at hi
  | some i =>
    have hz : i.zero = some (aggU (List.replicate n 0)) := by simpa [hq] using hi
    unfold Oper.wp execOp
    simp only [ho, Sem.run_bind, Instr.alloc, zeroValue, run_typeInfo w hq, hz, newVar, newRow, run_newObj_alloc, Sem.run_pure, Result.andThen_ok]
    exact hK _ _ (h _ (ArrU.new w _ t) ((Below.refl _ _).alloc (Nat.le_refl _) _) (Array.size_push _))
theorem wpList_loadU {P : Program} {ops : Array Oper} {rest : List Oper} {o : Oper} {a : Act} {w : World} {Q : Exit → Act → World → Prop} (hg : o.guard = none) (t : TypeId) (x : Operand) (ho : o.op = .load t x) (g : Nat) (l : List UInt32)
    (hx : a.eval x = .pointer (some ⟨g, 0, none⟩)) (hl : ArrU w g l) (n : Nat) (e : TypeId) (hu : P.underlying t = some (.array n e)) (hi : (P.info? t).map (·.size) = some n) (hn : l.length = n)
    (h : wpList P ops Q rest (a.put o.dst (aggU l)) w) : wpList P ops Q (o :: rest) a w :=
  wpList_load_mid hg t x ho g 0 hx (us l) _ hl.rng hu rfl (by rw [us_length, hn]; exact hi) h
theorem wpList_storeU {P : Program} {ops : Array Oper} {rest : List Oper} {o : Oper} {a : Act} {w : World} {Q : Exit → Act → World → Prop} (hg : o.guard = none) (t : TypeId) (x y : Operand) (ho : o.op = .store t x y) (g : Nat) (l l' : List UInt32)
    (hx : a.eval x = .pointer (some ⟨g, 0, none⟩)) (hy : a.eval y = aggU l') (hl : ArrU w g l) (hi : (P.info? t).map (·.size) = some l.length) (hn : l'.length = l.length)
    (h : ∀ w', ArrU w' g l' → (∀ B, B ≤ g → Below B w w') → (∀ g2 l2, g2 ≠ g → ArrU w g2 l2 → ArrU w' g2 l2) → wpList P ops Q rest (a.put o.dst undef) w') : wpList P ops Q (o :: rest) a w := by
  refine wpList_store_mid hg t x y ho g 0 (us l').toArray hx hy (by simp only [List.size_toArray, us_length, hn]; exact hl.ths) (by simp only [List.size_toArray, us_length, hn]; exact hi) (us_one l') ?_
  refine h _ (hl.put hn) (fun B hB => Lib.below_setCells_w hB _ _ _) (fun g2 l2 hne h2 => ⟨World.rangeAt_setCells_apart h2.rng g 0 _ (.inl hne), World.there_setCells h2.ths g 0 _⟩)
theorem results_U {P : Program} {fn : Func} {a : Tmp} {t : TypeId} {w : World} (h : fn.results = #[.cell a t]) (tmps : Array Value) (g : Nat) (l : List UInt32) (hx : tmps.getD a undef = .pointer (some ⟨g, 0, none⟩))
    (hl : ArrU w g l) (n : Nat) (e : TypeId) (hu : P.underlying t = some (.array n e)) (hi : (P.info? t).map (·.size) = some n) (hn : l.length = n) : (results fn tmps).run P w = .ok (aggU l) w := by
  have := run_loadVar_mid (P := P) w g 0 t (us l) _ hl.rng hu rfl (by rw [us_length, hn]; exact hi)
  rw [Array.getD_eq_getD_getElem?] at hx
  simp [results, h, hx, asAddr, this, aggU]
end Go.Proofs.YtchfpiadfmnphaaDoor
