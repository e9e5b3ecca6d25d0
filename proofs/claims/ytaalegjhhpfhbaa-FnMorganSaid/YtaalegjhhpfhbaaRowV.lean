/- Variables of several cells (a struct, an array) that lie in a block of their own, as wholes; what the operations on them do. -/
import Derived.Test.YtaalegjhhpfhbaaIntRow
import Derived.Deep.MidRow
import Derived.Great.Ranges
import Derived.Lib.EndianMore
namespace Go.Proofs.Ytaalegjhhpfhbaa
open Go.RowKit
set_option linter.unusedVariables false

structure RowV (w : World) (g : Nat) (l : List Value) : Prop where
  rng : w.rangeAt g 0 l
  ths : w.there g 0 l.length
theorem RowV.of_block {w : World} {g : Nat} {l : List Value} {t : TypeId} (h : w.heap[g]? = some (.cells l.toArray t (0, 0))) : RowV w g l := by
  refine ⟨fun j v hv => ?_, fun j hj => ⟨?_, ?_⟩⟩
  · simpa [World.cell?, h] using hv
  · simp [World.cell?, h, hj]
  · simp [World.frozen?, h]
theorem RowV.new (w : World) (l : List Value) (t : TypeId) : RowV (w.alloc (.cells l.toArray t)) w.heap.size l := RowV.of_block (heap_alloc_new w _)
theorem RowV.cell {w : World} {g : Nat} {l : List Value} (h : RowV w g l) {k : Nat} {v : Value} (hk : l[k]? = some v) : w.cell? ⟨g, k, none⟩ = some v := by
  have := h.rng k v hk
  rw [Nat.zero_add] at this
  exact this
theorem RowV.lt {w : World} {g : Nat} {l : List Value} (h : RowV w g l) (hl : l ≠ []) : g < w.heap.size := by
  cases l with
  | nil => exact absurd rfl hl
  | cons v r => exact cellLt (h.cell (k := 0) rfl)
theorem RowV.frozen {w : World} {g : Nat} {l : List Value} (h : RowV w g l) {k : Nat} (hk : k < l.length) : w.frozen? ⟨g, k, none⟩ = false := by
  have := (h.ths k hk).2
  rw [Nat.zero_add] at this
  exact this
theorem RowV.same {w w' : World} {g : Nat} {l : List Value} (h : RowV w g l) (hs : ∀ k, w'.cell? ⟨g, k, none⟩ = w.cell? ⟨g, k, none⟩ ∧ w'.frozen? ⟨g, k, none⟩ = w.frozen? ⟨g, k, none⟩) : RowV w' g l :=
  ⟨fun j v hv => (hs _).1.trans (h.rng j v hv), fun j hj => by rw [(hs _).1, (hs _).2]; exact h.ths j hj⟩
theorem RowV.below {w w' : World} {g B : Nat} {l : List Value} (h : RowV w g l) (hb : Below B w w') (hB : g < B) : RowV w' g l :=
  h.same fun k => ⟨hb.cell (p := ⟨g, k, none⟩) hB, hb.frozen (p := ⟨g, k, none⟩) hB⟩
theorem RowV.drew {w : World} {g : Nat} {l : List Value} (h : RowV w g l) : RowV w.drew g l := ⟨h.rng, h.ths⟩
theorem RowV.drewN {w : World} {g : Nat} {l : List Value} (h : RowV w g l) (n : Nat) : RowV (w.drewN n) g l := ⟨h.rng, h.ths⟩
theorem RowV.put {w : World} {g : Nat} {l l' : List Value} (h : RowV w g l) (hl : l'.length = l.length) : RowV (w.setCells g 0 l') g l' :=
  ⟨World.rangeAt_setCells_same w g 0 l' (by rw [hl]; exact h.ths), by rw [hl]; exact World.there_setCells h.ths g 0 l'⟩

theorem setCells_size (g : Nat) : ∀ (l : List Value) (o : Nat) (w : World), (w.setCells g o l).heap.size = w.heap.size
  | [], _, _ => rfl
  | v :: r, o, w => by rw [World.setCells, setCells_size g r, World.size_setCell]
theorem wpList_boxV {P : Program} {ops : Array Oper} {rest : List Oper} {o : Oper} {a : Act} {w : World} {Q : Exit → Act → World → Prop} (hg : o.guard = none) (t : TypeId) (x : Operand) (ho : o.op = .box t x) (l : List Value) (hx : a.eval x = .agg l.toArray)
    (h : ∀ w', RowV w' w.heap.size l → Below w.heap.size w w' → w'.heap.size = w.heap.size + 1 → wpList P ops Q rest (a.put o.dst (.pointer (some ⟨w.heap.size, 0, none⟩))) w') : wpList P ops Q (o :: rest) a w :=
  Great.wpList_boxTo hg t x ho o.dst rfl w.heap.size rfl l.toArray (by rw [hx]; rfl)
    (h _ (RowV.new w l t) ((Below.refl _ _).alloc (Nat.le_refl _) _) (Array.size_push _))
theorem wpList_allocV {P : Program} {ops : Array Oper} {rest : List Oper} {o : Oper} {a : Act} {w : World} {Q : Exit → Act → World → Prop} (hg : o.guard = none) (t : TypeId) (ho : o.op = .alloc t) (l : List Value)
    (hi : (P.info? t).map (fun i => i.zero) = some (some (.agg l.toArray)))
    (h : ∀ w', RowV w' w.heap.size l → Below w.heap.size w w' → w'.heap.size = w.heap.size + 1 → wpList P ops Q rest (a.put o.dst (.pointer (some ⟨w.heap.size, 0, none⟩))) w') : wpList P ops Q (o :: rest) a w := by
  refine wpList_plain hg fun K hK => ?_
  cases hq : P.info? t with
  | none => simp [hq] at hi
  | some i =>
    have hz : i.zero = some (.agg l.toArray) := by simpa [hq] using hi
    unfold Oper.wp execOp
    simp only [ho, Sem.run_bind, Instr.alloc, zeroValue, run_typeInfo w hq, hz, newVar, newRow, run_newObj_alloc, Sem.run_pure, Result.andThen_ok]
    exact hK _ _ (h _ (RowV.new w _ t) ((Below.refl _ _).alloc (Nat.le_refl _) _) (Array.size_push _))
theorem wpList_loadV {P : Program} {ops : Array Oper} {rest : List Oper} {o : Oper} {a : Act} {w : World} {Q : Exit → Act → World → Prop} (hg : o.guard = none) (t : TypeId) (x : Operand) (ho : o.op = .load t x) (g : Nat) (l : List Value)
    (hx : a.eval x = .pointer (some ⟨g, 0, none⟩)) (hl : RowV w g l) (hu : ∃ d, P.underlying t = some d ∧ d.isRow = true) (n : Nat) (hi : (P.info? t).map (·.size) = some n) (hn : l.length = n)
    (h : wpList P ops Q rest (a.put o.dst (.agg l.toArray)) w) : wpList P ops Q (o :: rest) a w := by
  obtain ⟨d, hd, hr⟩ := hu
  exact wpList_load_mid hg t x ho g 0 hx l d hl.rng hd hr (by rw [hn]; exact hi) h
theorem wpList_storeV {P : Program} {ops : Array Oper} {rest : List Oper} {o : Oper} {a : Act} {w : World} {Q : Exit → Act → World → Prop} (hg : o.guard = none) (t : TypeId) (x y : Operand) (ho : o.op = .store t x y) (g : Nat) (l l' : List Value)
    (hx : a.eval x = .pointer (some ⟨g, 0, none⟩)) (hy : a.eval y = .agg l'.toArray) (hl : RowV w g l) (n : Nat) (hi : (P.info? t).map (·.size) = some n) (hn : l.length = n) (hn' : l'.length = n) (h1 : ∀ v ∈ l', v.oneCell' = true)
    (h : ∀ w', RowV w' g l' → (∀ B, B ≤ g → Below B w w') → (∀ x : Addr, x.block ≠ g → w'.cell? x = w.cell? x ∧ w'.frozen? x = w.frozen? x) → w'.heap.size = w.heap.size → wpList P ops Q rest (a.put o.dst undef) w') : wpList P ops Q (o :: rest) a w := by
  subst hn
  refine wpList_store_mid hg t x y ho g 0 l'.toArray hx hy (by simp only [List.size_toArray, hn']; exact hl.ths) (by simp only [List.size_toArray, hn']; exact hi) (by rw [Array.all_eq_true_iff_forall_mem]; intro v hv; exact h1 v (by simpa using hv)) ?_
  refine h _ (hl.put hn') (fun B hB => Lib.below_setCells_w hB _ _ _) (fun x hx => ⟨World.cell?_setCells_out g _ _ _ x (fun e => absurd e hx), World.frozen?_setCells g _ _ _ x⟩) ?_
  exact setCells_size g _ 0 w
theorem results_V {P : Program} {fn : Func} {a : Tmp} {t : TypeId} {w : World} (h : fn.results = #[.cell a t]) (tmps : Array Value) (g : Nat) (l : List Value) (hx : tmps.getD a undef = .pointer (some ⟨g, 0, none⟩))
    (hl : RowV w g l) (hu : ∃ d, P.underlying t = some d ∧ d.isRow = true) (n : Nat) (hi : (P.info? t).map (·.size) = some n) (hn : l.length = n) : (results fn tmps).run P w = .ok (.agg l.toArray) w := by
  obtain ⟨d, hd, hr⟩ := hu
  have := run_loadVar_mid (P := P) w g 0 t l d hl.rng hd hr (by rw [hn]; exact hi)
  rw [Array.getD_eq_getD_getElem?] at hx
  simp [results, h, hx, asAddr, this]
end Go.Proofs.Ytaalegjhhpfhbaa
