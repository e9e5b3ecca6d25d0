/- Calls that write into one block alone. -/
import Derived.Test.YtaalegjhhpfhbaaBld
import Derived.Deep.RegionHeld3
namespace Go.Proofs.Ytaalegjhhpfhbaa
open Go.RowKit
set_option linter.unusedVariables false

structure Only (g : Nat) (w w' : World) : Prop where
  below : Below g w w'
  blk : ∀ k, k ≠ g → k < w.heap.size → w'.heap[k]? = w.heap[k]?
  size : w.heap.size ≤ w'.heap.size
theorem Only.far {g : Nat} {w w' : World} (h : Only g w w') : ∀ x : Addr, x.block ≠ g → x.block < w.heap.size → w'.cell? x = w.cell? x ∧ w'.frozen? x = w.frozen? x := fun x hx hl => same_far (h.blk x.block hx hl)
theorem Only.refl (g : Nat) (w : World) : Only g w w := ⟨Below.refl _ _, fun _ _ _ => rfl, Nat.le_refl _⟩
theorem Only.trans {g : Nat} {w w1 w2 : World} (h : Only g w w1) (k : Only g w1 w2) : Only g w w2 :=
  ⟨h.below.trans k.below, fun x hx hl => (k.blk x hx (Nat.lt_of_lt_of_le hl h.size)).trans (h.blk x hx hl), Nat.le_trans h.size k.size⟩
theorem Only.of {g : Nat} {w w' : World} (h : Below w.heap.size w w') (hg : g ≤ w.heap.size) : Only g w w' := ⟨h.mono hg, fun k _ hl => h.block k hl, h.size⟩
theorem Only.drew {g : Nat} {w w' : World} (h : Only g w w') : Only g w w'.drew := ⟨h.below.drew, h.blk, h.size⟩
theorem Only.set {g : Nat} {w w' : World} (hB : ∀ B, B ≤ g → Below B w w') (hF : ∀ k, k ≠ g → w'.heap[k]? = w.heap[k]?) (hS : w'.heap.size = w.heap.size) : Only g w w' := ⟨hB g (Nat.le_refl _), fun x hx _ => hF x hx, by omega⟩
theorem Only.row {g b : Nat} {w w' : World} {l : List Value} (h : Only g w w') (hr : RowV w b l) (hl : l ≠ []) (hne : b ≠ g) : RowV w' b l := hr.same fun k => h.far ⟨b, k, none⟩ hne (hr.lt hl)
theorem Only.bel {g B : Nat} {w w' : World} (h : Only g w w') (hB : B ≤ g) : Below B w w' := h.below.mono hB
theorem setCells_blk (g : Nat) : ∀ (l : List Value) (o : Nat) (w : World) (k : Nat), k ≠ g → (w.setCells g o l).heap[k]? = w.heap[k]?
  | [], _, _, _, _ => rfl
  | v :: r, o, w, k, hk => by rw [World.setCells, setCells_blk g r _ _ k hk, Below.heap_setCell _ _ _ _ hk]
theorem wpList_storeH {P : Program} {ops : Array Oper} {rest : List Oper} {o : Oper} {a : Act} {w : World} {Q : Exit → Act → World → Prop} (hg : o.guard = none) (t : TypeId) (x y : Operand) (ho : o.op = .store t x y) (g : Nat) (l l' : List Value)
    (hx : a.eval x = .pointer (some ⟨g, 0, none⟩)) (hy : a.eval y = .agg l'.toArray) (hl : RowV w g l) (n : Nat) (hi : (P.info? t).map (·.size) = some n) (hn : l.length = n) (hn' : l'.length = n) (h1 : ∀ v ∈ l', v.oneCell' = true)
    (h : ∀ w', RowV w' g l' → (∀ B, B ≤ g → Below B w w') → (∀ k, k ≠ g → w'.heap[k]? = w.heap[k]?) → w'.heap.size = w.heap.size → wpList P ops Q rest (a.put o.dst undef) w') : wpList P ops Q (o :: rest) a w := by
  subst hn
  refine wpList_store_mid hg t x y ho g 0 l'.toArray hx hy (by simp only [List.size_toArray, hn']; exact hl.ths) (by simp only [List.size_toArray, hn']; exact hi) (by rw [Array.all_eq_true_iff_forall_mem]; intro v hv; exact h1 v (by simpa using hv)) ?_
  exact h _ (hl.put hn') (fun B hB => Lib.below_setCells_w hB _ _ _) (fun k hk => setCells_blk g _ _ _ k hk) (setCells_size g _ 0 w)
theorem wpList_cellH {P : Program} {ops : Array Oper} {rest : List Oper} {o : Oper} {a : Act} {w : World} {Q : Exit → Act → World → Prop} (hg : o.guard = none) (t : TypeId) (x y : Operand) (ho : o.op = .store t x y) (g k : Nat) (l l' : List Value) (v : Value)
    (hx : a.eval x = .pointer (some ⟨g, k, none⟩)) (hy : a.eval y = v) (hp : plainV v = true) (hi : (P.info? t).map (·.size) = some 1) (hl : RowV w g l) (hk : k < l.length) (hl' : l' = l.set k v)
    (h : ∀ w', RowV w' g l' → (∀ B, B ≤ g → Below B w w') → (∀ k, k ≠ g → w'.heap[k]? = w.heap[k]?) → w'.heap.size = w.heap.size → wpList P ops Q rest (a.put o.dst undef) w') : wpList P ops Q (o :: rest) a w := by
  refine wpList_plain hg fun K hK => ?_
  have hc : w.cell? ⟨g, k, none⟩ = some l[k] := hl.cell (List.getElem?_eq_getElem hk)
  have hf : w.frozen? ⟨g, k, none⟩ = false := hl.frozen hk
  have hh := h _ (hl.setAt hk hl') (fun B hB => (Below.refl B w).setCell hB v) (fun j hj => Below.heap_setCell _ _ _ _ hj) (World.size_setCell ..)
  generalize l[k] = u at hc
  obtain ⟨ti, hti, hts⟩ := Option.map_eq_some_iff.1 hi
  cases v with
  | int kd n =>
    simp only [Oper.wp, execOp, ho, hx, hy, Instr.storeAt, Instr.sureAddr, Sem.run_bind, Sem.run_pure, Result.andThen_ok]
    simp [go_sem, hc, hf, hti, hts, storeCells, sizeOf, typeInfo]
    exact hK _ _ hh
  | string s =>
    simp only [Oper.wp, execOp, ho, hx, hy, Instr.storeAt, Instr.sureAddr, Sem.run_bind, Sem.run_pure, Result.andThen_ok]
    simp [go_sem, hc, hf, hti, hts, storeCells, sizeOf, typeInfo]
    exact hK _ _ hh
  | slice p n c =>
    simp only [Oper.wp, execOp, ho, hx, hy, Instr.storeAt, Instr.sureAddr, Sem.run_bind, Sem.run_pure, Result.andThen_ok]
    simp [go_sem, hc, hf, hti, hts, storeCells, sizeOf, typeInfo]
    exact hK _ _ hh
  | _ => simp [plainV] at hp
theorem wp_cellO {P : Program} {o : Oper} {a : Act} {w : World} {K : Act → World → Prop} {Q : Exit → Act → World → Prop} (t : TypeId) (x y : Operand) (ho : o.op = .store t x y) (g k : Nat) (l l' : List Value) (v : Value)
    (hx : a.eval x = .pointer (some ⟨g, k, none⟩)) (hy : a.eval y = v) (hp : plainV v = true) (hi : (P.info? t).map (·.size) = some 1) (hl : RowV w g l) (hk : k < l.length) (hl' : l' = l.set k v)
    (h : ∀ w', RowV w' g l' → Only g w w' → K (a.put o.dst undef) w') : o.wp P a w K Q := by
  have hc : w.cell? ⟨g, k, none⟩ = some l[k] := hl.cell (List.getElem?_eq_getElem hk)
  have hf : w.frozen? ⟨g, k, none⟩ = false := hl.frozen hk
  have hh := h _ (hl.setAt hk hl') (Only.set (fun B hB => (Below.refl B w).setCell hB v) (fun j hj => Below.heap_setCell _ _ _ _ hj) (World.size_setCell ..))
  generalize l[k] = u at hc
  obtain ⟨ti, hti, hts⟩ := Option.map_eq_some_iff.1 hi
  cases v with
  | int kd n =>
    simp only [Oper.wp, execOp, ho, hx, hy, Instr.storeAt, Instr.sureAddr, Sem.run_bind, Sem.run_pure, Result.andThen_ok]
    simp [go_sem, hc, hf, hti, hts, storeCells, sizeOf, typeInfo]
    exact hh
  | string s =>
    simp only [Oper.wp, execOp, ho, hx, hy, Instr.storeAt, Instr.sureAddr, Sem.run_bind, Sem.run_pure, Result.andThen_ok]
    simp [go_sem, hc, hf, hti, hts, storeCells, sizeOf, typeInfo]
    exact hh
  | slice p n c =>
    simp only [Oper.wp, execOp, ho, hx, hy, Instr.storeAt, Instr.sureAddr, Sem.run_bind, Sem.run_pure, Result.andThen_ok]
    simp [go_sem, hc, hf, hti, hts, storeCells, sizeOf, typeInfo]
    exact hh
  | _ => simp [plainV] at hp
theorem wp_load1 {P : Program} {o : Oper} {a : Act} {w : World} {K : Act → World → Prop} {Q : Exit → Act → World → Prop} (t e : TypeId) (x : Operand) (ho : o.op = .load t x) (g k : Nat) (v : Value) (hx : a.eval x = .pointer (some ⟨g, k, none⟩)) (hc : w.cell? ⟨g, k, none⟩ = some v) (ht : P.underlying t = some (.slice e))
    (h : K (a.put o.dst v) w) : o.wp P a w K Q := by
  have h2 : (loadVar t ⟨g, k, none⟩).run P w = .ok v w := by simp [loadVar, isAgg, run_underlying ht, go_sem, hc]
  unfold Oper.wp execOp
  simp only [ho, hx, Instr.loadAt, Instr.sureAddr, Sem.run_bind, Sem.run_pure, Result.andThen_ok, h2]
  exact h
theorem own_same {w w' : World} {base e s : Nat} {v : Value} {n : Nat} {xs : List Value} (h : w.ownsRow base e s v n xs) (hk : ∀ k, v.ownBlock = some k → k < w.heap.size → w'.heap[k]? = w.heap[k]?) : w'.ownsRow base e s v n xs := by
  refine ⟨h.1, ?_⟩
  rcases h.2 with h0 | ⟨g, cap, cur, hv, hbg, hg, h1, h2, h3, h4⟩
  · exact .inl h0
  · exact .inr ⟨g, cap, cur, hv, hbg, (hk g (by rw [hv]; rfl) (Array.getElem?_eq_some_iff.1 hg).1).trans hg, h1, h2, h3, h4⟩
theorem own_ge {w : World} {base e s : Nat} {v : Value} {n : Nat} {xs : List Value} (h : w.ownsRow base e s v n xs) {k : Nat} (hk : v.ownBlock = some k) : base ≤ k ∧ k < w.heap.size := by
  rcases h.2 with ⟨h0, _⟩ | ⟨g, cap, cur, hv, hbg, hg, _⟩
  · rw [h0] at hk; cases hk
  · rw [hv] at hk
    cases hk
    exact ⟨hbg, (Array.getElem?_eq_some_iff.1 hg).1⟩
theorem row_blk {w w' : World} {g : Nat} {l : List Value} (h : RowV w g l) (hk : w'.heap[g]? = w.heap[g]?) : RowV w' g l := h.same fun k => same_far (x := ⟨g, k, none⟩) hk
end Go.Proofs.Ytaalegjhhpfhbaa
