/- Calls that write into one block alone. What stands while a call goes on: the rows of its own variables, and things that lie in blocks of which nothing is written. Of each type that is a row of cells: that it is one, how many, what it is at first; of a scalar: that it is one cell. Rows that are marked, whatever their elements. What leaves every block but one as it was; a reader's cells. Texts that a call appends to a slice of its own. Marks in texts: what the laws' helpers markText, markStringS, heldStringS answer. Texts turned to the program's, as a thing that was made. Stores in the laws' helpers: their room, turned to the program's, held against others. Stores and what is told of them in the laws' helpers: held against others, marks. -/
import Derived.Test.YtchfpiadfmnphaaDoorJn10
import Derived.Deep.RegionHeld3
import Derived.Test.YtchfpiadfmnphaaDoorJn4
import Derived.Maps.AppendAt
namespace Go.Proofs.YtchfpiadfmnphaaDoor
open Go.RowKit
set_option linter.unusedVariables false

structure Only (g : Nat) (w w' : World) : Prop where
  below : Below g w w'
  blk : ∀ k, k ≠ g → k < w.heap.size → w'.heap[k]? = w.heap[k]?
  size : w.heap.size ≤ w'.heap.size
theorem Only.far {g : Nat} {w w' : World} (h : Only g w w') : ∀ x : Addr, x.block ≠ g → x.block < w.heap.size → w'.cell? x = w.cell? x ∧ w'.frozen? x = w.frozen? x := fun x hx hl => same_far (h.blk x.block hx hl)
theorem Only.refl (g : Nat) (w : World) : Only g w w := ⟨Below.refl _ _, fun _ _ _ => rfl, Nat.le_refl _⟩
theorem Only.trans {g : Nat} {w w1 w2 : World} (h : Only g w w1) (k : Only g w1 w2) : Only g w w2 :=
  ⟨h.below.trans k.below, fun x hx hl => (k.blk x hx (Nat.lt_of_lt_of_le hl h.size)).trans (h.blk x hx hl), Nat.le_trans h.size k.size⟩
theorem Only.of {g : Nat} {w w' : World} (h : Below w.heap.size w w') (hg : g ≤ w.heap.size) : Only g w w' := ⟨h.mono hg, fun k _ hl => h.block k hl, h.size⟩
theorem Only.drew {g : Nat} {w w' : World} (h : Only g w w') : Only g w w'.drew := ⟨h.below.drew, h.blk, h.size⟩
theorem Only.set {g : Nat} {w w' : World} (hB : ∀ B, B ≤ g → Below B w w') (hF : ∀ k, k ≠ g → w'.heap[k]? = w.heap[k]?) (hS : w'.heap.size = w.heap.size) : Only g w w' := ⟨hB g (Nat.le_refl _), fun x hx _ => hF x hx, by omega⟩
theorem Only.row {g b : Nat} {w w' : World} {l : List Value} (h : Only g w w') (hr : RowV w b l) (hl : l ≠ []) (hne : b ≠ g) : RowV w' b l := hr.same fun k => h.far ⟨b, k, none⟩ hne (hr.lt hl)
theorem Only.bel {g B : Nat} {w w' : World} (h : Only g w w') (hB : B ≤ g) : Below B w w' := h.below.mono hB
theorem setCells_blk (g : Nat) : ∀ (l : List Value) (o : Nat) (w : World) (k : Nat), k ≠ g → (w.setCells g o l).heap[k]? = w.heap[k]?
  | [], _, _, _, _ => rfl
  | v :: r, o, w, k, hk => by rw [World.setCells, setCells_blk g r _ _ k hk, Below.heap_setCell _ _ _ _ hk]
theorem wpList_storeH {P : Program} {ops : Array Oper} {rest : List Oper} {o : Oper} {a : Act} {w : World} {Q : Exit → Act → World → Prop} (hg : o.guard = none) (t : TypeId) (x y : Operand) (ho : o.op = .store t x y) (g : Nat) (l l' : List Value)
    (hx : a.eval x = .pointer (some ⟨g, 0, none⟩)) (hy : a.eval y = .agg l'.toArray) (hl : RowV w g l) (n : Nat) (hi : (P.info? t).map (·.size) = some n) (hn : l.length = n) (hn' : l'.length = n) (h1 : ∀ v ∈ l', v.oneCell' = true)
    (h : ∀ w', RowV w' g l' → (∀ B, B ≤ g → Below B w w') → (∀ k, k ≠ g → w'.heap[k]? = w.heap[k]?) → w'.heap.size = w.heap.size → wpList P ops Q rest (a.put o.dst undef) w') : wpList P ops Q (o :: rest) a w := by
  subst hn
  refine wpList_store_mid hg t x y ho g 0 l'.toArray hx hy (by simp only [List.size_toArray, hn']; exact hl.ths) (by simp only [List.size_toArray, hn']; exact hi) (by rw [Array.all_eq_true_iff_forall_mem]; intro v hv; exact h1 v (by simpa using hv)) ?_
  exact h _ (hl.put hn') (fun B hB => Lib.below_setCells_w hB _ _ _) (fun k hk => setCells_blk g _ _ _ k hk) (setCells_size g _ 0 w)
theorem wpList_cellH {P : Program} {ops : Array Oper} {rest : List Oper} {o : Oper} {a : Act} {w : World} {Q : Exit → Act → World → Prop} (hg : o.guard = none) (t : TypeId) (x y : Operand) (ho : o.op = .store t x y) (g k : Nat) (l l' : List Value) (v : Value)
    (hx : a.eval x = .pointer (some ⟨g, k, none⟩)) (hy : a.eval y = v) (hp : plainV v = true) (hi : (P.info? t).map (·.size) = some 1) (hl : RowV w g l) (hk : k < l.length) (hl' : l' = l.set k v)
    (h : ∀ w', RowV w' g l' → (∀ B, B ≤ g → Below B w w') → (∀ k, k ≠ g → w'.heap[k]? = w.heap[k]?) → w'.heap.size = w.heap.size → wpList P ops Q rest (a.put o.dst undef) w') : wpList P ops Q (o :: rest) a w := by
  refine wpList_plain hg fun K hK => ?_
  have hc : w.cell? ⟨g, k, none⟩ = some l[k] := hl.cell (List.getElem?_eq_getElem hk)
  have hf : w.frozen? ⟨g, k, none⟩ = false := hl.frozen hk
  have hh := h _ (hl.setAt hk hl') (fun B hB => (Below.refl B w).setCell hB v) (fun j hj => Below.heap_setCell _ _ _ _ hj) (World.size_setCell ..)
  generalize l[k] = u at hc
  obtain ⟨ti, hti, hts⟩ := Option.map_eq_some_iff.1 hi
  cases v with
  | int kd n =>
    simp only [Oper.wp, execOp, ho, hx, hy, Instr.storeAt, Instr.sureAddr, Sem.run_bind, Sem.run_pure, Result.andThen_ok]
    simp [go_sem, hc, hf, hti, hts, storeCells, sizeOf, typeInfo]
    exact hK _ _ hh
  | string s =>
    simp only [Oper.wp, execOp, ho, hx, hy, Instr.storeAt, Instr.sureAddr, Sem.run_bind, Sem.run_pure, Result.andThen_ok]
    simp [go_sem, hc, hf, hti, hts, storeCells, sizeOf, typeInfo]
    exact hK _ _ hh
  | slice p n c =>
    simp only [Oper.wp, execOp, ho, hx, hy, Instr.storeAt, Instr.sureAddr, Sem.run_bind, Sem.run_pure, Result.andThen_ok]
    simp [go_sem, hc, hf, hti, hts, storeCells, sizeOf, typeInfo]
    exact hK _ _ hh
  | _ => simp [plainV] at hp
theorem wp_cellO {P : Program} {o : Oper} {a : Act} {w : World} {K : Act → World → Prop} {Q : Exit → Act → World → Prop} (t : TypeId) (x y : Operand) (ho : o.op = .store t x y) (g k : Nat) (l l' : List Value) (v : Value)
    (hx : a.eval x = .pointer (some ⟨g, k, none⟩)) (hy : a.eval y = v) (hp : plainV v = true) (hi : (P.info? t).map (·.size) = some 1) (hl : RowV w g l) (hk : k < l.length) (hl' : l' = l.set k v)
    (h : ∀ w', RowV w' g l' → Only g w w' → K (a.put o.dst undef) w') : o.wp P a w K Q := by
  have hc : w.cell? ⟨g, k, none⟩ = some l[k] := hl.cell (List.getElem?_eq_getElem hk)
  have hf : w.frozen? ⟨g, k, none⟩ = false := hl.frozen hk
  have hh := h _ (hl.setAt hk hl') (Only.set (fun B hB => (Below.refl B w).setCell hB v) (fun j hj => Below.heap_setCell _ _ _ _ hj) (World.size_setCell ..))
  generalize l[k] = u at hc
  obtain ⟨ti, hti, hts⟩ := Option.map_eq_some_iff.1 hi
  cases v with
  | int kd n =>
    simp only [Oper.wp, execOp, ho, hx, hy, Instr.storeAt, Instr.sureAddr, Sem.run_bind, Sem.run_pure, Result.andThen_ok]
    simp [go_sem, hc, hf, hti, hts, storeCells, sizeOf, typeInfo]
    exact hh
  | string s =>
    simp only [Oper.wp, execOp, ho, hx, hy, Instr.storeAt, Instr.sureAddr, Sem.run_bind, Sem.run_pure, Result.andThen_ok]
    simp [go_sem, hc, hf, hti, hts, storeCells, sizeOf, typeInfo]
    exact hh
  | slice p n c =>
    simp only [Oper.wp, execOp, ho, hx, hy, Instr.storeAt, Instr.sureAddr, Sem.run_bind, Sem.run_pure, Result.andThen_ok]
    simp [go_sem, hc, hf, hti, hts, storeCells, sizeOf, typeInfo]
    exact hh
  | _ => simp [plainV] at hp
theorem wp_load1 {P : Program} {o : Oper} {a : Act} {w : World} {K : Act → World → Prop} {Q : Exit → Act → World → Prop} (t e : TypeId) (x : Operand) (ho : o.op = .load t x) (g k : Nat) (v : Value) (hx : a.eval x = .pointer (some ⟨g, k, none⟩)) (hc : w.cell? ⟨g, k, none⟩ = some v) (ht : P.underlying t = some (.slice e))
    (h : K (a.put o.dst v) w) : o.wp P a w K Q := by
  have h2 : (loadVar t ⟨g, k, none⟩).run P w = .ok v w := by simp [loadVar, isAgg, run_underlying ht, go_sem, hc]
  unfold Oper.wp execOp
  simp only [ho, hx, Instr.loadAt, Instr.sureAddr, Sem.run_bind, Sem.run_pure, Result.andThen_ok, h2]
  exact h
theorem own_same {w w' : World} {base e s : Nat} {v : Value} {n : Nat} {xs : List Value} (h : w.ownsRow base e s v n xs) (hk : ∀ k, v.ownBlock = some k → k < w.heap.size → w'.heap[k]? = w.heap[k]?) : w'.ownsRow base e s v n xs := by
  refine ⟨h.1, ?_⟩
  rcases h.2 with h0 | ⟨g, cap, cur, hv, hbg, hg, h1, h2, h3, h4⟩
  · exact .inl h0
  · exact .inr ⟨g, cap, cur, hv, hbg, (hk g (by rw [hv]; rfl) (Array.getElem?_eq_some_iff.1 hg).1).trans hg, h1, h2, h3, h4⟩
theorem own_ge {w : World} {base e s : Nat} {v : Value} {n : Nat} {xs : List Value} (h : w.ownsRow base e s v n xs) {k : Nat} (hk : v.ownBlock = some k) : base ≤ k ∧ k < w.heap.size := by
  rcases h.2 with ⟨h0, _⟩ | ⟨g, cap, cur, hv, hbg, hg, _⟩
  · rw [h0] at hk; cases hk
  · rw [hv] at hk
    cases hk
    exact ⟨hbg, (Array.getElem?_eq_some_iff.1 hg).1⟩
theorem row_blk {w w' : World} {g : Nat} {l : List Value} (h : RowV w g l) (hk : w'.heap[g]? = w.heap[g]?) : RowV w' g l := h.same fun k => same_far (x := ⟨g, k, none⟩) hk
end Go.Proofs.YtchfpiadfmnphaaDoor
namespace Go.Proofs.YtchfpiadfmnphaaDoor
open Go.RowKit
set_option linter.unusedVariables false

/- All but the blocks T, of those that were there, is as it was. -/
structure Mrk (T : Nat → Prop) (w w' : World) : Prop where
  blk : ∀ k, k < w.heap.size → ¬ T k → w'.heap[k]? = w.heap[k]?
  below : ∀ B, B ≤ w.heap.size → (∀ b, T b → B ≤ b) → Below B w w'
  size : w.heap.size ≤ w'.heap.size
theorem Mrk.far {T : Nat → Prop} {w w' : World} (h : Mrk T w w') : ∀ x : Addr, x.block < w.heap.size → ¬ T x.block → w'.cell? x = w.cell? x ∧ w'.frozen? x = w.frozen? x := fun x hx hn => same_far (h.blk x.block hx hn)
theorem Mrk.of {T : Nat → Prop} {w w' : World} (hb : Below w.heap.size w w') : Mrk T w w' := ⟨fun k hk _ => hb.block k hk, fun B hB _ => hb.mono hB, hb.size⟩
theorem Mrk.trans {T : Nat → Prop} {w w1 w2 : World} (h : Mrk T w w1) (k : Mrk T w1 w2) : Mrk T w w2 :=
  ⟨fun j hj ht => (k.blk j (Nat.lt_of_lt_of_le hj h.size) ht).trans (h.blk j hj ht), fun B hB ht => (h.below B hB ht).trans (k.below B (Nat.le_trans hB h.size) ht), Nat.le_trans h.size k.size⟩
theorem Mrk.mono {T T' : Nat → Prop} {w w' : World} (h : Mrk T w w') (ht : ∀ b, T b → T' b) : Mrk T' w w' := ⟨fun j hj hn => h.blk j hj (fun k => hn (ht _ k)), fun B hB hk => h.below B hB (fun b hb => hk b (ht b hb)), h.size⟩
theorem RowV.midS {w : World} {g : Nat} {l : List Value} (h : RowV w g l) {p : Nat} {l2 l' : List Value} (hp : p + l2.length ≤ l.length) (hl : l' = l.take p ++ (l2 ++ l.drop (p + l2.length))) : RowV (w.setCells g p l2) g l' := by
  have hths : ∀ j, j < l2.length → (w.cell? ⟨g, p + j, none⟩).isSome = true := fun j hj => by
    have := (h.ths (p + j) (by omega)).1
    rwa [Nat.zero_add] at this
  have hlen : l'.length = l.length := by
    rw [hl, List.length_append, List.length_append, List.length_take, List.length_drop]
    omega
  refine ⟨fun j v hv => ?_, by rw [hlen]; exact World.there_setCells h.ths _ _ _⟩
  rw [Nat.zero_add]
  rw [hl] at hv
  by_cases h1 : j < p
  · rw [List.getElem?_append_left (by rw [List.length_take]; omega), List.getElem?_take, if_pos h1] at hv
    rw [World.cell?_setCells_out g _ _ _ _ (fun _ _ => Or.inl h1)]
    exact h.cell hv
  · rw [List.getElem?_append_right (by rw [List.length_take]; omega), List.length_take, Nat.min_eq_left (by omega)] at hv
    by_cases h2 : j < p + l2.length
    · rw [List.getElem?_append_left (by omega)] at hv
      have := World.cell?_setCells_in g l2 p w hths (j - p) (by omega)
      rw [show p + (j - p) = j by omega] at this
      rw [this, ← hv, List.getElem?_eq_getElem (by omega)]
    · rw [List.getElem?_append_right (by omega), List.getElem?_drop, show p + l2.length + (j - p - l2.length) = j by omega] at hv
      rw [World.cell?_setCells_out g _ _ _ _ (fun _ _ => Or.inr (by show p + l2.length ≤ j; omega))]
      exact h.cell hv
theorem Only.mrk {g : Nat} {w w' : World} (h : Only g w w') : Mrk (fun k => k = g) w w' := ⟨fun k hk hn => h.blk k hn hk, fun B _ hb => h.below.mono (hb g rfl), h.size⟩
theorem Mrk.drew {T : Nat → Prop} {w w' : World} (h : Mrk T w w') : Mrk T w w'.drew := ⟨h.blk, fun B hB hb => (h.below B hB hb).drew, h.size⟩
theorem Mrk.refl (T : Nat → Prop) (w : World) : Mrk T w w := ⟨fun _ _ _ => rfl, fun _ _ _ => Below.refl _ _, Nat.le_refl _⟩
theorem Mrk.row {T : Nat → Prop} {w w' : World} {g : Nat} {l : List Value} (hm : Mrk T w w') (h : RowV w g l) (hl : l ≠ []) (hn : ¬ T g) : RowV w' g l := h.same fun k => hm.far ⟨g, k, none⟩ (h.lt hl) hn
/- Something that lies in blocks of its own. -/
structure Thing where
  dom : Nat → Prop
  P : World → Prop
structure Thing.here (t : Thing) (w : World) : Prop where
  lt : ∀ k, t.dom k → k < w.heap.size
  st : ∀ w', Mrk (fun k => ¬ t.dom k) w w' → t.P w'
theorem Thing.here.now {t : Thing} {w : World} (h : t.here w) : t.P w := h.st w (Mrk.refl _ _)
theorem Thing.here.chg {t : Thing} {w w2 : World} {D : Nat → Prop} (h : t.here w) (hm : Mrk D w w2) (hd : ∀ k, D k → ¬ t.dom k) : t.here w2 :=
  ⟨fun k hk => Nat.lt_of_lt_of_le (h.lt k hk) hm.size, fun w' hw => h.st w' ((hm.mono hd).trans hw)⟩
/- P holds, and all that it speaks of lies in what has been made since w0. -/
def Made (w0 w' : World) (P : World → Prop) : Prop := ∀ w2, Mrk (fun k => ¬ (w0.heap.size ≤ k ∧ k < w'.heap.size)) w' w2 → P w2
theorem Made.now {w0 w' : World} {P : World → Prop} (h : Made w0 w' P) : P w' := h w' (Mrk.refl _ _)
theorem Made.wide {w0 w1 w2 w3 : World} {P : World → Prop} (h : Made w1 w2 P) (h1 : w0.heap.size ≤ w1.heap.size) (hb : Below w2.heap.size w2 w3) : Made w0 w3 P := fun w4 hw => h w4 ((Mrk.of hb).trans (hw.mono fun k hk hn => hk ⟨by omega, by have := hb.size; omega⟩))
theorem Made.imp {w0 w' : World} {P Q : World → Prop} (h : Made w0 w' P) (hq : ∀ w, P w → Q w) : Made w0 w' Q := fun w2 hw => hq _ (h w2 hw)
/- All that was there but the blocks G is as it was. -/
structure Kpt (G : List Nat) (w0 w : World) : Prop where
  bel : Below 0 w0 w
  blk : ∀ k, k < w0.heap.size → k ∉ G → w.heap[k]? = w0.heap[k]?
theorem Kpt.size {G : List Nat} {w0 w : World} (h : Kpt G w0 w) : w0.heap.size ≤ w.heap.size := h.bel.size
theorem Kpt.refl (G : List Nat) (w : World) : Kpt G w w := ⟨Below.refl _ _, fun _ _ _ => rfl⟩
theorem Kpt.step {G : List Nat} {w0 w w2 : World} (h : Kpt G w0 w) (hb : Below 0 w w2) (hk : ∀ k, k < w0.heap.size → k ∉ G → w2.heap[k]? = w.heap[k]?) : Kpt G w0 w2 := ⟨h.bel.trans hb, fun k h1 h2 => (hk k h1 h2).trans (h.blk k h1 h2)⟩
structure Sta (G : List Nat) (w0 : World) (R : List (Nat × List Value)) (T : List Thing) (w : World) : Prop where
  bel : Kpt G w0 w
  row : ∀ x ∈ R, (w0.heap.size ≤ x.1 ∨ x.1 ∈ G) ∧ x.2 ≠ [] ∧ RowV w x.1 x.2
  thg : ∀ t ∈ T, t.here w
  dif : R.Pairwise (fun x y => x.1 ≠ y.1)
  dis : T.Pairwise (fun s t => ∀ k, s.dom k → ¬ t.dom k)
  off : ∀ x ∈ R, ∀ t ∈ T, ¬ t.dom x.1
section
variable {G : List Nat} {w0 w w2 : World} {R : List (Nat × List Value)} {T : List Thing}
theorem Sta.start (w : World) : Hid (Sta [] w [] [] w) := ⟨Kpt.refl _ _, fun x hx => (by cases hx), fun t ht => (by cases ht), .nil, .nil, fun x hx => (by cases hx)⟩
/- What came in. -/
theorem Sta.arg (P : World → Prop) (h : ∀ w', Below w.heap.size w w' → P w') : Hid (Sta [] w [] [⟨fun k => k < w.heap.size, P⟩] w) := by
  refine ⟨Kpt.refl _ _, fun x hx => (by cases hx), fun t ht => ?_, .nil, List.pairwise_singleton .., fun x hx => (by cases hx)⟩
  cases List.mem_singleton.1 ht
  exact ⟨fun k hk => hk, fun w' hw => h w' (hw.below _ (Nat.le_refl _) fun b hb => Nat.le_of_not_lt hb)⟩
/- A caller's variable at g, that is written; and what came in besides. -/
theorem Sta.recv {g : Nat} {l : List Value} (hr : RowV w g l) (hn : l ≠ []) (P : World → Prop) (h : ∀ w', Mrk (fun k => k = g ∨ w.heap.size ≤ k) w w' → P w') : Hid (Sta [g] w [(g, l)] [⟨fun k => k < w.heap.size ∧ k ≠ g, P⟩] w) := by
  refine ⟨Kpt.refl _ _, fun x hx => ?_, fun t ht => ?_, List.pairwise_singleton .., List.pairwise_singleton .., fun x hx t ht => ?_⟩
  · cases List.mem_singleton.1 hx
    exact ⟨Or.inr (List.mem_singleton.2 rfl), hn, hr⟩
  · cases List.mem_singleton.1 ht
    exact ⟨fun k hk => hk.1, fun w' hw => h w' (hw.mono fun k hk => by
      by_cases e : k = g
      · exact Or.inl e
      · exact Or.inr (Nat.le_of_not_lt fun hlt => hk ⟨hlt, e⟩))⟩
  · cases List.mem_singleton.1 hx
    cases List.mem_singleton.1 ht
    exact fun hk => hk.2 rfl
theorem Sta.call (h : Hid (Sta G w0 R T w)) (hb : Below w.heap.size w w2) : Hid (Sta G w0 R T w2) :=
  ⟨h.out.bel.step (hb.mono (Nat.zero_le _)) fun k hk _ => hb.block k (Nat.lt_of_lt_of_le hk h.out.bel.size), fun x hx => ⟨(h.out.row x hx).1, (h.out.row x hx).2.1, (h.out.row x hx).2.2.below hb ((h.out.row x hx).2.2.lt (h.out.row x hx).2.1)⟩, fun t ht => (h.out.thg t ht).chg (Mrk.of (T := fun _ => False) hb) (fun _ h => h.elim), h.out.dif, h.out.dis, h.out.off⟩
theorem Sta.drew (h : Hid (Sta G w0 R T w)) : Hid (Sta G w0 R T w.drew) :=
  ⟨⟨h.out.bel.bel.drew, h.out.bel.blk⟩, fun x hx => ⟨(h.out.row x hx).1, (h.out.row x hx).2.1, (h.out.row x hx).2.2.drew⟩, fun t ht => (h.out.thg t ht).chg (Mrk.refl (fun _ => False) _).drew (fun _ h => h.elim), h.out.dif, h.out.dis, h.out.off⟩
theorem Sta.made {P : World → Prop} (h : Hid (Sta G w0 R T w)) (hb : Below w.heap.size w w2) (hP : Made w w2 P) : Hid (Sta G w0 R (⟨fun k => w.heap.size ≤ k ∧ k < w2.heap.size, P⟩ :: T) w2) := by
  have h2 := (Sta.call h hb).out
  refine ⟨h2.bel, h2.row, fun t ht => ?_, h2.dif, List.pairwise_cons.2 ⟨fun t ht k hk hd => ?_, h2.dis⟩, fun x hx t ht hd => ?_⟩
  · rcases List.mem_cons.1 ht with rfl | ht
    · exact ⟨fun k hk => hk.2, hP⟩
    · exact h2.thg t ht
  · have := (h.out.thg t ht).lt k hd
    have := hk.1
    omega
  · rcases List.mem_cons.1 ht with rfl | ht
    · have := (h.out.row x hx).2.2.lt (h.out.row x hx).2.1
      have : w.heap.size ≤ x.1 := hd.1
      omega
    · exact h2.off x hx t ht hd
theorem Sta.new {l : List Value} (h : Hid (Sta G w0 R T w)) (hr : RowV w2 w.heap.size l) (hb : Below w.heap.size w w2) (hn : l ≠ []) : Hid (Sta G w0 ((w.heap.size, l) :: R) T w2) := by
  have h2 := (Sta.call h hb).out
  refine ⟨h2.bel, fun x hx => ?_, h2.thg, List.pairwise_cons.2 ⟨fun x hx e => ?_, h2.dif⟩, h2.dis, fun x hx t ht hd => ?_⟩
  · rcases List.mem_cons.1 hx with rfl | hx
    · exact ⟨Or.inl h.out.bel.size, hn, hr⟩
    · exact h2.row x hx
  · have := (h.out.row x hx).2.2.lt (h.out.row x hx).2.1
    have : w.heap.size = x.1 := e
    omega
  · rcases List.mem_cons.1 hx with rfl | hx
    · have := (h.out.thg t ht).lt _ hd
      exact absurd this (Nat.lt_irrefl _)
    · exact h2.off x hx t ht hd
theorem Sta.put {g : Nat} {l l' : List Value} (i : Nat) (h : Hid (Sta G w0 R T w)) (hi : R[i]? = some (g, l)) (hr : RowV w2 g l') (hn : l' ≠ []) (ho : Only g w w2) : Hid (Sta G w0 (R.set i (g, l')) T w2) := by
  obtain ⟨hlt, he⟩ := List.getElem?_eq_some_iff.1 hi
  have hmem : (g, l) ∈ R := he ▸ List.getElem_mem hlt
  have hne : ∀ j (hj : j < R.length), j ≠ i → R[j].1 ≠ g := fun j hj hji e => by
    rcases Nat.lt_or_gt_of_ne hji with h1 | h1
    · have := List.pairwise_iff_getElem.1 h.out.dif j i hj hlt h1
      rw [he] at this
      exact this e
    · have := List.pairwise_iff_getElem.1 h.out.dif i j hlt hj h1
      rw [he] at this
      exact this e.symm
  have hset : ∀ x ∈ R.set i (g, l'), x = (g, l') ∨ (x ∈ R ∧ x.1 ≠ g) := fun x hx => by
    obtain ⟨j, hj, rfl⟩ := List.mem_iff_getElem.1 hx
    rw [List.getElem_set]
    by_cases e : i = j
    · rw [if_pos e]; exact Or.inl rfl
    · rw [if_neg e]
      rw [List.length_set] at hj
      exact Or.inr ⟨List.getElem_mem hj, hne j hj (fun h => e h.symm)⟩
  refine ⟨h.out.bel.step (ho.below.mono (Nat.zero_le _)) fun k hk hl => ho.blk k (fun e => ?_) (Nat.lt_of_lt_of_le hk h.out.bel.size), fun x hx => ?_, fun t ht => (h.out.thg t ht).chg ho.mrk fun k hk => ?_, ?_, h.out.dis, fun x hx t ht => ?_⟩
  · subst e
    rcases (h.out.row _ hmem).1 with h1 | h1
    · exact absurd hk (Nat.not_lt_of_le h1)
    · exact hl h1
  · rcases hset x hx with rfl | ⟨hx, hxg⟩
    · exact ⟨(h.out.row _ hmem).1, hn, hr⟩
    · exact ⟨(h.out.row x hx).1, (h.out.row x hx).2.1, ho.row (h.out.row x hx).2.2 (h.out.row x hx).2.1 hxg⟩
  · subst hk
    exact h.out.off _ hmem t ht
  · rw [List.pairwise_iff_getElem]
    intro a b ha hb hab
    rw [List.length_set] at ha hb
    have h1 := List.pairwise_iff_getElem.1 h.out.dif a b ha hb hab
    rw [List.getElem_set, List.getElem_set]
    by_cases e1 : i = a
    · subst e1
      rw [if_pos rfl, if_neg (by omega)]
      rw [he] at h1
      exact h1
    · rw [if_neg e1]
      by_cases e2 : i = b
      · subst e2
        rw [if_pos rfl]
        rw [he] at h1
        exact h1
      · rw [if_neg e2]
        exact h1
  · rcases hset x hx with rfl | ⟨hx, _⟩
    · exact h.out.off _ hmem t ht
    · exact h.out.off x hx t ht
/- A thing is written, none other. -/
theorem Sta.mark {D : Nat → Prop} {P' : World → Prop} {t : Thing} (i : Nat) (h : Hid (Sta G w0 R T w)) (hi : T[i]? = some t) (hm : Mrk D w w2) (hD : ∀ k, D k → t.dom k) (hg : ∀ k, t.dom k → w0.heap.size ≤ k) (hP : ∀ w3, Mrk (fun k => ¬ t.dom k) w2 w3 → P' w3) : Hid (Sta G w0 R (T.set i ⟨t.dom, P'⟩) w2) := by
  obtain ⟨hlt, he⟩ := List.getElem?_eq_some_iff.1 hi
  have hmem : t ∈ T := he ▸ List.getElem_mem hlt
  have hset : ∀ s ∈ T.set i ⟨t.dom, P'⟩, s = ⟨t.dom, P'⟩ ∨ (s ∈ T ∧ ∀ k, t.dom k → ¬ s.dom k) := fun s hs => by
    obtain ⟨j, hj, rfl⟩ := List.mem_iff_getElem.1 hs
    rw [List.getElem_set]
    rw [List.length_set] at hj
    by_cases e : i = j
    · rw [if_pos e]; exact Or.inl rfl
    · rw [if_neg e]
      refine Or.inr ⟨List.getElem_mem hj, fun k hk hd => ?_⟩
      rcases Nat.lt_or_gt_of_ne e with h1 | h1
      · have := List.pairwise_iff_getElem.1 h.out.dis i j hlt hj h1 k
        rw [he] at this
        exact this hk hd
      · have := List.pairwise_iff_getElem.1 h.out.dis j i hj hlt h1 k
        rw [he] at this
        exact this hd hk
  have hbw : Below w0.heap.size w w2 := hm.below _ h.out.bel.size fun b hb => hg b (hD b hb)
  refine ⟨h.out.bel.step (hbw.mono (Nat.zero_le _)) fun k hk _ => hbw.block k hk, fun x hx => ⟨(h.out.row x hx).1, (h.out.row x hx).2.1, hm.row (h.out.row x hx).2.2 (h.out.row x hx).2.1 fun hd => h.out.off x hx t hmem (hD _ hd)⟩, fun s hs => ?_, h.out.dif, ?_, fun x hx s hs => ?_⟩
  · rcases hset s hs with rfl | ⟨hs, hd⟩
    · exact ⟨fun k hk => Nat.lt_of_lt_of_le ((h.out.thg t hmem).lt k hk) hm.size, hP⟩
    · exact (h.out.thg s hs).chg hm fun k hk => hd k (hD k hk)
  · rw [List.pairwise_iff_getElem]
    intro a b ha hb hab
    rw [List.length_set] at ha hb
    have h1 := List.pairwise_iff_getElem.1 h.out.dis a b ha hb hab
    rw [List.getElem_set, List.getElem_set]
    by_cases e1 : i = a
    · subst e1
      rw [if_pos rfl, if_neg (by omega)]
      rw [he] at h1
      exact h1
    · rw [if_neg e1]
      by_cases e2 : i = b
      · subst e2
        rw [if_pos rfl]
        rw [he] at h1
        exact h1
      · rw [if_neg e2]
        exact h1
  · rcases hset s hs with rfl | ⟨hs, _⟩
    · exact h.out.off x hx t hmem
    · exact h.out.off x hx s hs
theorem Sta.c {i k g : Nat} {l : List Value} {v : Value} (h : Hid (Sta G w0 R T w)) (hi : R[i]? = some (g, l)) (hk : l[k]? = some v) : w.cell? ⟨g, k, none⟩ = some v := by
  obtain ⟨hlt, he⟩ := List.getElem?_eq_some_iff.1 hi
  exact (h.out.row (g, l) (he ▸ List.getElem_mem hlt)).2.2.cell hk
theorem Sta.r {i g : Nat} {l : List Value} (h : Hid (Sta G w0 R T w)) (hi : R[i]? = some (g, l)) : RowV w g l := by
  obtain ⟨hlt, he⟩ := List.getElem?_eq_some_iff.1 hi
  exact (h.out.row (g, l) (he ▸ List.getElem_mem hlt)).2.2
theorem Sta.t {i : Nat} {t : Thing} (h : Hid (Sta G w0 R T w)) (hi : T[i]? = some t) : t.P w := by
  obtain ⟨hlt, he⟩ := List.getElem?_eq_some_iff.1 hi
  exact (h.out.thg t (he ▸ List.getElem_mem hlt)).now
theorem Sta.lt {i : Nat} {t : Thing} (h : Hid (Sta G w0 R T w)) (hi : T[i]? = some t) (k : Nat) (hk : t.dom k) : k < w.heap.size := by
  obtain ⟨hlt, he⟩ := List.getElem?_eq_some_iff.1 hi
  exact (h.out.thg t (he ▸ List.getElem_mem hlt)).lt k hk
theorem Sta.apart {i j : Nat} {s t : Thing} (h : Hid (Sta G w0 R T w)) (hi : T[i]? = some s) (hj : T[j]? = some t) (hij : i < j) (k : Nat) (hs : s.dom k) : ¬ t.dom k := by
  obtain ⟨h1, e1⟩ := List.getElem?_eq_some_iff.1 hi
  obtain ⟨h2, e2⟩ := List.getElem?_eq_some_iff.1 hj
  have := List.pairwise_iff_getElem.1 h.out.dis i j h1 h2 hij k
  rw [e1, e2] at this
  exact this hs
theorem Sta.made_of {i : Nat} {t : Thing} (h : Hid (Sta G w0 R T w)) (hi : T[i]? = some t) (hg : ∀ k, t.dom k → w0.heap.size ≤ k) : Made w0 w t.P := by
  obtain ⟨hlt, he⟩ := List.getElem?_eq_some_iff.1 hi
  have h1 := h.out.thg t (he ▸ List.getElem_mem hlt)
  exact fun w2 hw => h1.st w2 (hw.mono fun k hk hd => hk ⟨hg k hd, h1.lt k hd⟩)
theorem Sta.fin (h : Hid (Sta [] w0 R T w)) : Below w0.heap.size w0 w := ⟨h.out.bel.bel.os, h.out.bel.bel.tape, h.out.bel.bel.output, h.out.bel.bel.size, fun k hk => h.out.bel.blk k hk (by simp)⟩
theorem Sta.only {g : Nat} (h : Hid (Sta [g] w0 R T w)) (hg : g < w0.heap.size) : Only g w0 w :=
  ⟨⟨h.out.bel.bel.os, h.out.bel.bel.tape, h.out.bel.bel.output, h.out.bel.bel.size, fun k hk => h.out.bel.blk k (by omega) (by simp; omega)⟩, fun k hk hl => h.out.bel.blk k hl (by simp; exact hk), h.out.bel.size⟩
theorem Sta.size (h : Hid (Sta G w0 R T w)) : w0.heap.size ≤ w.heap.size := h.out.bel.size
end
theorem wpList_storeS {P : Program} {ops : Array Oper} {rest : List Oper} {o : Oper} {a : Act} {w : World} {Q : Exit → Act → World → Prop} (hg : o.guard = none) (t : TypeId) (x y : Operand) (ho : o.op = .store t x y) (g : Nat) (l l' : List Value)
    (hx : a.eval x = .pointer (some ⟨g, 0, none⟩)) (hy : a.eval y = .agg l'.toArray) (hl : RowV w g l) (n : Nat) (hi : (P.info? t).map (·.size) = some n) (hn : l.length = n) (hn' : l'.length = n) (h1 : l'.all Value.oneCell' = true)
    (h : ∀ w', RowV w' g l' → Only g w w' → wpList P ops Q rest (a.put o.dst undef) w') : wpList P ops Q (o :: rest) a w :=
  wpList_storeH hg t x y ho g l l' hx hy hl n hi hn hn' (List.all_eq_true.1 h1) fun w' hA hB hF hS => h w' hA (Only.set hB hF hS)
theorem wpList_subS {P : Program} {ops : Array Oper} {rest : List Oper} {o : Oper} {a : Act} {w : World} {Q : Exit → Act → World → Prop} (hg : o.guard = none) (t : TypeId) (x y : Operand) (ho : o.op = .store t x y) (g p n : Nat) (l l2 l' : List Value)
    (hx : a.eval x = .pointer (some ⟨g, p, none⟩)) (hy : a.eval y = .agg l2.toArray) (hi : (P.info? t).map (·.size) = some n) (hn : l2.length = n) (h1 : l2.all Value.oneCell' = true) (hl : RowV w g l) (hp : p + n ≤ l.length) (hl' : l' = l.take p ++ (l2 ++ l.drop (p + n)))
    (h : ∀ w', RowV w' g l' → Only g w w' → wpList P ops Q rest (a.put o.dst undef) w') : wpList P ops Q (o :: rest) a w := by
  subst hn
  refine wpList_storeAt hg t x y ho g p l2.length l2 hx hy (fun j hj => ?_) hi rfl (List.all_eq_true.1 h1) ?_
  · have := hl.ths (p + j) (by omega)
    rw [Nat.zero_add] at this
    exact this
  · exact h _ (hl.midS hp hl') (Only.set (fun B hB => below_set hB) (fun k hk => setCells_blk g _ _ _ k hk) (setCells_size g _ p w))
theorem wpList_cellS {P : Program} {ops : Array Oper} {rest : List Oper} {o : Oper} {a : Act} {w : World} {Q : Exit → Act → World → Prop} (hg : o.guard = none) (t : TypeId) (x y : Operand) (ho : o.op = .store t x y) (g k : Nat) (l l' : List Value) (v : Value)
    (hx : a.eval x = .pointer (some ⟨g, k, none⟩)) (hy : a.eval y = v) (hp : plainV v = true) (hi : (P.info? t).map (·.size) = some 1) (hl : RowV w g l) (hk : k < l.length) (hl' : l' = l.set k v)
    (h : ∀ w', RowV w' g l' → Only g w w' → wpList P ops Q rest (a.put o.dst undef) w') : wpList P ops Q (o :: rest) a w :=
  wpList_plain hg fun K hK => wp_cellO t x y ho g k l l' v hx hy hp hi hl hk hl' (fun w' h1 h2 => hK _ _ (h w' h1 h2))
theorem wpList_ldS {P : Program} {ops : Array Oper} {rest : List Oper} {o : Oper} {a : Act} {w : World} {Q : Exit → Act → World → Prop} (hg : o.guard = none) (t : TypeId) (x : Operand) (ho : o.op = .load t x) (g p : Nat) (l l2 : List Value)
    (hx : a.eval x = .pointer (some ⟨g, p, none⟩)) (hl : RowV w g l) (hu : ∃ d, P.underlying t = some d ∧ d.isRow = true) (n : Nat) (hi : (P.info? t).map (·.size) = some n) (hn : l2.length = n) (hs : (l.drop p).take n = l2)
    (h : wpList P ops Q rest (a.put o.dst (.agg l2.toArray)) w) : wpList P ops Q (o :: rest) a w := by
  obtain ⟨d, hd, hr⟩ := hu
  refine wpList_load_mid hg t x ho g p hx l2 d (fun j v hv => ?_) hd hr (by rw [hn]; exact hi) h
  rw [← hs, List.getElem?_take] at hv
  by_cases hj : j < n
  · rw [if_pos hj, List.getElem?_drop] at hv
    exact hl.cell hv
  · rw [if_neg hj] at hv
    cases hv
end Go.Proofs.YtchfpiadfmnphaaDoor
namespace Go.Proofs.YtchfpiadfmnphaaDoor
open Go.RowKit
set_option linter.unusedVariables false

theorem Tryd.s1_int64 : (Tryd.prog.info? 2).map (·.size) = some 1 := by kernel_rfl
theorem Tryd.s1_int : (Tryd.prog.info? 3).map (·.size) = some 1 := by kernel_rfl
theorem Tryd.s1_bool : (Tryd.prog.info? 4).map (·.size) = some 1 := by kernel_rfl
theorem Tryd.s1_uint8 : (Tryd.prog.info? 5).map (·.size) = some 1 := by kernel_rfl
theorem Tryd.s1_string : (Tryd.prog.info? 9).map (·.size) = some 1 := by kernel_rfl
theorem Tryd.s1_slint64 : (Tryd.prog.info? 75).map (·.size) = some 1 := by kernel_rfl
theorem Tryd.uT_implcursor : ∃ d, Tryd.prog.underlying 120 = some d ∧ d.isRow = true := ⟨_, Tryd.underlying120, rfl⟩
theorem Tryd.sT_implcursor : (Tryd.prog.info? 120).map (·.size) = some 2 := by kernel_rfl
theorem Tryd.zT_implcursor : (Tryd.prog.info? 120).map (fun i => i.zero) = some (some (.agg ([.string ⟨#[]⟩, .int .i64 0] : List Value).toArray)) := by kernel_rfl
theorem Tryd.uT_implreader : ∃ d, Tryd.prog.underlying 122 = some d ∧ d.isRow = true := ⟨_, Tryd.underlying122, rfl⟩
theorem Tryd.sT_implreader : (Tryd.prog.info? 122).map (·.size) = some 2 := by kernel_rfl
theorem Tryd.zT_implreader : (Tryd.prog.info? 122).map (fun i => i.zero) = some (some (.agg ([.string ⟨#[]⟩, .int .i64 0] : List Value).toArray)) := by kernel_rfl
theorem Tryd.uT_implNumOut : ∃ d, Tryd.prog.underlying 145 = some d ∧ d.isRow = true := ⟨_, Tryd.underlying145, rfl⟩
theorem Tryd.sT_implNumOut : (Tryd.prog.info? 145).map (·.size) = some 3 := by kernel_rfl
theorem Tryd.zT_implNumOut : (Tryd.prog.info? 145).map (fun i => i.zero) = some (some (.agg ([.int .i64 0, .int .i64 0, .int .i64 0] : List Value).toArray)) := by kernel_rfl
theorem Tryd.uT_implbytesFault : ∃ d, Tryd.prog.underlying 149 = some d ∧ d.isRow = true := ⟨_, Tryd.underlying149, rfl⟩
theorem Tryd.sT_implbytesFault : (Tryd.prog.info? 149).map (·.size) = some 1 := by kernel_rfl
theorem Tryd.zT_implbytesFault : (Tryd.prog.info? 149).map (fun i => i.zero) = some (some (.agg ([.int .i64 0] : List Value).toArray)) := by kernel_rfl
theorem Tryd.uT_implTextOut : ∃ d, Tryd.prog.underlying 142 = some d ∧ d.isRow = true := ⟨_, Tryd.underlying142, rfl⟩
theorem Tryd.sT_implTextOut : (Tryd.prog.info? 142).map (·.size) = some 3 := by kernel_rfl
theorem Tryd.zT_implTextOut : (Tryd.prog.info? 142).map (fun i => i.zero) = some (some (.agg ([.string ⟨#[]⟩, .int .i64 0, .int .i64 0] : List Value).toArray)) := by kernel_rfl
theorem Tryd.uT_implHash : ∃ d, Tryd.prog.underlying 77 = some d ∧ d.isRow = true := ⟨_, Tryd.underlying77, rfl⟩
theorem Tryd.sT_implHash : (Tryd.prog.info? 77).map (·.size) = some 3 := by kernel_rfl
theorem Tryd.zT_implHash : (Tryd.prog.info? 77).map (fun i => i.zero) = some (some (.agg ([.slice none 0 0, .string ⟨#[]⟩, .int .i64 0] : List Value).toArray)) := by kernel_rfl
theorem Tryd.s1_slstring : (Tryd.prog.info? 22).map (·.size) = some 1 := by kernel_rfl
theorem Tryd.s1_slimplLayer : (Tryd.prog.info? 38).map (·.size) = some 1 := by kernel_rfl
theorem Tryd.s1_slimplLabel : (Tryd.prog.info? 39).map (·.size) = some 1 := by kernel_rfl
theorem Tryd.uT_implManifest : ∃ d, Tryd.prog.underlying 41 = some d ∧ d.isRow = true := ⟨_, Tryd.underlying41, rfl⟩
theorem Tryd.sT_implManifest : (Tryd.prog.info? 41).map (·.size) = some 3 := by kernel_rfl
theorem Tryd.zT_implManifest : (Tryd.prog.info? 41).map (fun i => i.zero) = some (some (.agg ([.string ⟨#[]⟩, .slice none 0 0, .slice none 0 0] : List Value).toArray)) := by kernel_rfl
theorem Tryd.uT_implManifestOut : ∃ d, Tryd.prog.underlying 60 = some d ∧ d.isRow = true := ⟨_, Tryd.underlying60, rfl⟩
theorem Tryd.sT_implManifestOut : (Tryd.prog.info? 60).map (·.size) = some 4 := by kernel_rfl
theorem Tryd.zT_implManifestOut : (Tryd.prog.info? 60).map (fun i => i.zero) = some (some (.agg ([.string ⟨#[]⟩, .slice none 0 0, .slice none 0 0, .int .i64 0] : List Value).toArray)) := by kernel_rfl
theorem Tryd.uT_implLayer : ∃ d, Tryd.prog.underlying 85 = some d ∧ d.isRow = true := ⟨_, Tryd.underlying85, rfl⟩
theorem Tryd.sT_implLayer : (Tryd.prog.info? 85).map (·.size) = some 2 := by kernel_rfl
theorem Tryd.zT_implLayer : (Tryd.prog.info? 85).map (fun i => i.zero) = some (some (.agg ([.string ⟨#[]⟩, .int .i64 0] : List Value).toArray)) := by kernel_rfl
theorem Tryd.uT_implLabel : ∃ d, Tryd.prog.underlying 116 = some d ∧ d.isRow = true := ⟨_, Tryd.underlying116, rfl⟩
theorem Tryd.sT_implLabel : (Tryd.prog.info? 116).map (·.size) = some 2 := by kernel_rfl
theorem Tryd.zT_implLabel : (Tryd.prog.info? 116).map (fun i => i.zero) = some (some (.agg ([.string ⟨#[]⟩, .string ⟨#[]⟩] : List Value).toArray)) := by kernel_rfl
theorem Tryd.uT_lawsStore : ∃ d, Tryd.prog.underlying 24 = some d ∧ d.isRow = true := ⟨_, Tryd.underlying24, rfl⟩
theorem Tryd.sT_lawsStore : (Tryd.prog.info? 24).map (·.size) = some 1 := by kernel_rfl
theorem Tryd.zT_lawsStore : (Tryd.prog.info? 24).map (fun i => i.zero) = some (some (.agg ([.slice none 0 0] : List Value).toArray)) := by kernel_rfl
theorem Tryd.uT_implStore : ∃ d, Tryd.prog.underlying 27 = some d ∧ d.isRow = true := ⟨_, Tryd.underlying27, rfl⟩
theorem Tryd.sT_implStore : (Tryd.prog.info? 27).map (·.size) = some 1 := by kernel_rfl
theorem Tryd.zT_implStore : (Tryd.prog.info? 27).map (fun i => i.zero) = some (some (.agg ([.slice none 0 0] : List Value).toArray)) := by kernel_rfl
theorem Tryd.uT_implStoreOut : ∃ d, Tryd.prog.underlying 32 = some d ∧ d.isRow = true := ⟨_, Tryd.underlying32, rfl⟩
theorem Tryd.sT_implStoreOut : (Tryd.prog.info? 32).map (·.size) = some 3 := by kernel_rfl
theorem Tryd.zT_implStoreOut : (Tryd.prog.info? 32).map (fun i => i.zero) = some (some (.agg ([.slice none 0 0, .string ⟨#[]⟩, .int .i64 0] : List Value).toArray)) := by kernel_rfl
theorem Tryd.uT_implImageOut : ∃ d, Tryd.prog.underlying 43 = some d ∧ d.isRow = true := ⟨_, Tryd.underlying43, rfl⟩
theorem Tryd.sT_implImageOut : (Tryd.prog.info? 43).map (·.size) = some 5 := by kernel_rfl
theorem Tryd.zT_implImageOut : (Tryd.prog.info? 43).map (fun i => i.zero) = some (some (.agg ([.string ⟨#[]⟩, .slice none 0 0, .slice none 0 0, .slice none 0 0, .int .i64 0] : List Value).toArray)) := by kernel_rfl
theorem Tryd.uT_implstored : ∃ d, Tryd.prog.underlying 69 = some d ∧ d.isRow = true := ⟨_, Tryd.underlying69, rfl⟩
theorem Tryd.sT_implstored : (Tryd.prog.info? 69).map (·.size) = some 1 := by kernel_rfl
theorem Tryd.zT_implstored : (Tryd.prog.info? 69).map (fun i => i.zero) = some (some (.agg ([.string ⟨#[]⟩] : List Value).toArray)) := by kernel_rfl
theorem Tryd.uT_implblobKey : ∃ d, Tryd.prog.underlying 71 = some d ∧ d.isRow = true := ⟨_, Tryd.underlying71, rfl⟩
theorem Tryd.sT_implblobKey : (Tryd.prog.info? 71).map (·.size) = some 32 := by kernel_rfl
theorem Tryd.zT_implblobKey : (Tryd.prog.info? 71).map (fun i => i.zero) = some (some (.agg ([.int .u8 0, .int .u8 0, .int .u8 0, .int .u8 0, .int .u8 0, .int .u8 0, .int .u8 0, .int .u8 0, .int .u8 0, .int .u8 0, .int .u8 0, .int .u8 0, .int .u8 0, .int .u8 0, .int .u8 0, .int .u8 0, .int .u8 0, .int .u8 0, .int .u8 0, .int .u8 0, .int .u8 0, .int .u8 0, .int .u8 0, .int .u8 0, .int .u8 0, .int .u8 0, .int .u8 0, .int .u8 0, .int .u8 0, .int .u8 0, .int .u8 0, .int .u8 0] : List Value).toArray)) := by kernel_rfl
theorem Tryd.s1_slimplblobKey : (Tryd.prog.info? 97).map (·.size) = some 1 := by kernel_rfl
end Go.Proofs.YtchfpiadfmnphaaDoor
namespace Go.Proofs.YtchfpiadfmnphaaDoor
open Go.RowKit
set_option linter.unusedVariables false

def VR (w : World) (a : Option Addr) (L : List Value) : Prop := L ≠ [] → ∃ g, a = some ⟨g, 0, none⟩ ∧ RowV w g L
theorem VR.below {w w' : World} {a : Option Addr} {L : List Value} (h : VR w a L) (hb : Below w.heap.size w w') : VR w' a L := fun hl => by
  obtain ⟨g, e, hr⟩ := h hl
  exact ⟨g, e, hr.below hb (hr.lt hl)⟩
structure MkV (g : Nat) (L : List Value) (w w' : World) : Prop where
  row : RowV w' g L
  but : But g w w'
theorem MkV.call {g : Nat} {L : List Value} {w w' w2 : World} (h : Hid (MkV g L w w')) (hl : L ≠ []) (hb : Below w'.heap.size w' w2) : Hid (MkV g L w w2) := ⟨h.out.row.below hb (h.out.row.lt hl), h.out.but.trans (But.of hb)⟩
theorem MkV.put {g : Nat} {L L' : List Value} {w w' w2 : World} (h : Hid (MkV g L w w')) (hr : RowV w2 g L') (ho : Only g w' w2) : Hid (MkV g L' w w2) := ⟨hr, h.out.but.trans ⟨ho.below.mono (Nat.zero_le _), fun k hk hl => ho.blk k hk hl⟩⟩
theorem Tryd.siz1T : (Tryd.prog.info? 9).map (·.size) = some 1 := by kernel_rfl
/- Of a list that may be none. -/
structure MkW (a : Option Addr) (w w' : World) : Prop where
  far : ∀ j, j < w.heap.size → (∀ ad, a = some ad → j ≠ ad.block) → w'.heap[j]? = w.heap[j]?
  below : ∀ B, B ≤ w.heap.size → (∀ ad, a = some ad → B ≤ ad.block) → Below B w w'
theorem MkW.pre {a : Option Addr} {w w1 w2 : World} (hb : Below w.heap.size w w1) (h : MkW a w1 w2) : MkW a w w2 :=
  ⟨fun j hl hx => (h.far j (Nat.lt_of_lt_of_le hl hb.size) hx).trans (hb.block j hl), fun B hB hx => (hb.mono hB).trans (h.below B (Nat.le_trans hB hb.size) hx)⟩
theorem MkW.mrk {a : Option Addr} {w w' : World} (h : MkW a w w') (hs : w.heap.size ≤ w'.heap.size) (hl : ∀ ad, a = some ad → ad.block < w.heap.size) : Mrk (fun k => ∃ ad, a = some ad ∧ k = ad.block) w w' :=
  ⟨fun k hk hn => h.far k hk (fun ad e hc => hn ⟨ad, e, hc⟩), fun B hB hb => h.below B hB (fun ad e => hb ad.block ⟨ad, e, rfl⟩), hs⟩
end Go.Proofs.YtchfpiadfmnphaaDoor
namespace Go.Proofs.YtchfpiadfmnphaaDoor
open Go.RowKit
set_option linter.unusedVariables false

/- The program's cursor: its text, and the place in it. -/
def cuv (t : ByteArray) (p : Int) : List Value := [.string t, .int .i64 p]
theorem cuv_ne (t : ByteArray) (p : Int) : cuv t p ≠ [] := by simp [cuv]
theorem RowV.cu {w : World} {g : Nat} {t : ByteArray} {p : Int} (h : RowV w g (cuv t p)) : w.cell? ⟨g, 0, none⟩ = some (.string t) ∧ w.cell? ⟨g, 1, none⟩ = some (.int .i64 p) := ⟨h.cell (k := 0) rfl, h.cell (k := 1) rfl⟩
/- The specification's reader: its text, the place, and whether something was wrong. -/
def srv (t : ByteArray) (p : Int) (b : Bool) : List Value := [.string t, .int .i64 p, .bool b]
theorem srv_ne (t : ByteArray) (p : Int) (b : Bool) : srv t p b ≠ [] := by simp [srv]
theorem RowV.sr {w : World} {g : Nat} {t : ByteArray} {p : Int} {b : Bool} (h : RowV w g (srv t p b)) : w.cell? ⟨g, 0, none⟩ = some (.string t) ∧ w.cell? ⟨g, 1, none⟩ = some (.int .i64 p) ∧ w.cell? ⟨g, 2, none⟩ = some (.bool b) := ⟨h.cell (k := 0) rfl, h.cell (k := 1) rfl, h.cell (k := 2) rfl⟩
theorem getN_ways (s : ByteArray) (p : Int) : (∃ c, c ≠ 0 ∧ getN s p = ⟨0, 0, c⟩) ∨ (∃ (n : Int) (b : Nat), getN s p = ⟨n, b, 0⟩ ∧ b ≤ s.size ∧ s.size ≤ 20000) := by
  rcases getN_code s p with hc | ⟨c, hc, hg⟩
  · obtain ⟨hs, b, hb, hbs⟩ := getN_behind hc
    refine Or.inr ⟨(getN s p).n, b, ?_, hbs, hs⟩
    cases hx : getN s p
    rw [hx] at hb hc
    simp at hb hc
    rw [hb, hc]
  · exact Or.inl ⟨c, hc, hg⟩
theorem wpList_cellB {P : Program} {ops : Array Oper} {rest : List Oper} {o : Oper} {a : Act} {w : World} {Q : Exit → Act → World → Prop} (hg : o.guard = none) (t : TypeId) (x y : Operand) (ho : o.op = .store t x y) (g k : Nat) (l l' : List Value) (v : Bool)
    (hx : a.eval x = .pointer (some ⟨g, k, none⟩)) (hy : a.eval y = .bool v) (hi : (P.info? t).map (·.size) = some 1) (hl : RowV w g l) (hk : k < l.length) (hl' : l' = l.set k (.bool v))
    (h : ∀ w', RowV w' g l' → (∀ B, B ≤ g → Below B w w') → (∀ k, k ≠ g → w'.heap[k]? = w.heap[k]?) → w'.heap.size = w.heap.size → wpList P ops Q rest (a.put o.dst undef) w') : wpList P ops Q (o :: rest) a w := by
  refine wpList_plain hg fun K hK => ?_
  have hc : w.cell? ⟨g, k, none⟩ = some l[k] := hl.cell (List.getElem?_eq_getElem hk)
  have hf : w.frozen? ⟨g, k, none⟩ = false := hl.frozen hk
  have hh := h _ (hl.setAt hk hl') (fun B hB => (Below.refl B w).setCell hB (.bool v)) (fun j hj => Below.heap_setCell _ _ _ _ hj) (World.size_setCell ..)
  generalize l[k] = u at hc
  obtain ⟨ti, hti, hts⟩ := Option.map_eq_some_iff.1 hi
  simp only [Oper.wp, execOp, ho, hx, hy, Instr.storeAt, Instr.sureAddr, Sem.run_bind, Sem.run_pure, Result.andThen_ok]
  simp [go_sem, hc, hf, hti, hts, storeCells, sizeOf, typeInfo]
  exact hK _ _ hh
theorem Tryd.siz1B : (Tryd.prog.info? 4).map (·.size) = some 1 := by kernel_rfl
end Go.Proofs.YtchfpiadfmnphaaDoor
namespace Go.Proofs.YtchfpiadfmnphaaDoor
open Go.RowKit
set_option linter.unusedVariables false

theorem own_below {w w' : World} {base e size : Nat} {v : Value} {n : Nat} {xs : List Value} (h : w.ownsRow base e size v n xs) (hb : Below w.heap.size w w') : w'.ownsRow base e size v n xs := by
  refine ⟨h.1, ?_⟩
  rcases h.2 with h0 | ⟨g, cap, cur, hv, hbg, hg, h1, h2, h3, h4⟩
  · exact .inl h0
  · exact .inr ⟨g, cap, cur, hv, hbg, (hb.block g (Array.getElem?_eq_some_iff.1 hg).1).trans hg, h1, h2, h3, h4⟩
theorem own_drew {w : World} {base e size : Nat} {v : Value} {n : Nat} {xs : List Value} (h : w.ownsRow base e size v n xs) : w.drew.ownsRow base e size v n xs := h
/- Read as a slice of texts. -/
theorem own_sa {w : World} {base e : Nat} {v : Value} {n : Nat} {l : List ByteArray} (h : w.ownsRow base e 1 v n (svl l)) : ∃ a c, v = .slice a n c ∧ l.length = n ∧ n ≤ c ∧ c ≤ maxLen ∧ SA w a l := by
  have hl : l.length = n := by have := h.1; rw [svl_length] at this; omega
  rcases h.2 with ⟨rfl, rfl⟩ | ⟨g, cap, cur, rfl, hbg, hg, h1, h2, h3, h4⟩
  · have : l = [] := List.length_eq_zero_iff.1 hl
    subst this
    exact ⟨none, 0, rfl, rfl, Nat.le_refl _, by unfold maxLen; omega, SA.nil _ _⟩
  · refine ⟨some ⟨g, 0, none⟩, cap, rfl, hl, h1, h2, fun k hk => ⟨g, 0, rfl, ?_⟩⟩
    rw [Nat.zero_add, h.cellAt k (by omega), svl_get hk]
theorem wn' {o : Oper} {y : Nat → Option Bool} (h : o.guard = none) : Region.wanted o y = true := by simp [Region.wanted, h]
set_option maxRecDepth 100000 in
theorem wp_append_str {W : World} {o : Oper} {a : Act} {K : Act → World → Prop} {Q : Exit → Act → World → Prop} (s x : Operand) (ho : o.op = .call { callee := .builtin .append, args := #[s, x], argTypes := #[22, 22] })
    (base : Nat) (v : Value) (n : Nat) (l : List ByteArray) (hs : a.eval s = v) (hown : W.ownsRow base 9 1 v n (svl l)) (g c : Nat) (y : ByteArray) (hx : a.eval x = .slice (some ⟨g, 0, none⟩) 1 c) (hc : W.cell? ⟨g, 0, none⟩ = some (.string y)) (hn : n ≤ 1000000) (hbase : base ≤ W.heap.size)
    (h : ∀ v' w', w'.ownsRow base 9 1 v' (n + 1) (svl (l ++ [y])) → Below base W w' → K (a.put o.dst v') w') : Oper.wp Tryd.prog o a W K Q := by
  obtain ⟨i0, hi, hz0, hz1, hz2⟩ := info_parts Tryd.infoStr
  obtain ⟨v', w', hr, h2, h3, h4⟩ := run_append_own_at (P := Tryd.prog) W base 22 o.type 9 i0 (.string ⟨#[]⟩) 1 16 Tryd.underlying22 hi hz0 hz1 hz2 rfl (by decide) v n (svl l) hown ⟨g, 0, none⟩ 1 c [.string y] rfl
    (fun j u hj => by
      match j, hj with
      | 0, hj => simp at hj; subst hj; rw [Addr.add_zero']; exact hc)
    (by intro u hu; simp at hu; subst hu; rfl) (by unfold maxLen; omega) (by omega) hbase
  have hB : Below base W w' := (Below.refl base W).grown h3 hbase (fun k hk => (hown.lt k hk).1)
  unfold Oper.wp execOp
  simp only [ho, resolve, invoke, builtin, Sem.run_bind, Sem.run_pure, Result.andThen_ok, List.map_toArray, List.map_cons, List.map_nil, hs, hx, hr]
  exact h v' w' (by rw [show svl (l ++ [y]) = svl l ++ [.string y] by simp [svl]]; exact h2) hB
/- A slice of texts that the call made: it may be written, and lies behind what was there. -/
def NewS (w : World) (base : Nat) (v : Value) (l : List ByteArray) : Prop := ∃ a c, v = .slice a l.length c ∧ l.length ≤ c ∧ c ≤ maxLen ∧ (l ≠ [] → ∃ g, a = some ⟨g, 0, none⟩ ∧ base ≤ g ∧ RowV w g (svl l))
theorem NewS.of_own {w : World} {base e n : Nat} {v : Value} {l : List ByteArray} (h : w.ownsRow base e 1 v n (svl l)) : NewS w base v l := by
  have hl : l.length = n := by have := h.1; rw [svl_length] at this; omega
  rcases h.2 with ⟨rfl, rfl⟩ | ⟨g, cap, cur, rfl, hbg, hg, h1, h2, h3, h4⟩
  · have : l = [] := List.length_eq_zero_iff.1 hl
    subst this
    exact ⟨none, 0, rfl, Nat.le_refl _, by unfold maxLen; omega, fun e => absurd rfl e⟩
  · subst hl
    refine ⟨some ⟨g, 0, none⟩, cap, rfl, h1, h2, fun _ => ⟨g, rfl, hbg, fun j v hv => ?_, fun j hj => ?_⟩⟩
    · obtain ⟨hj, _⟩ := List.getElem?_eq_some_iff.1 hv
      rw [svl_length] at hj
      rw [Nat.zero_add, h.cellAt j (by omega), hv]
    · rw [svl_length] at hj
      rw [Nat.zero_add, h.cellAt j (by omega), h.frozenAt j, List.getElem?_eq_getElem (by rw [svl_length]; exact hj)]
      exact ⟨rfl, rfl⟩
theorem svl_ne {l : List ByteArray} (h : l ≠ []) : svl l ≠ [] := by
  intro e
  exact h (by unfold svl at e; simpa using e)
theorem NewS.below {w w' : World} {base : Nat} {v : Value} {l : List ByteArray} (h : NewS w base v l) (hb : Below w.heap.size w w') : NewS w' base v l := by
  obtain ⟨a, c, h1, h2, h3, h4⟩ := h
  refine ⟨a, c, h1, h2, h3, fun hl => ?_⟩
  obtain ⟨g, e1, e2, e3⟩ := h4 hl
  exact ⟨g, e1, e2, e3.below hb (e3.lt (svl_ne hl))⟩
theorem NewS.far {w w' : World} {g : Nat} {v : Value} {l : List ByteArray} (h : NewS w (g + 1) v l) (hf : ∀ x : Addr, x.block ≠ g → w'.cell? x = w.cell? x ∧ w'.frozen? x = w.frozen? x) : NewS w' g v l := by
  obtain ⟨a, c, h1, h2, h3, h4⟩ := h
  refine ⟨a, c, h1, h2, h3, fun hl => ?_⟩
  obtain ⟨g', e1, e2, e3⟩ := h4 hl
  exact ⟨g', e1, by omega, e3.same fun k => hf ⟨g', k, none⟩ (by show g' ≠ g; omega)⟩
theorem NewS.mono {w : World} {b b' : Nat} {v : Value} {l : List ByteArray} (h : NewS w b v l) (hb : b' ≤ b) : NewS w b' v l := by
  obtain ⟨a, c, h1, h2, h3, h4⟩ := h
  refine ⟨a, c, h1, h2, h3, fun hl => ?_⟩
  obtain ⟨g, e1, e2, e3⟩ := h4 hl
  exact ⟨g, e1, by omega, e3⟩
theorem NewS.nil (w : World) (base : Nat) : NewS w base (.slice none 0 0) [] := ⟨none, 0, rfl, Nat.le_refl _, by unfold maxLen; omega, fun e => absurd rfl e⟩
theorem NewS.sa {w : World} {base : Nat} {v : Value} {l : List ByteArray} (h : NewS w base v l) : ∃ a c, v = .slice a l.length c ∧ l.length ≤ c ∧ c ≤ maxLen ∧ SA w a l := by
  obtain ⟨a, c, h1, h2, h3, h4⟩ := h
  refine ⟨a, c, h1, h2, h3, fun k hk => ?_⟩
  obtain ⟨g, e1, e2, e3⟩ := h4 (by intro e; rw [e] at hk; simp at hk)
  subst e1
  exact e3.sa k hk
/- All texts of another slice, appended. -/
set_option maxRecDepth 100000 in
theorem wpList_append_strs {W : World} {ops : Array Oper} {rest : List Oper} {o : Oper} {a : Act} {Q : Exit → Act → World → Prop} (hgd : o.guard = none) (s x : Operand) (ho : o.op = .call { callee := .builtin .append, args := #[s, x], argTypes := #[22, 22] })
    (base : Nat) (v : Value) (n m : Nat) (l1 l2 : List ByteArray) (hs : a.eval s = v) (hown : W.ownsRow base 9 1 v n (svl l1)) (g p c : Nat) (hx : a.eval x = .slice (some ⟨g, p, none⟩) m c) (hl2 : l2.length = m) (hA : SA W (some ⟨g, p, none⟩) l2) (hn : n + m ≤ 1000000) (hbase : base ≤ W.heap.size)
    (h : ∀ v' w', w'.ownsRow base 9 1 v' (n + m) (svl (l1 ++ l2)) → Below base W w' → (v ≠ .slice none 0 0 → v' ≠ .slice none 0 0) → wpList Tryd.prog ops Q rest (a.put o.dst v') w') : wpList Tryd.prog ops Q (o :: rest) a W := by
  obtain ⟨i0, hi, hz0, hz1, hz2⟩ := info_parts Tryd.infoStr
  refine wpList_append_own W hgd s x 22 ho base 9 i0 (.string ⟨#[]⟩) 1 16 Tryd.underlying22 hi hz0 hz1 hz2 rfl (by decide) v n (svl l1) hs hown ⟨g, p, none⟩ m c (svl l2) hx (by rw [svl_length]; omega) (fun j u hj => ?_) (fun u hu => ?_) (by unfold maxLen; omega) (by omega) hbase fun v' w' h2 h3 h4 => ?_
  · obtain ⟨hj1, hj2⟩ := List.getElem?_eq_some_iff.1 hj
    have hjl : j < l2.length := by rw [svl_length] at hj1; exact hj1
    obtain ⟨b, o', hb, hc⟩ := hA j hjl
    injection hb with hb
    injection hb with e1 e2
    subst e1 e2
    rw [Addr.add_lit, hc, ← hj, svl_get hjl]
  · unfold svl at hu
    obtain ⟨b, _, rfl⟩ := List.mem_map.1 hu
    rfl
  · refine h v' w' ?_ ((Below.refl base W).grown h3 hbase (fun k hk => (hown.lt k hk).1)) (fun hv hv' => hv (h4.1 hv').1)
    rw [show svl (l1 ++ l2) = svl l1 ++ svl l2 by simp [svl]]
    exact h2
set_option maxRecDepth 100000 in
theorem own_some {w : World} {base e : Nat} {v : Value} {n : Nat} {l : List ByteArray} (h : w.ownsRow base e 1 v n (svl l)) (hv : v ≠ .slice none 0 0) : ∃ g c, v = .slice (some ⟨g, 0, none⟩) n c ∧ l.length = n ∧ base ≤ g ∧ n ≤ c ∧ c ≤ maxLen ∧ SA w (some ⟨g, 0, none⟩) l := by
  have hl : l.length = n := by have := h.1; rw [svl_length] at this; omega
  rcases h.2 with ⟨rfl, _⟩ | ⟨g, cap, cur, rfl, hbg, hg, h1, h2, h3, h4⟩
  · exact absurd rfl hv
  · refine ⟨g, cap, rfl, hl, hbg, h1, h2, fun k hk => ⟨g, 0, rfl, ?_⟩⟩
    rw [Nat.zero_add, h.cellAt k (by omega), svl_get hk]
end Go.Proofs.YtchfpiadfmnphaaDoor
namespace Go.Proofs.YtchfpiadfmnphaaDoor
open Go.RowKit
set_option linter.unusedVariables false

/- The digits of a number ahead of a text. -/
def mks (k n : Nat) : List ByteArray := (List.range n).map fun i => mkT (k + i)
theorem mks_length (k n : Nat) : (mks k n).length = n := by unfold mks; rw [List.length_map, List.length_range]
theorem mks_get {k n i : Nat} (h : i < (mks k n).length) : (mks k n)[i] = mkT (k + i) := by simp [mks]
theorem mks_succ (k n : Nat) : mks k (n + 1) = mks k n ++ [mkT (k + n)] := by unfold mks; rw [List.range_succ, List.map_append]; rfl
theorem mks_set (k : Nat) (l : List ByteArray) {i : Nat} (h : i < l.length) : mks k (i + 1) ++ l.drop (i + 1) = (mks k i ++ l.drop i).set i (mkT (k + i)) := by
  rw [List.set_append_right _ _ (by rw [mks_length]; exact Nat.le_refl _), mks_length, Nat.sub_self, List.drop_eq_getElem_cons h, List.set_cons_zero, mks_succ, List.append_assoc]
  rfl
set_option maxRecDepth 100000 in
set_option maxHeartbeats 1000000 in
theorem markS_row (g c n k0 : Nat) (l : List ByteArray) (w : World) (hn : l.length = n) (h : RowV w g (svl l)) (hg : g < w.heap.size) (hb : n ≤ 1048576) (h1 : 1 ≤ k0) (h2 : k0 ≤ 1000000) :
    Calls Tryd.prog 33 #[.slice (some ⟨g, 0, none⟩) n c, .int .i64 (k0 : Int)] w fun e w' => e = .returned (.int .i64 ((k0 + n : Nat) : Int)) ∧ RowV w' g (svl (mks k0 n)) ∧ But g w w' := by
  have HN : Hid (l.length = n) := hn
  have HI1 : Hid (RowV w g (svl (mks k0 0 ++ l.drop 0))) := h
  clear h hn
  go_enter Tryd.func33, Tryd.ntmps33
  go_wp2_with fail
  go_loopw [1, 5] (fun vk i wr => ∃ k : Nat, i = .int .i64 (k : Int) ∧ vk = .int .i64 ((k0 + k : Nat) : Int) ∧ k ≤ n ∧ RowV wr g (svl (mks k0 k ++ l.drop k)) ∧ But g w wr) (fun _ i _ => n - (intOf i).toNat)
  case atStart => exact ⟨0, rfl, rfl, Nat.zero_le _, HI1.out, But.refl _ _⟩
  case round =>
    obtain ⟨k, rfl, rfl, hk, hI, hB⟩ := hrel
    have H8 : Hid (RowV wr g (svl (mks k0 k ++ l.drop k)) ∧ But g w wr) := ⟨hI, hB⟩
    by_cases hlt : k < n
    · have hkl : k < l.length := by have := HN.out; omega
      have hlen : k < (mks k0 k ++ l.drop k).length := by rw [List.length_append, mks_length, List.length_drop]; omega
      have hM : ∀ w0, Calls Tryd.prog 50 #[.int .i64 ((k0 + k : Nat) : Int)] w0 fun e w' => e = .returned (.string (mkT (k0 + k))) ∧ Below w0.heap.size w0 w' := fun w0 => mark_any (k0 + k) w0 (by omega) (by omega)
      have HS : Hid (True → mks k0 (k + 1) ++ l.drop (k + 1) = (mks k0 k ++ l.drop k).set k (mkT (k0 + k))) := fun _ => mks_set k0 l hkl
      have hgw : g < wr.heap.size := Nat.lt_of_lt_of_le hg hB.size
      generalize mkT (k0 + k) = x at *
      have lk : (k : Int) < n := by omega
      have l0 : (0 : Int) ≤ k := by omega
      have H9 : Hid (∀ w2, Below wr.heap.size wr w2 → ∃ y, w2.cell? ⟨g, k, none⟩ = some (.string y) ∧ w2.frozen? ⟨g, k, none⟩ = false ∧ RowV (w2.setCell ⟨g, k, none⟩ (.string x)) g (svl (mks k0 (k + 1) ++ l.drop (k + 1))) ∧ But g w (w2.setCell ⟨g, k, none⟩ (.string x))) := fun w2 b2 => by
        have r2 := H8.out.1.below b2 hgw
        exact ⟨_, r2.cell (svl_get hlen), r2.frozen (by rw [svl_length]; exact hlen), r2.setS hlen (HS.out trivial), (H8.out.2.trans (But.of b2)).trans (But.set g k w2 _)⟩
      clear hI hB hlen hkl H8 HI1 HS
      go_wp2_with (first
        | (go_at_call 50; refine (hM _).mono ?_; rintro e w1 ⟨rfl, hB1⟩; obtain ⟨y, cg, hfz, hR, hBt⟩ := H9.out w1 hB1; have HR : Hid _ := And.intro hR hBt; clear hR hBt))
      exact ⟨⟨k + 1, by go_num, by push_cast; go_num, hlt, HR.out.1, HR.out.2⟩, by simp [intOf]; omega⟩
    · obtain rfl : k = n := by omega
      have hd : l.drop k = [] := List.drop_of_length_le (by have := HN.out; omega)
      rw [hd, List.append_nil] at hI
      go_wp2
      go_ret
      exact ⟨rfl, hI, hB⟩
set_option maxRecDepth 100000 in
set_option maxHeartbeats 1000000 in
theorem markS_nil (a : Option Addr) (c k0 : Nat) (w : World) (h2 : k0 ≤ 1000000) :
    Calls Tryd.prog 33 #[.slice a 0 c, .int .i64 (k0 : Int)] w fun e w' => e = .returned (.int .i64 (k0 : Int)) ∧ w = w' := by
  go_enter Tryd.func33, Tryd.ntmps33
  go_wp2_with fail
  go_loopw [1, 5] (fun vk i wr => i = .int .i64 0 ∧ vk = .int .i64 (k0 : Int) ∧ w = wr) (fun _ _ _ => 0)
  case atStart => exact ⟨rfl, rfl, rfl⟩
  case round =>
    obtain ⟨rfl, rfl, rfl⟩ := hrel
    go_wp2
    go_ret
    exact ⟨rfl, rfl⟩
structure KpMs (w : World) (b o : Nat) (x : ByteArray) (w' : World) : Prop where
  cell : w'.cell? ⟨b, o, none⟩ = some (.string x)
  below : Below w.heap.size w w'
theorem KpMs.two {w w' : World} {b o : Nat} {x : ByteArray} (h : Hid (KpMs w b o x w')) : w'.cell? ⟨b, o, none⟩ = some (.string x) ∧ Hid (KpMs w b o x w') := ⟨h.out.cell, h⟩
theorem KpMs.drewN {w w' : World} {b o : Nat} {x : ByteArray} (h : Hid (KpMs w b o x w')) (n : Nat) : Hid (KpMs w b o x (w'.drewN n)) := ⟨h.out.cell, belowN h.out.below n⟩
theorem KpMs.hid {w w' w2 : World} {b o : Nat} {x : ByteArray} (h : Hid (KpMs w b o x w')) (h2 : Below w'.heap.size w' w2) : Hid (KpMs w b o x w2) :=
  ⟨(h2.cell (p := ⟨b, o, none⟩) (cellLt h.out.cell)).trans h.out.cell, h.out.below.trans (h2.mono h.out.below.size)⟩
set_option maxRecDepth 100000 in
set_option maxHeartbeats 1000000 in
theorem heldS_any (a : Option Addr) (c n k0 : Nat) (w : World) (h : SA w a (mks k0 n)) (hb : n ≤ 1048576) (h1 : 1 ≤ k0) (h2 : k0 ≤ 1000000) :
    Calls Tryd.prog 41 #[.slice a n c, .int .i64 (k0 : Int)] w fun e w' => e = .returned (.int .i64 ((k0 + n : Nat) : Int)) ∧ Below w.heap.size w w' := by
  have HA : Hid (SA w a (mks k0 n)) := h
  clear h
  go_enter Tryd.func41, Tryd.ntmps41
  go_wp2_with fail
  go_loopw [1, 5] (fun vk i wr => ∃ k : Nat, i = .int .i64 (k : Int) ∧ vk = .int .i64 ((k0 + k : Nat) : Int) ∧ k ≤ n ∧ Below w.heap.size w wr) (fun _ i _ => n - (intOf i).toNat)
  case atStart => exact ⟨0, rfl, rfl, Nat.zero_le _, Below.refl _ _⟩
  case round =>
    obtain ⟨k, rfl, rfl, hk, hB⟩ := hrel
    by_cases hlt : k < n
    · have hkl : k < (mks k0 n).length := by rw [mks_length]; exact hlt
      have hM : ∀ w0, Calls Tryd.prog 50 #[.int .i64 ((k0 + k : Nat) : Int)] w0 fun e w' => e = .returned (.string (mkT (k0 + k))) ∧ Below w0.heap.size w0 w' := fun w0 => mark_any (k0 + k) w0 (by omega) (by omega)
      obtain ⟨b, o, rfl, ca⟩ := HA.out.below hB k hkl
      rw [mks_get hkl] at ca
      generalize mkT (k0 + k) = x at *
      have HS : Hid (KpMs w b (o + k) x wr) := ⟨ca, hB⟩
      have t1 := txt_eq x
      have lk : (k : Int) < n := by omega
      have l0 : (0 : Int) ≤ k := by omega
      clear hB hkl HA
      go_wp2_with fail
      go_region_held3 (fun w' => w'.cell? ⟨b, o + k, none⟩ = some (.string x) ∧ Hid (KpMs w b (o + k) x w'))
        (first | exact KpMs.two HS | exact KpMs.two (KpMs.drewN HS _) | exact KpMs.two (KpMs.hid HS h6) | exact KpMs.two (KpMs.hid (KpMs.drewN HS _) h6))
        (first
          | (go_at_call 50; refine (hM _).mono ?_; rintro e w6 ⟨rfl, h6⟩))
      all_goals
        have HR : Hid (Below w.heap.size w w6) := (KpMs.hid (KpMs.drewN HS 1) h6).out.below
        clear HS h6 hM
        go_wp2
        exact ⟨⟨k + 1, by go_num, by push_cast; go_num, hlt, HR.out⟩, by simp [intOf]; omega⟩
    · obtain rfl : k = n := by omega
      go_wp2
      go_ret
      exact ⟨rfl, hB⟩
end Go.Proofs.YtchfpiadfmnphaaDoor
namespace Go.Proofs.YtchfpiadfmnphaaDoor
open Go.RowKit
set_option linter.unusedVariables false

theorem toSM (a : Option Addr) (c n : Nat) (l : List ByteArray) (w : World) (hn : l.length = n) (h : SA w a l) (hb : n ≤ 1048576) :
    Calls Tryd.prog 27 #[.slice a n c] w fun r w' => ∃ (g : Nat), r = .returned (.slice (some ⟨g, 0, none⟩) n n) ∧ (w.heap.size ≤ g ∧ g < w'.heap.size) ∧ Made w w' (fun w2 => RowV w2 g (svl l)) ∧ Below w.heap.size w w' :=
  (toS_row a c n l w hn h hb).mono fun r w' ⟨h1, h2, h3, h4⟩ => ⟨w.heap.size, h1, ⟨Nat.le_refl _, h4⟩, fun w2 hw => h2.same fun k => hw.far ⟨w.heap.size, k, none⟩ h4 (fun hn => hn ⟨Nat.le_refl _, h4⟩), h3⟩
def roomQ (q0 : Int) (l : List ByteArray) : Int := if q0 - (l.length : Int) < 0 then -1 else roomS l (q0 - (l.length : Int))
theorem roomQ_bd {q0 : Int} {l : List ByteArray} (g1 : q0 ≤ 1048576) (h : 0 ≤ roomQ q0 l) : l.length ≤ 1048576 := by
  unfold roomQ at h
  by_cases hl : q0 - (l.length : Int) < 0
  · rw [if_pos hl] at h; omega
  · omega
set_option maxRecDepth 100000 in
set_option maxHeartbeats 1000000 in
theorem szS_q (a : Option Addr) (c n : Nat) (l : List ByteArray) (q0 : Int) (w : World) (g0 : 0 ≤ q0) (g1 : q0 ≤ 1048576) (hn : l.length = n) (h : SA w a l) (hM : n ≤ maxLen) (hx : ∀ x ∈ l, x.size ≤ maxLen) :
    Calls Tryd.prog 25 #[.slice a n c,   .int .i64 q0] w fun e w' => e = .returned (.int .i64 (roomQ q0 l)) ∧ w' = w := by
  have HA : Hid (SA w a l) := h
  have HN : Hid (l.length = n) := hn
  have HX : Hid (∀ x ∈ l, x.size ≤ maxLen) := hx
  clear h hn hx
  unfold maxLen at hM
  by_cases hb : q0 - (n : Int) < 0
  · have HR : Hid (roomQ q0 l = -1) := by show _ = _; unfold roomQ; rw [if_pos (by have := HN.out; omega)]
    go_enter Tryd.func25, Tryd.ntmps25
    go_wp2
    go_ret
    exact ⟨retZ HR.out.symm, rfl⟩
  · have HR : Hid (roomQ q0 l = roomS (l.drop 0) (q0 - (n : Int))) := by show _ = _; unfold roomQ; rw [if_neg (by have := HN.out; omega), HN.out]; rfl
    go_enter Tryd.func25, Tryd.ntmps25
    go_wp2_with fail
    go_loop [1, 5] (fun vq vi => ∃ (k : Nat) (q : Int), vi = .int .i64 (k : Int) ∧ vq = .int .i64 q ∧ k ≤ n ∧ 0 ≤ q ∧ q ≤ 1048576 ∧ roomQ q0 l = roomS (l.drop k) q) (fun _ vi => n - (intOf vi).toNat)
    case atStart => exact ⟨0, _, rfl, rfl, Nat.zero_le _, by omega, by omega, HR.out⟩
    case round =>
      obtain ⟨k, q, rfl, rfl, hk, hq0, hq1, he⟩ := hrel
      have HE : Hid (roomQ q0 l = roomS (l.drop k) q) := he
      clear he
      by_cases hlt : k < n
      · have hkl : k < l.length := by have := HN.out; omega
        obtain ⟨b, o, rfl, hc⟩ := HA.out k hkl
        have hxs := HX.out l[k] (List.getElem_mem hkl)
        unfold maxLen at hxs
        have HD : Hid (roomS (l.drop k) q = if q - (l[k].size : Int) < 0 then -1 else roomS (l.drop (k + 1)) (q - l[k].size)) := by
          show _ = _
          rw [List.drop_eq_getElem_cons hkl, roomS]
        generalize l[k] = x at *
        have lk : (k : Int) < n := by omega
        have l0 : (0 : Int) ≤ k := by omega
        clear hkl
        by_cases hneg : q - (x.size : Int) < 0
        · have HF : Hid (roomQ q0 l = -1) := by show _ = _; rw [HE.out, HD.out, if_pos hneg]
          clear HE HD
          go_wp2
          go_ret
          exact ⟨retZ HF.out.symm, rfl⟩
        · have HF : Hid (roomQ q0 l = roomS (l.drop (k + 1)) (q - x.size)) := by show _ = _; rw [HE.out, HD.out, if_neg hneg]
          clear HE HD
          have hge : 0 ≤ q - (x.size : Int) := by omega
          go_wp2
          exact ⟨⟨k + 1, _, by go_num, rfl, hlt, hge, by omega, HF.out⟩, by simp [intOf]; omega⟩
      · obtain rfl : k = n := by omega
        have HF : Hid (roomQ q0 l = q) := by
          show _ = _
          rw [HE.out, List.drop_of_length_le (by have := HN.out; omega)]
          rfl
        clear HE
        go_wp2
        go_ret
        exact ⟨retZ HF.out.symm, rfl⟩
end Go.Proofs.YtchfpiadfmnphaaDoor
namespace Go.Proofs.YtchfpiadfmnphaaDoor
open Go.RowKit
set_option linter.unusedVariables false

set_option maxRecDepth 100000 in
set_option maxHeartbeats 4000000 in
theorem szSto (a : Option Addr) (c n : Nat) (l : List ByteArray) (w : World) (hn : l.length = n) (h : SA w a l) (hm : n ≤ maxLen) (hx : ∀ x ∈ l, x.size ≤ maxLen) :
    Calls Tryd.prog 7 #[.agg #[.slice a n c], .int .i64 1048576] w fun r w' => ∃ z : Int, r = .returned (.int .i64 z) ∧ (0 ≤ z → n ≤ 1048576) ∧ Below w.heap.size w w' := by
  have hC1 : ∀ w0, (SA w0 a l) → Calls Tryd.prog 25 #[.slice a n c, .int .i64 1048576] w0 fun r w' => ∃ (q : Int), r = .returned (.int .i64 q) ∧ (0 ≤ q → n ≤ 1048576) ∧ w0 = w' := fun w0 n0 => (szS_any a c n l w0 hn n0 hm hx).mono fun r w' ⟨e1, e2⟩ => ⟨_, e1, fun g => by have := (roomL_bd g).1; omega, e2.symm⟩
  have HS0 : Hid (Sta [] w [] [⟨fun k => k < w.heap.size, fun w' => SA w' a l⟩] w) := Sta.arg (fun w' => SA w' a l) (fun w' hb => h.below hb)
  clear hn h hx hm
  go_enter Tryd.func7, Tryd.ntmps7
  go_wp2_with (first
    | ((with_reducible refine wpList_boxV (w := w) (by with_unfolding_all rfl) 24 (.tmp 0) (by with_unfolding_all rfl) [.slice a n c] (by with_unfolding_all rfl) ?_); intro w1 hA1 hB1 hS1; clear hS1; have HS1 := Sta.new HS0 hA1 hB1 (by simp); clear hA1 hB1; have cHS1_0_0 : w1.cell? ⟨w.heap.size, 0, none⟩ = some (.slice a n c) := Sta.c (i := 0) HS1 rfl rfl))
  have n2_0 : SA w1 a l := (Sta.t (i := 0) HS1 rfl :)
  refine (hC1 w1 n2_0).mono ?_
  rintro r w' ⟨q, rfl, p, rfl⟩
  have Hp := hidP p
  clear p
  clear cHS1_0_0
  by_cases hq : q < 0
  · as_aux_lemma =>
    go_wp2_with fail
    go_ret
    exact ⟨_, rfl, fun h => absurd h (by omega), Sta.fin HS1⟩
  have hq' : 0 ≤ q := by omega
  go_wp2_with fail
  go_ret
  exact ⟨_, rfl, fun h => Hp.out hq', Sta.fin HS1⟩
set_option maxRecDepth 100000 in
set_option maxHeartbeats 4000000 in
theorem toSto (a : Option Addr) (c n : Nat) (l : List ByteArray) (w : World) (hn : l.length = n) (h : SA w a l) (hb : n ≤ 1048576) :
    Calls Tryd.prog 9 #[.agg #[.slice a n c]] w fun r w' => ∃ (g : Nat), r = .returned (.agg #[.slice (some ⟨g, 0, none⟩) n n]) ∧ (w.heap.size ≤ g ∧ g < w'.heap.size) ∧ Made w w' (fun w2 => RowV w2 g (svl l)) ∧ Below w.heap.size w w' := by
  have hC1 : ∀ w0, (SA w0 a l) → Calls Tryd.prog 27 #[.slice a n c] w0 fun r w' => ∃ (g : Nat), r = .returned (.slice (some ⟨g, 0, none⟩) n n) ∧ (w0.heap.size ≤ g ∧ g < w'.heap.size) ∧ Made w0 w' (fun w2 => RowV w2 g (svl l)) ∧ Below w0.heap.size w0 w' := fun w0 n0 => toSM a c n l w0 hn n0 hb
  have HS0 : Hid (Sta [] w [] [⟨fun k => k < w.heap.size, fun w' => SA w' a l⟩] w) := Sta.arg (fun w' => SA w' a l) (fun w' hb => h.below hb)
  clear hn h hb
  go_enter Tryd.func9, Tryd.ntmps9
  go_wp2_with (first
    | ((with_reducible refine wpList_boxV (w := w) (by with_unfolding_all rfl) 24 (.tmp 0) (by with_unfolding_all rfl) [.slice a n c] (by with_unfolding_all rfl) ?_); intro w1 hA1 hB1 hS1; clear hS1; have HS1 := Sta.new HS0 hA1 hB1 (by simp); clear hA1 hB1)
    | ((with_reducible refine wpList_allocV (w := w1) (by with_unfolding_all rfl) 27 (by with_unfolding_all rfl) [.slice none 0 0] Tryd.zT_implStore ?_); intro w2 hA2 hB2 hS2; clear hS2; have HS2 := Sta.new HS1 hA2 hB2 (by simp); clear hA2 hB2)
    | ((with_reducible refine wpList_allocV (w := w2) (by with_unfolding_all rfl) 27 (by with_unfolding_all rfl) [.slice none 0 0] Tryd.zT_implStore ?_); intro w3 hA3 hB3 hS3; clear hS3; have HS3 := Sta.new HS2 hA3 hB3 (by simp); clear hA3 hB3; have cHS3_2_0 : w3.cell? ⟨w.heap.size, 0, none⟩ = some (.slice a n c) := Sta.c (i := 2) HS3 rfl rfl)
    | (go_at_call 27; have n4_0 : SA w3 a l := (Sta.t (i := 0) HS3 rfl :); (with_reducible refine (hC1 w3 n4_0).mono ?_); rintro r w4 ⟨g, rfl, q, hP4, hB4⟩; have Hq := hidP q; clear q; have HS4 := Sta.made HS3 hB4 hP4; clear hB4 hP4; clear cHS3_2_0)
    | ((with_reducible refine wpList_cellS (w := w4) (by with_unfolding_all rfl) 22 (.tmp 7) (.tmp 6) (by with_unfolding_all rfl) w2.heap.size 0 [.slice none 0 0] [.slice (some ⟨g, 0, none⟩) n n] (.slice (some ⟨g, 0, none⟩) n n) (by with_unfolding_all rfl) (by with_unfolding_all rfl) (by with_unfolding_all rfl) Tryd.s1_slstring (Sta.r (i := 0) HS4 (by with_unfolding_all rfl)) (by simp) (by with_unfolding_all rfl) ?_); intro w5 hA5 hO5; have HS5 := Sta.put 0 HS4 rfl hA5 (by simp) hO5; clear hA5 hO5)
    | ((with_reducible refine wpList_loadV (w := w5) (by with_unfolding_all rfl) 27 (.tmp 3) (by with_unfolding_all rfl) w2.heap.size [.slice (some ⟨g, 0, none⟩) n n] (by with_unfolding_all rfl) (Sta.r (i := 0) HS5 (by with_unfolding_all rfl)) Tryd.uT_implStore 1 Tryd.sT_implStore (by with_unfolding_all rfl) ?_))
    | ((with_reducible refine wpList_storeS (w := w5) (by with_unfolding_all rfl) 27 (.tmp 2) (.tmp 8) (by with_unfolding_all rfl) w1.heap.size [.slice none 0 0] [.slice (some ⟨g, 0, none⟩) n n] (by with_unfolding_all rfl) (by with_unfolding_all rfl) (Sta.r (i := 1) HS5 (by with_unfolding_all rfl)) 1 Tryd.sT_implStore (by with_unfolding_all rfl) (by with_unfolding_all rfl) (by with_unfolding_all rfl) ?_); intro w6 hA6 hO6; have HS6 := Sta.put 1 HS5 rfl hA6 (by simp) hO6; clear hA6 hO6))
  exact bodyPost_ret (results_V (t := 27) rfl _ w1.heap.size [.slice (some ⟨g, 0, none⟩) n n] rfl (Sta.r (i := 1) HS6 (by with_unfolding_all rfl)) Tryd.uT_implStore 1 Tryd.sT_implStore rfl) rfl ⟨g, rfl, ⟨Nat.le_trans (Sta.size HS3) Hq.out.1, Sta.lt (i := 0) HS6 rfl g Hq.out⟩, Sta.made_of (i := 0) HS6 rfl (fun k hk => Nat.le_trans (Sta.size HS3) hk.1), Sta.fin HS6⟩
set_option maxRecDepth 100000 in
set_option maxHeartbeats 4000000 in
theorem eqSto (a b : Option Addr) (c d : Nat) (l : List ByteArray) (w : World) (h : SA w a l) (h2 : SA w b l) (hb : l.length ≤ 1048576) :
    Calls Tryd.prog 11 #[.agg #[.slice a l.length c], .agg #[.slice b l.length d]] w fun r w' => r = .returned (.bool true) ∧ Below w.heap.size w w' := by
  have hC1 : ∀ w0, (SA w0 a l ∧ SA w0 b l) → Calls Tryd.prog 29 #[.slice a l.length c, .slice b l.length d] w0 fun r w' => r = .returned (.bool true) ∧ Below w0.heap.size w0 w' := fun w0 n0 => by have := eqS_any a b c d l l w0 n0.1 n0.2 (by omega) (by omega); rw [decide_eq_true rfl] at this; exact this
  have HS0 : Hid (Sta [] w [] [⟨fun k => k < w.heap.size, fun w' => SA w' a l ∧ SA w' b l⟩] w) := Sta.arg (fun w' => SA w' a l ∧ SA w' b l) (fun w' hb => ⟨h.below hb, h2.below hb⟩)
  clear h h2 hb
  go_enter Tryd.func11, Tryd.ntmps11
  go_wp2_with (first
    | ((with_reducible refine wpList_boxV (w := w) (by with_unfolding_all rfl) 27 (.tmp 0) (by with_unfolding_all rfl) [.slice a l.length c] (by with_unfolding_all rfl) ?_); intro w1 hA1 hB1 hS1; clear hS1; have HS1 := Sta.new HS0 hA1 hB1 (by simp); clear hA1 hB1)
    | ((with_reducible refine wpList_boxV (w := w1) (by with_unfolding_all rfl) 27 (.tmp 1) (by with_unfolding_all rfl) [.slice b l.length d] (by with_unfolding_all rfl) ?_); intro w2 hA2 hB2 hS2; clear hS2; have HS2 := Sta.new HS1 hA2 hB2 (by simp); clear hA2 hB2; have cHS2_1_0 : w2.cell? ⟨w.heap.size, 0, none⟩ = some (.slice a l.length c) := Sta.c (i := 1) HS2 rfl rfl; have cHS2_0_0 : w2.cell? ⟨w1.heap.size, 0, none⟩ = some (.slice b l.length d) := Sta.c (i := 0) HS2 rfl rfl)
    | (go_at_call 29; have n3_0 : SA w2 a l ∧ SA w2 b l := (Sta.t (i := 0) HS2 rfl :); (with_reducible refine (hC1 w2 n3_0).mono ?_); rintro r w3 ⟨rfl, hB3⟩; have HS3 := Sta.call HS2 hB3; clear hB3; clear cHS2_1_0 cHS2_0_0))
  go_ret
  exact ⟨rfl, Sta.fin HS3⟩
end Go.Proofs.YtchfpiadfmnphaaDoor
namespace Go.Proofs.YtchfpiadfmnphaaDoor
open Go.RowKit
set_option linter.unusedVariables false

set_option maxRecDepth 100000 in
set_option maxHeartbeats 4000000 in
theorem eqStO (Y : ByteArray) (C : Int) (w : World) :
    Calls Tryd.prog 14 #[.agg #[.slice none 0 0, .string Y, .int .i64 C], .agg #[.slice none 0 0, .string Y, .int .i64 C]] w fun r w' => r = .returned (.bool true) ∧ Below w.heap.size w w' := by
  have ht := txt_eq Y
  have hC1 : ∀ w0, Calls Tryd.prog 11 #[.agg #[.slice none 0 0], .agg #[.slice none 0 0]] w0 fun r w' => r = .returned (.bool true) ∧ Below w0.heap.size w0 w' := fun w0 => eqSto none none 0 0 [] w0 (SA.nil _ _) (SA.nil _ _) (by decide)
  have HS0 : Hid (Sta [] w [] [] w) := Sta.start w
  go_enter Tryd.func14, Tryd.ntmps14
  go_wp2_with (first
    | ((with_reducible refine wpList_boxV (w := w) (by with_unfolding_all rfl) 32 (.tmp 0) (by with_unfolding_all rfl) [.slice none 0 0, .string Y, .int .i64 C] (by with_unfolding_all rfl) ?_); intro w1 hA1 hB1 hS1; clear hS1; have HS1 := Sta.new HS0 hA1 hB1 (by simp); clear hA1 hB1)
    | ((with_reducible refine wpList_boxV (w := w1) (by with_unfolding_all rfl) 32 (.tmp 1) (by with_unfolding_all rfl) [.slice none 0 0, .string Y, .int .i64 C] (by with_unfolding_all rfl) ?_); intro w2 hA2 hB2 hS2; clear hS2; have HS2 := Sta.new HS1 hA2 hB2 (by simp); clear hA2 hB2)
    | ((with_reducible refine wpList_ldS (w := w2) (by with_unfolding_all rfl) 27 (.tmp 5) (by with_unfolding_all rfl) w.heap.size 0 [.slice none 0 0, .string Y, .int .i64 C] [.slice none 0 0] (by with_unfolding_all rfl) (Sta.r (i := 1) HS2 (by with_unfolding_all rfl)) Tryd.uT_implStore 1 Tryd.sT_implStore (by with_unfolding_all rfl) (by with_unfolding_all rfl) ?_))
    | ((with_reducible refine wpList_ldS (w := w2) (by with_unfolding_all rfl) 27 (.tmp 7) (by with_unfolding_all rfl) w1.heap.size 0 [.slice none 0 0, .string Y, .int .i64 C] [.slice none 0 0] (by with_unfolding_all rfl) (Sta.r (i := 0) HS2 (by with_unfolding_all rfl)) Tryd.uT_implStore 1 Tryd.sT_implStore (by with_unfolding_all rfl) (by with_unfolding_all rfl) ?_))
    | (go_at_call 11; (with_reducible refine (hC1 w2).mono ?_); rintro r w3 ⟨rfl, hB3⟩; have HS3 := Sta.call HS2 hB3; clear hB3; have cHS3_1_1 : w3.cell? ⟨w.heap.size, 1, none⟩ = some (.string Y) := Sta.c (i := 1) HS3 rfl rfl; have cHS3_0_1 : w3.cell? ⟨w1.heap.size, 1, none⟩ = some (.string Y) := Sta.c (i := 0) HS3 rfl rfl; have cHS3_1_2 : w3.cell? ⟨w.heap.size, 2, none⟩ = some (.int .i64 C) := Sta.c (i := 1) HS3 rfl rfl; have cHS3_0_2 : w3.cell? ⟨w1.heap.size, 2, none⟩ = some (.int .i64 C) := Sta.c (i := 0) HS3 rfl rfl))
  go_ret
  exact ⟨rfl, Sta.fin HS3⟩
set_option maxRecDepth 100000 in
set_option maxHeartbeats 2000000 in
theorem markSt0  (w : World) :
    Calls Tryd.prog 15 #[.agg #[.slice none 0 0], .int .i64 1] w fun r w' => r = .returned (.int .i64 1) ∧ Below w.heap.size w w' := by
  have hC1 : ∀ w0, Calls Tryd.prog 33 #[.slice none 0 0, .int .i64 1] w0 fun r w' => r = .returned (.int .i64 1) ∧ w0 = w' := fun w0 => markS_nil none 0 1 w0 (by omega)
  have HS0 : Hid (Sta [] w [] [] w) := Sta.start w
  go_enter Tryd.func15, Tryd.ntmps15
  go_wp2_with (first
    | ((with_reducible refine wpList_boxV (w := w) (by with_unfolding_all rfl) 27 (.tmp 0) (by with_unfolding_all rfl) [.slice none 0 0] (by with_unfolding_all rfl) ?_); intro w1 hA1 hB1 hS1; clear hS1; have HS1 := Sta.new HS0 hA1 hB1 (by simp); clear hA1 hB1; have cHS1_0_0 : w1.cell? ⟨w.heap.size, 0, none⟩ = some (.slice none 0 0) := Sta.c (i := 0) HS1 rfl rfl)
    | (go_at_call 33; (with_reducible refine (hC1 w1).mono ?_); rintro r w' ⟨rfl, rfl⟩))
  go_ret
  exact ⟨rfl, Sta.fin HS1⟩
set_option maxRecDepth 100000 in
set_option maxHeartbeats 2000000 in
theorem markStO (Y : ByteArray) (C : Int) (w : World) :
    Calls Tryd.prog 16 #[.agg #[.slice none 0 0, .string Y, .int .i64 C], .int .i64 1] w fun r w' => r = .returned (.int .i64 1) ∧ Below w.heap.size w w' := by
  have hC1 : ∀ w0, Calls Tryd.prog 15 #[.agg #[.slice none 0 0], .int .i64 1] w0 fun r w' => r = .returned (.int .i64 1) ∧ Below w0.heap.size w0 w' := fun w0 => markSt0 w0
  have HS0 : Hid (Sta [] w [] [] w) := Sta.start w
  go_enter Tryd.func16, Tryd.ntmps16
  go_wp2_with (first
    | ((with_reducible refine wpList_boxV (w := w) (by with_unfolding_all rfl) 32 (.tmp 0) (by with_unfolding_all rfl) [.slice none 0 0, .string Y, .int .i64 C] (by with_unfolding_all rfl) ?_); intro w1 hA1 hB1 hS1; clear hS1; have HS1 := Sta.new HS0 hA1 hB1 (by simp); clear hA1 hB1)
    | ((with_reducible refine wpList_ldS (w := w1) (by with_unfolding_all rfl) 27 (.tmp 5) (by with_unfolding_all rfl) w.heap.size 0 [.slice none 0 0, .string Y, .int .i64 C] [.slice none 0 0] (by with_unfolding_all rfl) (Sta.r (i := 0) HS1 (by with_unfolding_all rfl)) Tryd.uT_implStore 1 Tryd.sT_implStore (by with_unfolding_all rfl) (by with_unfolding_all rfl) ?_))
    | (go_at_call 15; (with_reducible refine (hC1 w1).mono ?_); rintro r w2 ⟨rfl, hB2⟩; have HS2 := Sta.call HS1 hB2; clear hB2))
  go_ret
  exact ⟨rfl, Sta.fin HS2⟩
set_option maxRecDepth 100000 in
set_option maxHeartbeats 2000000 in
theorem heldSt0  (w : World) :
    Calls Tryd.prog 34 #[.agg #[.slice none 0 0], .int .i64 1] w fun r w' => r = .returned (.int .i64 1) ∧ Below w.heap.size w w' := by
  have hC1 : ∀ w0, Calls Tryd.prog 41 #[.slice none 0 0, .int .i64 1] w0 fun r w' => r = .returned (.int .i64 1) ∧ Below w0.heap.size w0 w' := fun w0 => heldS_any none 0 0 1 w0 (SA.nil _ _) (by omega) (by omega) (by omega)
  have HS0 : Hid (Sta [] w [] [] w) := Sta.start w
  go_enter Tryd.func34, Tryd.ntmps34
  go_wp2_with (first
    | ((with_reducible refine wpList_boxV (w := w) (by with_unfolding_all rfl) 27 (.tmp 0) (by with_unfolding_all rfl) [.slice none 0 0] (by with_unfolding_all rfl) ?_); intro w1 hA1 hB1 hS1; clear hS1; have HS1 := Sta.new HS0 hA1 hB1 (by simp); clear hA1 hB1; have cHS1_0_0 : w1.cell? ⟨w.heap.size, 0, none⟩ = some (.slice none 0 0) := Sta.c (i := 0) HS1 rfl rfl)
    | (go_at_call 41; (with_reducible refine (hC1 w1).mono ?_); rintro r w2 ⟨rfl, hB2⟩; have HS2 := Sta.call HS1 hB2; clear hB2; clear cHS1_0_0))
  go_ret
  exact ⟨rfl, Sta.fin HS2⟩
set_option maxRecDepth 100000 in
set_option maxHeartbeats 2000000 in
theorem heldStO (Y : ByteArray) (C : Int) (w : World) :
    Calls Tryd.prog 17 #[.agg #[.slice none 0 0, .string Y, .int .i64 C], .int .i64 1] w fun r w' => r = .returned (.int .i64 1) ∧ Below w.heap.size w w' := by
  have hC1 : ∀ w0, Calls Tryd.prog 34 #[.agg #[.slice none 0 0], .int .i64 1] w0 fun r w' => r = .returned (.int .i64 1) ∧ Below w0.heap.size w0 w' := fun w0 => heldSt0 w0
  have HS0 : Hid (Sta [] w [] [] w) := Sta.start w
  go_enter Tryd.func17, Tryd.ntmps17
  go_wp2_with (first
    | ((with_reducible refine wpList_boxV (w := w) (by with_unfolding_all rfl) 32 (.tmp 0) (by with_unfolding_all rfl) [.slice none 0 0, .string Y, .int .i64 C] (by with_unfolding_all rfl) ?_); intro w1 hA1 hB1 hS1; clear hS1; have HS1 := Sta.new HS0 hA1 hB1 (by simp); clear hA1 hB1)
    | ((with_reducible refine wpList_ldS (w := w1) (by with_unfolding_all rfl) 27 (.tmp 5) (by with_unfolding_all rfl) w.heap.size 0 [.slice none 0 0, .string Y, .int .i64 C] [.slice none 0 0] (by with_unfolding_all rfl) (Sta.r (i := 0) HS1 (by with_unfolding_all rfl)) Tryd.uT_implStore 1 Tryd.sT_implStore (by with_unfolding_all rfl) (by with_unfolding_all rfl) ?_))
    | (go_at_call 34; (with_reducible refine (hC1 w1).mono ?_); rintro r w2 ⟨rfl, hB2⟩; have HS2 := Sta.call HS1 hB2; clear hB2))
  go_ret
  exact ⟨rfl, Sta.fin HS2⟩
/- Marks in a store's texts. -/
theorem markS_mrk (g n : Nat) (l : List ByteArray) (w : World) (hn : l.length = n) (h : RowV w g (svl l)) (hb : n ≤ 1048576) :
    Calls Tryd.prog 33 #[.slice (some ⟨g, 0, none⟩) n n, .int .i64 1] w fun e w' => e = .returned (.int .i64 ((1 + n : Nat) : Int)) ∧ (∀ w3, Mrk (fun k => k ≠ g) w' w3 → RowV w3 g (svl (mks 1 n))) ∧ Mrk (fun k => k = g) w w' := by
  by_cases h0 : n = 0
  · subst h0
    exact (markS_nil (some ⟨g, 0, none⟩) 0 1 w (by omega)).mono fun r w' ⟨h1, h2⟩ => ⟨h1, fun w3 _ => ⟨fun j v hv => by simp [svl, mks] at hv, fun j hj => by simp [svl, mks] at hj⟩, h2 ▸ Mrk.refl _ _⟩
  · have hl : svl l ≠ [] := fun e => by have := congrArg List.length e; rw [svl_length, hn] at this; exact h0 this
    exact (markS_row g n n 1 l w hn h (h.lt hl) hb (by omega) (by omega)).mono fun r w' ⟨h1, h2, h3⟩ => ⟨h1, fun w3 hw => hw.row h2 (fun e => by have := congrArg List.length e; rw [svl_length, mks_length] at this; exact h0 this) (fun hn => hn rfl), ⟨fun k hk hn => h3.2 k hn hk, fun B hB hb => h3.below (hb g rfl) hB, h3.size⟩⟩
set_option maxRecDepth 100000 in
set_option maxHeartbeats 2000000 in
theorem markSt (g n : Nat) (l : List ByteArray) (w : World) (hn : l.length = n) (h : RowV w g (svl l)) (hg : g < w.heap.size) (hb : n ≤ 1048576) :
    Calls Tryd.prog 15 #[.agg #[.slice (some ⟨g, 0, none⟩) n n], .int .i64 1] w fun r w' => ∃ z : Nat, r = .returned (.int .i64 (z : Int)) ∧ (∀ w3, Mrk (fun k => k ≠ g) w' w3 → RowV w3 g (svl (mks 1 n))) ∧ Mrk (fun k => k = g) w w' := by
  have hC : ∀ w0, RowV w0 g (svl l) → Calls Tryd.prog 33 #[.slice (some ⟨g, 0, none⟩) n n, .int .i64 1] w0 fun e w' => e = .returned (.int .i64 ((1 + n : Nat) : Int)) ∧ (∀ w3, Mrk (fun k => k ≠ g) w' w3 → RowV w3 g (svl (mks 1 n))) ∧ Mrk (fun k => k = g) w0 w' := fun w0 h0 => markS_mrk g n l w0 hn h0 hb
  generalize 1 + n = z at hC
  have HS0 : Hid (Sta [] w [] [⟨fun k => k < w.heap.size, fun w' => RowV w' g (svl l)⟩] w) := Sta.arg (fun w' => RowV w' g (svl l)) (fun w' hb => h.below hb hg)
  clear h hn hb
  go_enter Tryd.func15, Tryd.ntmps15
  go_wp2_with (first
    | ((with_reducible refine wpList_boxV (w := w) (by with_unfolding_all rfl) 27 (.tmp 0) (by with_unfolding_all rfl) [.slice (some ⟨g, 0, none⟩) n n] (by with_unfolding_all rfl) ?_); intro w1 hA1 hB1 hS1; clear hS1; have HB := hidP hB1; have HS1 := Sta.new HS0 hA1 hB1 (by simp); clear hA1 hB1; have cHS1_0_0 : w1.cell? ⟨w.heap.size, 0, none⟩ = some (.slice (some ⟨g, 0, none⟩) n n) := Sta.c (i := 0) HS1 rfl rfl)
    | (go_at_call 33; (with_reducible refine (hC w1 (Sta.t (i := 0) HS1 rfl :)).mono ?_); rintro r w2 ⟨rfl, hP, hM⟩; clear cHS1_0_0; have HE := hidP (And.intro hP hM); clear hP hM))
  go_ret
  exact ⟨z, rfl, HE.out.1, ((Mrk.of HB.out).mono (fun k hk => by have : False := hk; exact this.elim)).trans HE.out.2⟩
end Go.Proofs.YtchfpiadfmnphaaDoor
