/- A slice of structs that a loop fills, one by one; a store into the middle of a block. -/
import Derived.Test.YtaalegjhhpfhbaaToI
namespace Go.Proofs.Ytaalegjhhpfhbaa
open Go.RowKit
set_option linter.unusedVariables false

/- Of n elements of s cells each, in block g, the first d are as L says; all may be written. -/
structure BldV (w : World) (g s n : Nat) (L : List (List Value)) (d : Nat) : Prop where
  ths : w.there g 0 (n * s)
  rng : ∀ i (h : i < L.length), i < d → w.rangeAt g (i * s) L[i]
theorem BldV.same {w w' : World} {g s n : Nat} {L : List (List Value)} {d : Nat} (h : BldV w g s n L d) (hs : ∀ k, w'.cell? ⟨g, k, none⟩ = w.cell? ⟨g, k, none⟩ ∧ w'.frozen? ⟨g, k, none⟩ = w.frozen? ⟨g, k, none⟩) : BldV w' g s n L d :=
  ⟨fun j hj => by rw [(hs _).1, (hs _).2]; exact h.ths j hj, fun i hi hid j v hv => by rw [(hs _).1]; exact h.rng i hi hid j v hv⟩
theorem BldV.below {w w' : World} {g s n B : Nat} {L : List (List Value)} {d : Nat} (h : BldV w g s n L d) (hb : Below B w w') (hB : g < B) : BldV w' g s n L d :=
  h.same fun k => ⟨hb.cell (p := ⟨g, k, none⟩) hB, hb.frozen (p := ⟨g, k, none⟩) hB⟩
theorem there_part {w : World} {g s n d : Nat} (h : w.there g 0 (n * s)) (hd : d < n) : w.there g (d * s) s := fun j hj => by
  have := h (d * s + j) (by have : (d + 1) * s ≤ n * s := Nat.mul_le_mul_right s hd; rw [Nat.add_mul, Nat.one_mul] at this; omega)
  rw [Nat.zero_add] at this
  exact this
theorem BldV.step {w : World} {g s n : Nat} {L : List (List Value)} {d : Nat} (h : BldV w g s n L d) (hd : d < n) (hL : d < L.length) (hs : ∀ l ∈ L, l.length = s) : BldV (w.setCells g (d * s) L[d]) g s n L (d + 1) := by
  refine ⟨World.there_setCells h.ths _ _ _, fun i hi hid => ?_⟩
  by_cases he : i = d
  · subst he
    refine World.rangeAt_setCells_same w g _ _ ?_
    rw [hs _ (List.getElem_mem hi)]
    exact there_part h.ths hd
  · have hid' : i < d := by omega
    refine World.rangeAt_setCells_apart (h.rng i hi hid') _ _ _ (.inr (.inl ?_))
    rw [hs _ (List.getElem_mem hi)]
    have : (i + 1) * s ≤ d * s := Nat.mul_le_mul_right s hid'
    rw [Nat.add_mul, Nat.one_mul] at this
    exact this
theorem BldV.made {w : World} {base e g s n : Nat} {xs : List Value} {L : List (List Value)} (h : w.ownsRow base e s (.slice (some ⟨g, 0, none⟩) n n) n xs) : BldV w g s n L 0 := by
  rcases h.2 with ⟨h1, _⟩ | ⟨g', cap, cur, hv, hbg, hg, hnc, hcm, hcs, htake⟩
  · simp at h1
  · simp at hv
    obtain ⟨rfl, rfl⟩ := hv
    refine ⟨fun j hj => ?_, fun i _ h0 => absurd h0 (Nat.not_lt_zero _)⟩
    rw [Nat.zero_add]
    have hjc : j < cur.size := by rw [hcs]; exact hj
    exact ⟨by simp [World.cell?, hg, hjc], by simp [World.frozen?, hg]⟩
theorem below_alloc (w : World) (o : Obj) : Below w.heap.size w (w.alloc o) := (Below.refl _ _).alloc (Nat.le_refl _) _
theorem below_set {w : World} {B g o : Nat} {l : List Value} (h : B ≤ g) : Below B w (w.setCells g o l) := Lib.below_setCells_w h _ _ _
theorem szA (w : World) (o : Obj) : (w.alloc o).heap.size = w.heap.size + 1 := Array.size_push _
theorem wpList_storeAt {P : Program} {ops : Array Oper} {rest : List Oper} {o : Oper} {a : Act} {w : World} {Q : Exit → Act → World → Prop} (hg : o.guard = none) (t : TypeId) (x y : Operand) (ho : o.op = .store t x y) (g p n : Nat) (l : List Value)
    (hx : a.eval x = .pointer (some ⟨g, p, none⟩)) (hy : a.eval y = .agg l.toArray) (hl : w.there g p n) (hi : (P.info? t).map (·.size) = some n) (hn : l.length = n) (h1 : ∀ v ∈ l, v.oneCell' = true)
    (h : wpList P ops Q rest (a.put o.dst undef) (w.setCells g p l)) : wpList P ops Q (o :: rest) a w := by
  subst hn
  exact wpList_store_mid hg t x y ho g p l.toArray hx hy (by simp only [List.size_toArray]; exact hl) (by simp only [List.size_toArray]; exact hi) (by rw [Array.all_eq_true_iff_forall_mem]; intro v hv; exact h1 v (by simpa using hv)) h
def plainV : Value → Bool
  | .int _ _ => true
  | .string _ => true
  | .slice _ _ _ => true
  | _ => false
theorem wpList_cellV {P : Program} {ops : Array Oper} {rest : List Oper} {o : Oper} {a : Act} {w : World} {Q : Exit → Act → World → Prop} (hg : o.guard = none) (t : TypeId) (x y : Operand) (ho : o.op = .store t x y) (g k : Nat) (l l' : List Value) (v : Value)
    (hx : a.eval x = .pointer (some ⟨g, k, none⟩)) (hy : a.eval y = v) (hp : plainV v = true) (hi : (P.info? t).map (·.size) = some 1) (hl : RowV w g l) (hk : k < l.length) (hl' : l' = l.set k v)
    (h : ∀ w', RowV w' g l' → (∀ B, B ≤ g → Below B w w') → (∀ x : Addr, x.block ≠ g → w'.cell? x = w.cell? x ∧ w'.frozen? x = w.frozen? x) → w'.heap.size = w.heap.size → wpList P ops Q rest (a.put o.dst undef) w') : wpList P ops Q (o :: rest) a w := by
  refine wpList_plain hg fun K hK => ?_
  have hc : w.cell? ⟨g, k, none⟩ = some l[k] := hl.cell (List.getElem?_eq_getElem hk)
  have hf : w.frozen? ⟨g, k, none⟩ = false := hl.frozen hk
  have hh := h _ (hl.setAt hk hl') (fun B hB => (Below.refl B w).setCell hB v) (fun x hx => ⟨World.cell?_setCell_other w _ _ v (by intro e; rw [← e] at hx; exact hx rfl), World.frozen?_setCell ..⟩) (World.size_setCell ..)
  generalize l[k] = u at hc
  obtain ⟨ti, hti, hts⟩ := Option.map_eq_some_iff.1 hi
  cases v with
  | int kd n =>
    simp only [Oper.wp, execOp, ho, hx, hy, Instr.storeAt, Instr.sureAddr, Sem.run_bind, Sem.run_pure, Result.andThen_ok]
    simp [go_sem, hc, hf, hti, hts, storeCells, sizeOf, typeInfo]
    exact hK _ _ hh
  | string s =>
    simp only [Oper.wp, execOp, ho, hx, hy, Instr.storeAt, Instr.sureAddr, Sem.run_bind, Sem.run_pure, Result.andThen_ok]
    simp [go_sem, hc, hf, hti, hts, storeCells, sizeOf, typeInfo]
    exact hK _ _ hh
  | slice p n c =>
    simp only [Oper.wp, execOp, ho, hx, hy, Instr.storeAt, Instr.sureAddr, Sem.run_bind, Sem.run_pure, Result.andThen_ok]
    simp [go_sem, hc, hf, hti, hts, storeCells, sizeOf, typeInfo]
    exact hK _ _ hh
  | _ => simp [plainV] at hp
theorem same_far {w w' : World} {x : Addr} (h : w'.heap[x.block]? = w.heap[x.block]?) : w'.cell? x = w.cell? x ∧ w'.frozen? x = w.frozen? x := by
  unfold World.cell? World.frozen?
  rw [h]
  exact ⟨rfl, rfl⟩
theorem hidP {P : Prop} (h : P) : Hid P := h
theorem Try.siz1I : (Try.prog.info? 2).map (·.size) = some 1 := by kernel_rfl
theorem wanted_free {o : Oper} {y : Nat → Option Bool} (h : o.guard = none) : Region.wanted o y = true := by simp [Region.wanted, h]
end Go.Proofs.Ytaalegjhhpfhbaa
