/- The program's reader of targets. -/
import Derived.Test.YtdfglpbappeoaaaJn10
import Derived.Test.YtdfglpbappeoaaaJn3
import Derived.Test.YtdfglpbappeoaaaSdO
namespace Go.Proofs.Ytdfglpbappeoaaa
open Go.RowKit
set_option linter.unusedVariables false

theorem lenT1 {l : List TarV} {n : Nat} (h : Hid (l.length = n)) (y : TarV) : (l ++ [y]).length = n + 1 := by rw [List.length_append, h.out]; rfl
theorem rtv_ne0 : rtv 0 0 none 0 0 ≠ [] := by simp [rtv]
theorem rtv_neA {v e : Int} : rtv v e none 0 0 ≠ [] := by simp [rtv]
theorem bytesO_no {t : ByteArray} {p n : Nat} (h : bytesO t p n = none) : t.size < p + n := by
  unfold bytesO at h
  split at h
  · cases h
  · omega
theorem bytesO_yes {t x : ByteArray} {p n b : Nat} (h : bytesO t p n = some (x, b)) : x = t.extract p b ∧ p + n = b ∧ b ≤ t.size := by
  unfold bytesO at h
  split at h
  · injection h with h
    injection h with h1 h2
    subst h2
    exact ⟨h1.symm, rfl, by assumption⟩
  · cases h
theorem tarW {t a b : ByteArray} {c : Int} {p b1 b2 b3 : Nat} (hs : t.size ≤ maxLen) (h1 : textO t p = some (a, b1)) (h2 : bytesO t b1 32 = some (b, b2)) (h3 : numO t b2 = some (c, b3)) : TarV.w ⟨a, b, c⟩ := by
  refine ⟨Nat.le_trans (textO_some h1).2.2.1 hs, ?_, numO_i64 h3⟩
  obtain ⟨e, e2, e3⟩ := bytesO_yes h2
  show b.size ≤ maxLen
  rw [e, ByteArray.size_extract]
  omega
theorem wpList_appendTg3 {ops : Array Oper} {rest : List Oper} {W : World} {o : Oper} {a : Act} {Q : Exit → Act → World → Prop} (hg : o.guard = none) (s x : Operand) (ho : o.op = .call { callee := .builtin .append, args := #[s, x], argTypes := #[31, 31] })
    (base : Nat) (v : Value) (l : List TarV) (y : TarV) (hs : a.eval s = v) (hown : OwnTg W base v l) (B : Nat) (hx : a.eval x = .slice (some ⟨B, 0, none⟩) 1 1) (hB : RowV W B (tgv y.nm y.im y.sz)) (hn : l.length ≤ 1000) (hbase : base ≤ W.heap.size) (N : Nat) (hN : (l ++ [y]).length = N)
    (h : ∀ a' c' w', OwnTg w' base (.slice a' N c') (l ++ [y]) → W.grownBy w' v.ownBlock → ((Value.slice a' N c').ownBlock = v.ownBlock ∨ (Value.slice a' N c').ownBlock = some W.heap.size) → wpList Try.prog ops Q rest (a.put o.dst (.slice a' N c')) w') : wpList Try.prog ops Q (o :: rest) a W :=
  wpList_plain hg fun _ hK => wp_appendTg s x ho base v l y hs hown B hx hB hn hbase (fun v' w' h1 h2 h3 => by
    obtain ⟨a', c', rfl, -⟩ := OwnTg.form h1
    rw [hN] at h1 h3 ⊢
    exact hK _ _ (h a' c' w' h1 h2 h3))
section
variable {g : Nat} {r : List Value} {rows : List (Nat × List Value)} {v : Value} {l : List TarV} {w w' w2 : World}
theorem apartT (h : Hid (KpT g r rows v l w w')) : ∀ x ∈ rows, x.1 ≠ w'.heap.size := fun x hx => by
  obtain ⟨_, h2, h3⟩ := h.out.km.own x hx
  have := h3.lt h2
  omega
theorem newGV (h : Hid (KpT g r rows v l w w')) : w.heap.size ≤ w'.heap.size := h.out.km.only.size
theorem apartG {GA : Nat} {q : List Value} (h : w.heap.size < GA) : ∀ x ∈ [((w.heap.size, q) : Nat × List Value)], x.1 ≠ GA := fun x hx => by
  obtain rfl := List.mem_singleton.1 hx
  show w.heap.size ≠ GA
  omega
theorem celT {GA n c : Nat} {a : Option Addr} {v e : Int} {q : List (Nat × List Value)} {val : Value} (h : Hid (KpT g r ((GA, rtw v e (.slice a n c)) :: q) val l w w')) : w'.cell? ⟨GA, 0, none⟩ = some (.int .i64 v) ∧ w'.cell? ⟨GA, 1, none⟩ = some (.int .i64 e) ∧ w'.cell? ⟨GA, 2, none⟩ = some (.slice a n c) :=
  ⟨(KpT.get h (List.mem_cons_self ..)).cell (k := 0) rfl, (KpT.get h (List.mem_cons_self ..)).cell (k := 1) rfl, (KpT.get h (List.mem_cons_self ..)).cell (k := 2) rfl⟩
theorem KpT.done {GA : Nat} {q z : List Value} {t : ByteArray} {p : Nat} (h : Hid (KpT g (cuv t p) [(GA, q), (w.heap.size, z)] v l w w')) (ho : Only w.heap.size w' w2) : RowV w2 g (cuv t p) ∧ Only g w w2 ∧ OwnTg w2 w.heap.size v l := by
  have e := h.out.km.lt
  have hoff := h.out.off (w.heap.size, z) (List.mem_cons_of_mem _ (List.mem_cons_self ..))
  refine ⟨ho.row h.out.km.row h.out.km.ne (by omega), ⟨h.out.km.only.below.trans (ho.below.mono (by omega)), fun k hk hl => (ho.blk k (by omega) (Nat.lt_of_lt_of_le hl h.out.km.only.size)).trans (h.out.km.only.blk k hk hl), Nat.le_trans h.out.km.only.size ho.size⟩, own_same h.out.own (fun k hk hl => ho.blk k (fun e => hoff (by rw [hk, e])) hl)⟩
end
/- What the reader tells. -/
def SdT (t : ByteArray) (g : Nat) (R : Option (Int × Int × List TarV × Nat)) (w : World) (r : Ending) (w' : World) : Prop :=
  (∃ x y l q v, R = some (x, y, l, q) ∧ r = .returned (.agg #[.int .i64 x, .int .i64 y, v]) ∧ RowV w' g (cuv t q) ∧ Only g w w' ∧ OwnTg w' w.heap.size v l) ∨ (R = none ∧ r = .panicked [{ v := faultV, recovered := false }] ∧ Only g w w')
end Go.Proofs.Ytdfglpbappeoaaa
