/- What the specification's source of draws (l01Src) keeps in memory. -/
import Derived.Test.YtaalegjhhpfhbaaInts
import Derived.Deep.DrawnRows
namespace Go.Proofs.Ytaalegjhhpfhbaa
open Go.RowKit
set_option linter.unusedVariables false

/- The bytes that came in. -/
def Bytes (w : World) (a : Option Addr) (len : Nat) : Prop := ∀ k, k < len → ∃ b o z, a = some ⟨b, o, none⟩ ∧ w.cell? ⟨b, o + k, none⟩ = some (.int .u8 z) ∧ 0 ≤ z ∧ z ≤ 255
theorem src_lt {w : World} {x : Addr} {v : Value} (h : w.cell? x = some v) : x.block < w.heap.size := by
  rcases Nat.lt_or_ge x.block w.heap.size with h1 | h1
  · exact h1
  · simp [World.cell?, Array.getElem?_eq_none h1] at h
theorem Bytes.lt {w : World} {a : Option Addr} {len : Nat} (h : Bytes w a len) (hl : 0 < len) (x : Addr) (hx : a = some x) : x.block < w.heap.size := by
  obtain ⟨b, o, z, ha, hz, _, _⟩ := h 0 hl
  rw [ha] at hx
  cases hx
  exact src_lt hz
theorem Bytes.later {w w' : World} {a : Option Addr} {len : Nat} (h : Bytes w a len) (hb : Below w.heap.size w w') : Bytes w' a len := by
  intro k hk
  obtain ⟨b, o, z, ha, hz, h0, h1⟩ := h k hk
  exact ⟨b, o, z, ha, by rw [hb.cell (p := ⟨b, o + k, none⟩) (src_lt hz)]; exact hz, h0, h1⟩
/- The source at block g: its bytes, the place in them, its mix, its size. -/
structure SrcAt (w : World) (g : Nat) (a : Option Addr) (len cap : Nat) : Prop where
  lt : 0 < len → ∀ x, a = some x → x.block < g
  room : g < w.heap.size
  small : len ≤ 9223372036854775807
  bytes : Bytes w a len
  c0 : w.cell? ⟨g, 0, none⟩ = some (.slice a len cap)
  c1 : ∃ k : Nat, k ≤ len ∧ w.cell? ⟨g, 1, none⟩ = some (.int .i64 k)
  c2 : ∃ m : Int, w.cell? ⟨g, 2, none⟩ = some (.int .u64 m)
  c3 : ∃ m : Int, 0 ≤ m ∧ m ≤ 12 ∧ w.cell? ⟨g, 3, none⟩ = some (.int .i64 m)
  f1 : w.frozen? ⟨g, 1, none⟩ = false
  f2 : w.frozen? ⟨g, 2, none⟩ = false
  f3 : w.frozen? ⟨g, 3, none⟩ = false
theorem setCell_twice (W : World) (g i : Nat) (x y : Value) : (W.setCell ⟨g, i, none⟩ x).setCell ⟨g, i, none⟩ y = W.setCell ⟨g, i, none⟩ y := by
  unfold World.setCell
  simp only
  congr 1
  apply Array.ext_getElem?
  intro k
  simp only [Array.getElem?_modify]
  split
  · cases W.heap[k]? with
    | none => rfl
    | some o => cases o <;> simp
  · rfl
theorem oldSame {w : World} {a : Addr} {v u : Value} (h : w.cell? a = some u) : (w.setCell a v).cell? a = some v := by
  rw [World.cell?_setCell_same (h := h)]
theorem oldOther {w : World} {a b : Addr} {v : Value} (h : a ≠ b) : (w.setCell a v).cell? b = w.cell? b := by
  rw [World.cell?_setCell_other (h := h)]
/- What is kept where the source's own place or mix is set. -/
theorem SrcAt.setAt {w : World} {g : Nat} {a : Option Addr} {len cap : Nat} (h : SrcAt w g a len cap) (k : Nat) (hk : k ≤ len) {x : Int} (hx : x = (k : Int)) : SrcAt (w.setCell ⟨g, 1, none⟩ (.int .i64 x)) g a len cap := by
  obtain ⟨k0, _, c1⟩ := h.c1
  obtain ⟨m, c2⟩ := h.c2
  obtain ⟨n, n0, n1, c3⟩ := h.c3
  subst hx
  refine ⟨h.lt, by simpa [World.setCell] using h.room, h.small, ?_, ?_, ⟨k, hk, oldSame c1⟩, ⟨m, ?_⟩, ⟨n, n0, n1, ?_⟩, ?_, ?_, ?_⟩
  · intro j hj
    obtain ⟨b, o, z, ha, hz, h0, h1⟩ := h.bytes j hj
    have := h.lt (by omega) _ ha
    exact ⟨b, o, z, ha, by rw [oldOther (by intro e; rw [Addr.mk.injEq] at e; simp at this; omega)]; exact hz, h0, h1⟩
  · rw [oldOther (by simp)]; exact h.c0
  · rw [oldOther (by simp)]; exact c2
  · rw [oldOther (by simp)]; exact c3
  · rw [World.frozen?_setCell]; exact h.f1
  · rw [World.frozen?_setCell]; exact h.f2
  · rw [World.frozen?_setCell]; exact h.f3
theorem SrcAt.setMix {w : World} {g : Nat} {a : Option Addr} {len cap : Nat} (h : SrcAt w g a len cap) (x : Int) : SrcAt (w.setCell ⟨g, 2, none⟩ (.int .u64 x)) g a len cap := by
  obtain ⟨k0, hk, c1⟩ := h.c1
  obtain ⟨m, c2⟩ := h.c2
  obtain ⟨n, n0, n1, c3⟩ := h.c3
  refine ⟨h.lt, by simpa [World.setCell] using h.room, h.small, ?_, ?_, ⟨k0, hk, ?_⟩, ⟨x, oldSame c2⟩, ⟨n, n0, n1, ?_⟩, ?_, ?_, ?_⟩
  · intro j hj
    obtain ⟨b, o, z, ha, hz, h0, h1⟩ := h.bytes j hj
    have := h.lt (by omega) _ ha
    exact ⟨b, o, z, ha, by rw [oldOther (by intro e; rw [Addr.mk.injEq] at e; simp at this; omega)]; exact hz, h0, h1⟩
  · rw [oldOther (by simp)]; exact h.c0
  · rw [oldOther (by simp)]; exact c1
  · rw [oldOther (by simp)]; exact c3
  · rw [World.frozen?_setCell]; exact h.f1
  · rw [World.frozen?_setCell]; exact h.f2
  · rw [World.frozen?_setCell]; exact h.f3
theorem SrcAt.drew {w : World} {g : Nat} {a : Option Addr} {len cap : Nat} (h : SrcAt w g a len cap) : SrcAt w.drew g a len cap := ⟨h.lt, h.room, h.small, h.bytes, h.c0, h.c1, h.c2, h.c3, h.f1, h.f2, h.f3⟩
theorem SrcAt.setSize {w : World} {g : Nat} {a : Option Addr} {len cap : Nat} (h : SrcAt w g a len cap) (x : Int) (h0 : 0 ≤ x) (h1 : x ≤ 12) : SrcAt (w.setCell ⟨g, 3, none⟩ (.int .i64 x)) g a len cap := by
  obtain ⟨k0, hk, c1⟩ := h.c1
  obtain ⟨m, c2⟩ := h.c2
  obtain ⟨n, n0, n1, c3⟩ := h.c3
  refine ⟨h.lt, by simpa [World.setCell] using h.room, h.small, ?_, ?_, ⟨k0, hk, ?_⟩, ⟨m, ?_⟩, ⟨x, h0, h1, oldSame c3⟩, ?_, ?_, ?_⟩
  · intro j hj
    obtain ⟨b, o, z, ha, hz, h0, h1⟩ := h.bytes j hj
    have := h.lt (by omega) _ ha
    exact ⟨b, o, z, ha, by rw [oldOther (by intro e; rw [Addr.mk.injEq] at e; simp at this; omega)]; exact hz, h0, h1⟩
  · rw [oldOther (by simp)]; exact h.c0
  · rw [oldOther (by simp)]; exact c1
  · rw [oldOther (by simp)]; exact c2
  · rw [World.frozen?_setCell]; exact h.f1
  · rw [World.frozen?_setCell]; exact h.f2
  · rw [World.frozen?_setCell]; exact h.f3
/- A source that was just made. -/
theorem SrcAt.start {w : World} {a : Option Addr} {len cap : Nat} {m : Int} {t : TypeId} (hb : Bytes w a len) (hs : len ≤ 9223372036854775807) :
    SrcAt (w.alloc (.cells #[.slice a len cap, .int .i64 0, .int .u64 m, .int .i64 0] t)) w.heap.size a len cap := by
  refine ⟨hb.lt, by simp, hs, ?_, by simp, ⟨0, Nat.zero_le _, by simp⟩, ⟨m, by simp⟩, ⟨0, by omega, by omega, by simp⟩, by simp, by simp, by simp⟩
  intro j hj
  obtain ⟨b, o, z, ha, hz, h0, h1⟩ := hb j hj
  have := hb.lt (by omega) _ ha
  exact ⟨b, o, z, ha, by rw [World.cell?_alloc_lt _ _ ⟨b, o + j, none⟩ this]; exact hz, h0, h1⟩
/- What a call has done that changed nothing but the source, or made memory, is no matter to the source's reader. -/
theorem SrcAt.kept {w w' : World} {g : Nat} {a : Option Addr} {len cap : Nat} (h : SrcAt w g a len cap) {r : Option Nat} (hg : w.grownBy w' r) (hr : ∀ k, r = some k → g < k) : SrcAt w' g a len cap := by
  have hc : ∀ x : Addr, x.block ≤ g → w'.cell? x = w.cell? x := fun x hx => World.cell?_of_block (hg.block x.block (by have := h.room; omega) (by intro e; have := hr _ e.symm; omega))
  have hf : ∀ x : Addr, x.block ≤ g → w'.frozen? x = w.frozen? x := fun x hx => World.frozen?_of_block (hg.block x.block (by have := h.room; omega) (by intro e; have := hr _ e.symm; omega))
  obtain ⟨k0, hk, c1⟩ := h.c1
  obtain ⟨m, c2⟩ := h.c2
  obtain ⟨n, n0, n1, c3⟩ := h.c3
  refine ⟨h.lt, Nat.lt_of_lt_of_le h.room hg.size, h.small, ?_, by rw [hc _ (Nat.le_refl _)]; exact h.c0, ⟨k0, hk, by rw [hc _ (Nat.le_refl _)]; exact c1⟩, ⟨m, by rw [hc _ (Nat.le_refl _)]; exact c2⟩, ⟨n, n0, n1, by rw [hc _ (Nat.le_refl _)]; exact c3⟩,
    by rw [hf _ (Nat.le_refl _)]; exact h.f1, by rw [hf _ (Nat.le_refl _)]; exact h.f2, by rw [hf _ (Nat.le_refl _)]; exact h.f3⟩
  intro j hj
  obtain ⟨b, o, z, ha, hz, h0, h1⟩ := h.bytes j hj
  have := h.lt (by omega) _ ha
  exact ⟨b, o, z, ha, by rw [hc _ (by simp at this ⊢; omega)]; exact hz, h0, h1⟩
theorem grownBy_set {w w' : World} {g i : Nat} {v : Value} (h : w.grownBy w' (some g)) : w.grownBy (w'.setCell ⟨g, i, none⟩ v) (some g) :=
  ⟨h.os, h.tape, h.output, by simpa [World.setCell] using h.size, fun k hk hne => by rw [Below.heap_setCell _ _ _ _ (by intro e; exact hne (by rw [e]))]; exact h.block k hk hne⟩
theorem grownBy_drew {w w' : World} {r : Option Nat} (h : w.grownBy w' r) : w.grownBy w'.drew r := ⟨h.os, h.tape, h.output, h.size, h.block⟩
theorem draw_range {X most : Int} (h1 : 1 < most) (h2 : most ≤ 1099511627776) : 0 ≤ wrap64 ((IntKind.u64.wrap X).tmod most) ∧ wrap64 ((IntKind.u64.wrap X).tmod most) < most := by
  have h0 : 0 ≤ IntKind.u64.wrap X := by simp [IntKind.wrap, IntKind.signed, IntKind.bits]; omega
  rw [Int.tmod_eq_emod_of_nonneg h0]
  have a := Int.emod_nonneg (IntKind.u64.wrap X) (show most ≠ 0 by omega)
  have b := Int.emod_lt_of_pos (IntKind.u64.wrap X) (show 0 < most by omega)
  generalize IntKind.u64.wrap X % most = r at *
  unfold wrap64
  omega
theorem SrcAt.below {w w' : World} {g : Nat} {a : Option Addr} {len cap B : Nat} (h : SrcAt w g a len cap) (hb : Below B w w') (hB : g < B) : SrcAt w' g a len cap := by
  obtain ⟨k0, hk, c1⟩ := h.c1
  obtain ⟨m, c2⟩ := h.c2
  obtain ⟨n, n0, n1, c3⟩ := h.c3
  refine ⟨h.lt, Nat.lt_of_lt_of_le h.room hb.size, h.small, ?_, by rw [hb.cell hB]; exact h.c0, ⟨k0, hk, by rw [hb.cell hB]; exact c1⟩, ⟨m, by rw [hb.cell hB]; exact c2⟩, ⟨n, n0, n1, by rw [hb.cell hB]; exact c3⟩,
    by rw [hb.frozen hB]; exact h.f1, by rw [hb.frozen hB]; exact h.f2, by rw [hb.frozen hB]; exact h.f3⟩
  intro j hj
  obtain ⟨b, o, z, ha, hz, h0, h1⟩ := h.bytes j hj
  have := h.lt (by omega) _ ha
  exact ⟨b, o, z, ha, by rw [hb.cell (by simp at this ⊢; omega)]; exact hz, h0, h1⟩
theorem grownBy_below {w w1 w2 : World} {r : Option Nat} (h : w.grownBy w1 r) (hb : Below w.heap.size w1 w2) : w.grownBy w2 r :=
  ⟨hb.os.trans h.os, hb.tape.trans h.tape, hb.output.trans h.output, Nat.le_trans h.size hb.size, fun k hk hne => (hb.block k hk).trans (h.block k hk hne)⟩
theorem grownBy_trans {w w1 w2 : World} {r : Option Nat} (h : w.grownBy w1 r) (k : w1.grownBy w2 r) : w.grownBy w2 r :=
  ⟨k.os.trans h.os, k.tape.trans h.tape, k.output.trans h.output, Nat.le_trans h.size k.size, fun i hi hne => (k.block i (Nat.lt_of_lt_of_le hi h.size) hne).trans (h.block i hi hne)⟩
theorem Below.by {w0 w w' : World} {B g : Nat} (h : Below B w0 w) (hg : w.grownBy w' (some g)) (hB : B ≤ w.heap.size) (h1 : B ≤ g) : Below B w0 w' :=
  h.grown hg hB (fun k hk => by cases hk; exact h1)
end Go.Proofs.Ytaalegjhhpfhbaa
