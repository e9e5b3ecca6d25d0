/- What the specification's source of draws (l01Src) keeps in memory. What the source's method n does: it answers a number from 0 to below most, and changes nothing but its own struct. A row of bytes that a call has made and that is known whole. The specification's l01Source: what it makes. The source's method one. The source's method bytes: a text of so many bytes; it changes nothing but the source's struct and memory of its own. The source's methods edge and l01Any: what they answer is bounded. -/
import Derived.Test.YtoaoaagfnkpkdaaDoorInts
import Derived.Deep.DrawnRows
import Derived.Test.YtoaoaagfnkpkdaaDoorOwn
namespace Go.Proofs.YtoaoaagfnkpkdaaDoor
open Go.RowKit
set_option linter.unusedVariables false

/- The bytes that came in. -/
def Bytes (w : World) (a : Option Addr) (len : Nat) : Prop := ∀ k, k < len → ∃ b o z, a = some ⟨b, o, none⟩ ∧ w.cell? ⟨b, o + k, none⟩ = some (.int .u8 z) ∧ 0 ≤ z ∧ z ≤ 255
theorem src_lt {w : World} {x : Addr} {v : Value} (h : w.cell? x = some v) : x.block < w.heap.size := by
  rcases Nat.lt_or_ge x.block w.heap.size with h1 | h1
  · exact h1
  · simp [World.cell?, Array.getElem?_eq_none h1] at h
theorem Bytes.lt {w : World} {a : Option Addr} {len : Nat} (h : Bytes w a len) (hl : 0 < len) (x : Addr) (hx : a = some x) : x.block < w.heap.size := by
  obtain ⟨b, o, z, ha, hz, _, _⟩ := h 0 hl
  rw [ha] at hx
  cases hx
  exact src_lt hz
theorem Bytes.later {w w' : World} {a : Option Addr} {len : Nat} (h : Bytes w a len) (hb : Below w.heap.size w w') : Bytes w' a len := by
  intro k hk
  obtain ⟨b, o, z, ha, hz, h0, h1⟩ := h k hk
  exact ⟨b, o, z, ha, by rw [hb.cell (p := ⟨b, o + k, none⟩) (src_lt hz)]; exact hz, h0, h1⟩
/- The source at block g: its bytes, the place in them, its mix, its size. -/
structure SrcAt (w : World) (g : Nat) (a : Option Addr) (len cap : Nat) : Prop where
  lt : 0 < len → ∀ x, a = some x → x.block < g
  room : g < w.heap.size
  small : len ≤ 9223372036854775807
  bytes : Bytes w a len
  c0 : w.cell? ⟨g, 0, none⟩ = some (.slice a len cap)
  c1 : ∃ k : Nat, k ≤ len ∧ w.cell? ⟨g, 1, none⟩ = some (.int .i64 k)
  c2 : ∃ m : Int, w.cell? ⟨g, 2, none⟩ = some (.int .u64 m)
  c3 : ∃ m : Int, 0 ≤ m ∧ m ≤ 12 ∧ w.cell? ⟨g, 3, none⟩ = some (.int .i64 m)
  f1 : w.frozen? ⟨g, 1, none⟩ = false
  f2 : w.frozen? ⟨g, 2, none⟩ = false
  f3 : w.frozen? ⟨g, 3, none⟩ = false
theorem setCell_twice (W : World) (g i : Nat) (x y : Value) : (W.setCell ⟨g, i, none⟩ x).setCell ⟨g, i, none⟩ y = W.setCell ⟨g, i, none⟩ y := by
  unfold World.setCell
  simp only
  congr 1
  apply Array.ext_getElem?
  intro k
  simp only [Array.getElem?_modify]
  split
  · cases W.heap[k]? with
    | none => rfl
    | some o => cases o <;> simp
  · rfl
theorem oldSame {w : World} {a : Addr} {v u : Value} (h : w.cell? a = some u) : (w.setCell a v).cell? a = some v := by
  rw [World.cell?_setCell_same (h := h)]
theorem oldOther {w : World} {a b : Addr} {v : Value} (h : a ≠ b) : (w.setCell a v).cell? b = w.cell? b := by
  rw [World.cell?_setCell_other (h := h)]
/- What is kept where the source's own place or mix is set. -/
theorem SrcAt.setAt {w : World} {g : Nat} {a : Option Addr} {len cap : Nat} (h : SrcAt w g a len cap) (k : Nat) (hk : k ≤ len) {x : Int} (hx : x = (k : Int)) : SrcAt (w.setCell ⟨g, 1, none⟩ (.int .i64 x)) g a len cap := by
  obtain ⟨k0, _, c1⟩ := h.c1
  obtain ⟨m, c2⟩ := h.c2
  obtain ⟨n, n0, n1, c3⟩ := h.c3
  subst hx
  refine ⟨h.lt, by simpa [World.setCell] using h.room, h.small, ?_, ?_, ⟨k, hk, oldSame c1⟩, ⟨m, ?_⟩, ⟨n, n0, n1, ?_⟩, ?_, ?_, ?_⟩
  · intro j hj
    obtain ⟨b, o, z, ha, hz, h0, h1⟩ := h.bytes j hj
    have := h.lt (by omega) _ ha
    exact ⟨b, o, z, ha, by rw [oldOther (by intro e; rw [Addr.mk.injEq] at e; simp at this; omega)]; exact hz, h0, h1⟩
  · rw [oldOther (by simp)]; exact h.c0
  · rw [oldOther (by simp)]; exact c2
  · rw [oldOther (by simp)]; exact c3
  · rw [World.frozen?_setCell]; exact h.f1
  · rw [World.frozen?_setCell]; exact h.f2
  · rw [World.frozen?_setCell]; exact h.f3
theorem SrcAt.setMix {w : World} {g : Nat} {a : Option Addr} {len cap : Nat} (h : SrcAt w g a len cap) (x : Int) : SrcAt (w.setCell ⟨g, 2, none⟩ (.int .u64 x)) g a len cap := by
  obtain ⟨k0, hk, c1⟩ := h.c1
  obtain ⟨m, c2⟩ := h.c2
  obtain ⟨n, n0, n1, c3⟩ := h.c3
  refine ⟨h.lt, by simpa [World.setCell] using h.room, h.small, ?_, ?_, ⟨k0, hk, ?_⟩, ⟨x, oldSame c2⟩, ⟨n, n0, n1, ?_⟩, ?_, ?_, ?_⟩
  · intro j hj
    obtain ⟨b, o, z, ha, hz, h0, h1⟩ := h.bytes j hj
    have := h.lt (by omega) _ ha
    exact ⟨b, o, z, ha, by rw [oldOther (by intro e; rw [Addr.mk.injEq] at e; simp at this; omega)]; exact hz, h0, h1⟩
  · rw [oldOther (by simp)]; exact h.c0
  · rw [oldOther (by simp)]; exact c1
  · rw [oldOther (by simp)]; exact c3
  · rw [World.frozen?_setCell]; exact h.f1
  · rw [World.frozen?_setCell]; exact h.f2
  · rw [World.frozen?_setCell]; exact h.f3
theorem SrcAt.drew {w : World} {g : Nat} {a : Option Addr} {len cap : Nat} (h : SrcAt w g a len cap) : SrcAt w.drew g a len cap := ⟨h.lt, h.room, h.small, h.bytes, h.c0, h.c1, h.c2, h.c3, h.f1, h.f2, h.f3⟩
theorem SrcAt.setSize {w : World} {g : Nat} {a : Option Addr} {len cap : Nat} (h : SrcAt w g a len cap) (x : Int) (h0 : 0 ≤ x) (h1 : x ≤ 12) : SrcAt (w.setCell ⟨g, 3, none⟩ (.int .i64 x)) g a len cap := by
  obtain ⟨k0, hk, c1⟩ := h.c1
  obtain ⟨m, c2⟩ := h.c2
  obtain ⟨n, n0, n1, c3⟩ := h.c3
  refine ⟨h.lt, by simpa [World.setCell] using h.room, h.small, ?_, ?_, ⟨k0, hk, ?_⟩, ⟨m, ?_⟩, ⟨x, h0, h1, oldSame c3⟩, ?_, ?_, ?_⟩
  · intro j hj
    obtain ⟨b, o, z, ha, hz, h0, h1⟩ := h.bytes j hj
    have := h.lt (by omega) _ ha
    exact ⟨b, o, z, ha, by rw [oldOther (by intro e; rw [Addr.mk.injEq] at e; simp at this; omega)]; exact hz, h0, h1⟩
  · rw [oldOther (by simp)]; exact h.c0
  · rw [oldOther (by simp)]; exact c1
  · rw [oldOther (by simp)]; exact c2
  · rw [World.frozen?_setCell]; exact h.f1
  · rw [World.frozen?_setCell]; exact h.f2
  · rw [World.frozen?_setCell]; exact h.f3
/- A source that was just made. -/
theorem SrcAt.start {w : World} {a : Option Addr} {len cap : Nat} {m : Int} {t : TypeId} (hb : Bytes w a len) (hs : len ≤ 9223372036854775807) :
    SrcAt (w.alloc (.cells #[.slice a len cap, .int .i64 0, .int .u64 m, .int .i64 0] t)) w.heap.size a len cap := by
  refine ⟨hb.lt, by simp, hs, ?_, by simp, ⟨0, Nat.zero_le _, by simp⟩, ⟨m, by simp⟩, ⟨0, by omega, by omega, by simp⟩, by simp, by simp, by simp⟩
  intro j hj
  obtain ⟨b, o, z, ha, hz, h0, h1⟩ := hb j hj
  have := hb.lt (by omega) _ ha
  exact ⟨b, o, z, ha, by rw [World.cell?_alloc_lt _ _ ⟨b, o + j, none⟩ this]; exact hz, h0, h1⟩
/- What a call has done that changed nothing but the source, or made memory, is no matter to the source's reader. -/
theorem SrcAt.kept {w w' : World} {g : Nat} {a : Option Addr} {len cap : Nat} (h : SrcAt w g a len cap) {r : Option Nat} (hg : w.grownBy w' r) (hr : ∀ k, r = some k → g < k) : SrcAt w' g a len cap := by
  have hc : ∀ x : Addr, x.block ≤ g → w'.cell? x = w.cell? x := fun x hx => World.cell?_of_block (hg.block x.block (by have := h.room; omega) (by intro e; have := hr _ e.symm; omega))
  have hf : ∀ x : Addr, x.block ≤ g → w'.frozen? x = w.frozen? x := fun x hx => World.frozen?_of_block (hg.block x.block (by have := h.room; omega) (by intro e; have := hr _ e.symm; omega))
  obtain ⟨k0, hk, c1⟩ := h.c1
  obtain ⟨m, c2⟩ := h.c2
  obtain ⟨n, n0, n1, c3⟩ := h.c3
  refine ⟨h.lt, Nat.lt_of_lt_of_le h.room hg.size, h.small, ?_, by rw [hc _ (Nat.le_refl _)]; exact h.c0, ⟨k0, hk, by rw [hc _ (Nat.le_refl _)]; exact c1⟩, ⟨m, by rw [hc _ (Nat.le_refl _)]; exact c2⟩, ⟨n, n0, n1, by rw [hc _ (Nat.le_refl _)]; exact c3⟩,
    by rw [hf _ (Nat.le_refl _)]; exact h.f1, by rw [hf _ (Nat.le_refl _)]; exact h.f2, by rw [hf _ (Nat.le_refl _)]; exact h.f3⟩
  intro j hj
  obtain ⟨b, o, z, ha, hz, h0, h1⟩ := h.bytes j hj
  have := h.lt (by omega) _ ha
  exact ⟨b, o, z, ha, by rw [hc _ (by simp at this ⊢; omega)]; exact hz, h0, h1⟩
theorem grownBy_set {w w' : World} {g i : Nat} {v : Value} (h : w.grownBy w' (some g)) : w.grownBy (w'.setCell ⟨g, i, none⟩ v) (some g) :=
  ⟨h.os, h.tape, h.output, by simpa [World.setCell] using h.size, fun k hk hne => by rw [Below.heap_setCell _ _ _ _ (by intro e; exact hne (by rw [e]))]; exact h.block k hk hne⟩
theorem grownBy_drew {w w' : World} {r : Option Nat} (h : w.grownBy w' r) : w.grownBy w'.drew r := ⟨h.os, h.tape, h.output, h.size, h.block⟩
theorem draw_range {X most : Int} (h1 : 1 < most) (h2 : most ≤ 1099511627776) : 0 ≤ wrap64 ((IntKind.u64.wrap X).tmod most) ∧ wrap64 ((IntKind.u64.wrap X).tmod most) < most := by
  have h0 : 0 ≤ IntKind.u64.wrap X := by simp [IntKind.wrap, IntKind.signed, IntKind.bits]; omega
  rw [Int.tmod_eq_emod_of_nonneg h0]
  have a := Int.emod_nonneg (IntKind.u64.wrap X) (show most ≠ 0 by omega)
  have b := Int.emod_lt_of_pos (IntKind.u64.wrap X) (show 0 < most by omega)
  generalize IntKind.u64.wrap X % most = r at *
  unfold wrap64
  omega
theorem SrcAt.below {w w' : World} {g : Nat} {a : Option Addr} {len cap B : Nat} (h : SrcAt w g a len cap) (hb : Below B w w') (hB : g < B) : SrcAt w' g a len cap := by
  obtain ⟨k0, hk, c1⟩ := h.c1
  obtain ⟨m, c2⟩ := h.c2
  obtain ⟨n, n0, n1, c3⟩ := h.c3
  refine ⟨h.lt, Nat.lt_of_lt_of_le h.room hb.size, h.small, ?_, by rw [hb.cell hB]; exact h.c0, ⟨k0, hk, by rw [hb.cell hB]; exact c1⟩, ⟨m, by rw [hb.cell hB]; exact c2⟩, ⟨n, n0, n1, by rw [hb.cell hB]; exact c3⟩,
    by rw [hb.frozen hB]; exact h.f1, by rw [hb.frozen hB]; exact h.f2, by rw [hb.frozen hB]; exact h.f3⟩
  intro j hj
  obtain ⟨b, o, z, ha, hz, h0, h1⟩ := h.bytes j hj
  have := h.lt (by omega) _ ha
  exact ⟨b, o, z, ha, by rw [hb.cell (by simp at this ⊢; omega)]; exact hz, h0, h1⟩
theorem grownBy_below {w w1 w2 : World} {r : Option Nat} (h : w.grownBy w1 r) (hb : Below w.heap.size w1 w2) : w.grownBy w2 r :=
  ⟨hb.os.trans h.os, hb.tape.trans h.tape, hb.output.trans h.output, Nat.le_trans h.size hb.size, fun k hk hne => (hb.block k hk).trans (h.block k hk hne)⟩
theorem grownBy_trans {w w1 w2 : World} {r : Option Nat} (h : w.grownBy w1 r) (k : w1.grownBy w2 r) : w.grownBy w2 r :=
  ⟨k.os.trans h.os, k.tape.trans h.tape, k.output.trans h.output, Nat.le_trans h.size k.size, fun i hi hne => (k.block i (Nat.lt_of_lt_of_le hi h.size) hne).trans (h.block i hi hne)⟩
theorem Below.by {w0 w w' : World} {B g : Nat} (h : Below B w0 w) (hg : w.grownBy w' (some g)) (hB : B ≤ w.heap.size) (h1 : B ≤ g) : Below B w0 w' :=
  h.grown hg hB (fun k hk => by cases hk; exact h1)
end Go.Proofs.YtoaoaagfnkpkdaaDoor
namespace Go.Proofs.YtoaoaagfnkpkdaaDoor
open Go.RowKit
set_option linter.unusedVariables false
attribute [local go_sem ↓] Go.wp_at_zero Go.wp_at_succ

set_option maxRecDepth 100000 in
set_option maxHeartbeats 2000000 in
theorem n_any (g len cap : Nat) (a : Option Addr) (most : Int) (w : World) (h : SrcAt w g a len cap) (hm : 0 < most) (hm2 : most ≤ 1099511627776) :
    Calls Tryd.prog 62 #[.pointer (some ⟨g, 0, none⟩), .int .i64 most] w fun e w' => ∃ v : Int, e = .returned (.int .i64 v) ∧ 0 ≤ v ∧ v < most ∧ SrcAt w' g a len cap ∧ w.grownBy w' (some g) := by
  by_cases h1 : most ≤ 1
  · have HS : Hid (SrcAt w g a len cap) := h
    clear h
    go_enter Tryd.func62, Tryd.ntmps62
    go_wp2
    go_ret
    exact ⟨0, rfl, by omega, hm, HS.out, World.grownBy.refl _ _⟩
  have hm1 : 1 < most := by omega
  obtain ⟨k, hk, c1⟩ := h.c1
  obtain ⟨m, c2⟩ := h.c2
  have c0 := h.c0
  have f1 := h.f1
  have f2 := h.f2
  have hsmall := h.small
  have HS : Hid (SrcAt w g a len cap) := h
  have hss := setCell_twice
  clear h
  by_cases hlt : k < len
  · obtain ⟨b, o, z, rfl, hz, hz0, hz1⟩ := HS.out.bytes k hlt
    have hne : b ≠ g := by have := HS.out.lt (by omega) _ rfl; simp at this; omega
    have hi0 : (0 : Int) ≤ (k : Int) := by omega
    have hi1 : (k : Int) < (len : Int) := by omega
    go_enter Tryd.func62, Tryd.ntmps62
    go_wp2
    go_region
    go_wp2
    go_region
    go_wp2
    go_region
    generalize bits BinOp.xor IntKind.u64 _ _ = m1
    go_wp2
    go_region
    generalize bits BinOp.xor IntKind.u64 _ _ = m2
    go_wp2
    go_region
    generalize bits BinOp.xor IntKind.u64 _ _ = m3
    go_wp2
    go_ret
    have hr := draw_range (X := z + m3 / 1048576) hm1 hm2
    exact ⟨_, rfl, hr.1, hr.2, ((HS.out.setAt (k + 1) hlt (by omega)).setMix m3).drew.drew.drew.drew.drew, grownBy_drew (grownBy_drew (grownBy_drew (grownBy_drew (grownBy_drew (grownBy_set (grownBy_set (World.grownBy.refl _ _)))))))⟩
  · have hi1 : ¬ (k : Int) < (len : Int) := by omega
    go_enter Tryd.func62, Tryd.ntmps62
    go_wp2
    go_region
    go_wp2
    go_region
    generalize bits BinOp.xor IntKind.u64 _ _ = m1
    go_wp2
    go_region
    generalize bits BinOp.xor IntKind.u64 _ _ = m2
    go_wp2
    go_region
    generalize bits BinOp.xor IntKind.u64 _ _ = m3
    go_wp2
    go_ret
    have hr := draw_range (X := m3 / 1048576) hm1 hm2
    exact ⟨_, rfl, hr.1, hr.2, (HS.out.setMix m3).drew.drew.drew.drew, grownBy_drew (grownBy_drew (grownBy_drew (grownBy_drew (grownBy_set (World.grownBy.refl _ _)))))⟩
end Go.Proofs.YtoaoaagfnkpkdaaDoor
namespace Go.Proofs.YtoaoaagfnkpkdaaDoor
open Go.RowKit
set_option linter.unusedVariables false

/- A row of bytes that is known whole. -/
def RowIs (w : World) (g e : Nat) (l : List UInt8) : Prop := w.heap[g]? = some (.cells (bvs l).toArray e (0, 0))
theorem RowIs.made {w : World} {base e g n : Nat} {xs : List Value} (h : w.ownsRow base e 1 (.slice (some ⟨g, 0, none⟩) n n) n xs) (hx : xs = bvs (List.replicate n 0)) : RowIs w g e (List.replicate n 0) := by
  rcases h.2 with ⟨h1, _⟩ | ⟨g', cap, cur, hv, hbg, hg, hnc, hcm, hcs, htake⟩
  · simp at h1
  · simp at hv
    obtain ⟨rfl, rfl⟩ := hv
    unfold RowIs
    rw [hg, ← hx, ← htake, List.take_of_length_le (by simp [hcs])]
theorem RowIs.owns {w : World} {base e g n : Nat} {l : List UInt8} (h : RowIs w g e l) (hl : l.length = n) (hb : base ≤ g) (hm : n ≤ maxLen) : w.ownsRow base e 1 (.slice (some ⟨g, 0, none⟩) n n) n (bvs l) :=
  ⟨by rw [bvs_length]; omega, .inr ⟨g, n, _, rfl, hb, h, Nat.le_refl _, hm, by simp [bvs_length, hl], by rw [List.take_of_length_le (by simp [bvs_length, hl])]⟩⟩

theorem made_zero (n : Nat) : (madeCells #[Value.int .u8 0] n).toList = bvs (List.replicate n 0) := by
  apply List.ext_getElem
  · simp [madeCells, bvs]
  · intro i h1 h2
    simp [madeCells, bvs, BV, Nat.mod_one]

theorem own_empty {W : World} {B e : Nat} (hB : W.heap.size = B) : (W.alloc (.cells #[] e)).ownsRow B e 1 (.slice (some ⟨B, 0, none⟩) 0 0) 0 (bvs []) := by
  subst hB
  exact World.ownsRow_made W #[] 0 (Nat.le_refl _) (Nat.zero_le _) rfl
theorem bvs_get {l : List UInt8} {k : Nat} (h : k < l.length) : (bvs l)[k]? = some (BV l[k]) := by
  simp [bvs, List.getElem?_eq_getElem h]
theorem RowIs.cell {w : World} {g e : Nat} {l : List UInt8} (h : RowIs w g e l) {k : Nat} (hk : k < l.length) : w.cell? ⟨g, k, none⟩ = some (BV l[k]) := by
  unfold RowIs at h
  simp [World.cell?, h, bvs_get hk]
theorem RowIs.frozen {w : World} {g e : Nat} {l : List UInt8} (h : RowIs w g e l) (k : Nat) : w.frozen? ⟨g, k, none⟩ = false := by
  unfold RowIs at h
  simp [World.frozen?, h]
theorem RowIs.set {w : World} {g e : Nat} {l l' : List UInt8} (h : RowIs w g e l) (k : Nat) {z : Int} {b : UInt8} (hz : BV b = .int .u8 z) (hl : l' = l.set k b) : RowIs (w.setCell ⟨g, k, none⟩ (.int .u8 z)) g e l' := by
  unfold RowIs at *
  rw [heap_setCell_same w g k _ _ _ h, hl, ← hz]
  congr 2
  simp [bvs, List.map_set]
end Go.Proofs.YtoaoaagfnkpkdaaDoor
namespace Go.Proofs.YtoaoaagfnkpkdaaDoor
open Go.RowKit
set_option linter.unusedVariables false
attribute [local go_sem ↓] Go.wp_at_zero Go.wp_at_succ

set_option maxRecDepth 100000 in
set_option maxHeartbeats 2000000 in
theorem source_any (len cap : Nat) (a : Option Addr) (w : World) (hb : Bytes w a len) (hs : len ≤ 9223372036854775807) :
    Calls Tryd.prog 43 #[.slice a len cap] w fun e w' => ∃ g : Nat, e = .returned (.pointer (some ⟨g, 0, none⟩)) ∧ w.heap.size ≤ g ∧ SrcAt w' g a len cap ∧ Below w.heap.size w w' := by
  have hst : Hid (SrcAt (w.alloc (.cells #[.slice a len cap, .int .i64 0, .int .u64 88172645463325252, .int .i64 0] 80)) w.heap.size a len cap) := SrcAt.start hb hs
  have hss := setCell_twice
  clear hb
  go_enter Tryd.func43, Tryd.ntmps43
  go_wp2
  go_loopw [4] (fun i wr => ∃ k : Nat, i = .int .i64 k ∧ k ≤ len ∧ SrcAt wr w.heap.size a len cap ∧ Below w.heap.size w wr) (fun i _ => len - (intOf i).toNat)
  case atStart => exact ⟨0, rfl, Nat.zero_le _, hst.out, (Below.refl _ _).alloc (Nat.le_refl _) _⟩
  case round =>
    obtain ⟨k, rfl, hk, hsrc, hnx⟩ := hrel
    have HS : Hid (SrcAt wr w.heap.size a len cap) := hsrc
    have HB : Hid (Below w.heap.size w wr) := hnx
    obtain ⟨m, c2⟩ := hsrc.c2
    obtain ⟨n, n0, n1, c3⟩ := hsrc.c3
    have f2 := hsrc.f2
    have f3 := hsrc.f3
    have hend : ∀ x : Int, 0 ≤ x → x ≤ 12 → Hid (SrcAt (wr.setCell ⟨w.heap.size, 3, none⟩ (.int .i64 x)) w.heap.size a len cap ∧ Below w.heap.size w (wr.setCell ⟨w.heap.size, 3, none⟩ (.int .i64 x))) := fun x h0 h1 => ⟨HS.out.setSize x h0 h1, HB.out.setCell (Nat.le_refl _) _⟩
    have HE : Hid _ := hend
    clear hsrc hnx hst hend
    by_cases hlt : k < len ∧ k < 64
    · obtain ⟨hl1, hl2⟩ := hlt
      obtain ⟨b, o, z, ha, hz, hz0, hz1⟩ := HS.out.bytes k hl1
      have hne : b ≠ w.heap.size := by have := HS.out.lt (by omega) _ ha; simp at this; omega
      subst ha
      have hi0 : (0 : Int) ≤ (k : Int) := by omega
      have hi1 : (k : Int) < (len : Int) := by omega
      clear HE
      go_wp2
      go_region
      generalize IntKind.u64.wrap _ = m1
      go_wp2
      go_roundw
      case rel => exact ⟨k + 1, by go_num, hl1, (HS.out.setMix m1).drew, (HB.out.setCell (Nat.le_refl _) _).drew⟩
      case measure => simp [intOf]; omega
    · by_cases h12 : 12 < (len : Int) / 20
      · have hE := HE.out 12 (by omega) (by omega)
        clear HE
        by_cases hl1 : k < len
        all_goals
          go_wp2
          go_ret
          exact ⟨w.heap.size, rfl, Nat.le_refl _, hE.out.1, hE.out.2⟩
      · have hE := HE.out ((len : Int) / 20) (by omega) (by omega)
        clear HE
        by_cases hl1 : k < len
        all_goals
          go_wp2
          go_ret
          exact ⟨w.heap.size, rfl, Nat.le_refl _, hE.out.1, hE.out.2⟩
end Go.Proofs.YtoaoaagfnkpkdaaDoor
namespace Go.Proofs.YtoaoaagfnkpkdaaDoor
open Go.RowKit
set_option linter.unusedVariables false
attribute [local go_sem ↓] Go.wp_at_zero Go.wp_at_succ

theorem one_any (g len cap : Nat) (a : Option Addr) (most : Int) (w : World) (h : SrcAt w g a len cap) (hm : 0 < most) (hm2 : most ≤ 1099511627776) :
    Calls Tryd.prog 63 #[.pointer (some ⟨g, 0, none⟩), .int .i64 most] w fun e w' => ∃ b : Bool, Hid (e = .returned (.bool b) ∧ SrcAt w' g a len cap ∧ w.grownBy w' (some g)) := by
  have HN : Hid (∀ w1, SrcAt w1 g a len cap → Calls Tryd.prog 62 #[.pointer (some ⟨g, 0, none⟩), .int .i64 most] w1 fun e w' => ∃ v : Int, e = .returned (.int .i64 v) ∧ 0 ≤ v ∧ v < most ∧ SrcAt w' g a len cap ∧ w1.grownBy w' (some g)) := fun w1 h1 => n_any g len cap a most w1 h1 hm hm2
  have HS : Hid (SrcAt w g a len cap) := h
  clear h
  go_enter Tryd.func63, Tryd.ntmps63
  go_wp2_with fail
  refine (HN.out _ HS.out).mono ?_
  rintro e w1 ⟨v, rfl, _, _, h1, h2⟩
  have H1 : Hid _ := h1
  have H2 : Hid _ := h2
  clear h1 h2 HN HS
  go_wp2
  go_ret
  exact ⟨(v == 0), rfl, H1.out, H2.out⟩
end Go.Proofs.YtoaoaagfnkpkdaaDoor
namespace Go.Proofs.YtoaoaagfnkpkdaaDoor
open Go.RowKit
set_option linter.unusedVariables false

set_option maxRecDepth 100000 in
set_option maxHeartbeats 2000000 in
theorem bytes_any (g len cap n : Nat) (a : Option Addr) (w : World) (h : SrcAt w g a len cap) (hn : n ≤ 1000000) :
    Calls Tryd.prog 76 #[.pointer (some ⟨g, 0, none⟩), .int .i64 n] w fun e w' => ∃ x : ByteArray, e = .returned (.string x) ∧ x.size = n ∧ SrcAt w' g a len cap ∧ w.grownBy w' (some g) := by
  have HN : Hid (∀ w1, SrcAt w1 g a len cap → Calls Tryd.prog 62 #[.pointer (some ⟨g, 0, none⟩), .int .i64 256] w1 fun e w' => ∃ v : Int, e = .returned (.int .i64 v) ∧ 0 ≤ v ∧ v < 256 ∧ SrcAt w' g a len cap ∧ w1.grownBy w' (some g)) := fun w1 h1 => n_any g len cap a 256 w1 h1 (by omega) (by omega)
  have HS0 : Hid (SrcAt w g a len cap) := h
  have hgw := h.room
  clear h
  go_enter Tryd.func76, Tryd.ntmps76
  go_wp2
  go_loopw [5, 6] (fun v i wr => ∃ (bs : List UInt8) (k : Nat), i = .int .i64 k ∧ k ≤ n ∧ bs.length = k ∧ wr.ownsRow w.heap.size 5 1 v k (bvs bs) ∧ SrcAt wr g a len cap ∧ w.grownBy wr (some g)) (fun _ i _ => n - (intOf i).toNat)
  case atStart => exact ⟨[], 0, rfl, Nat.zero_le _, rfl, own_empty rfl, HS0.out.below ((Below.refl _ _).alloc (Nat.le_refl _) _) hgw, grownBy_below (World.grownBy.refl _ _) ((Below.refl _ _).alloc (Nat.le_refl _) _)⟩
  case round =>
    obtain ⟨bs, k, rfl, hk, hl, hown, hsrc, hgr⟩ := hrel
    have HL : Hid (bs.length = k) := hl
    have HS : Hid (SrcAt wr g a len cap) := hsrc
    have HG : Hid (w.grownBy wr (some g)) := hgr
    have HO : Hid (wr.ownsRow w.heap.size 5 1 u5 k (bvs bs)) := hown
    clear hl hown hsrc hgr
    by_cases hlt : k < n
    · go_wp2_with fail
      refine (HN.out _ HS.out).mono ?_
      rintro e w1 ⟨z, rfl, hz0, hz1, h1, h2⟩
      have hown1 := HO.out.kept h2 (Or.inr (by intro e; have := (HO.out.lt _ e).1; omega))
      have HS1 : Hid (SrcAt w1 g a len cap) := h1
      have HG1 : Hid (w.grownBy w1 (some g)) := grownBy_trans HG.out h2
      have hsz : w.heap.size ≤ w1.heap.size := HG1.out.size
      obtain ⟨b, hb⟩ : ∃ b : UInt8, BV b = .int .u8 z := ⟨UInt8.ofNat z.toNat, by rw [BV_ofNat _ (by omega), Int.toNat_of_nonneg hz0]⟩
      have HB : Hid (BV b = .int .u8 z) := hb
      clear h1 h2 HN HS HG HO hb
      go_wp2_with (first
        | (at_builtin; refine wpList_append_byte rfl _ _ 22 rfl w.heap.size 5 Tryd.underlying22 Tryd.infoU8 _ bs _ rfl hown1 b _ HB.out 1 rfl (by omega) hsz ?_))
      intro v' w2 hown' hb2
      clear hown1
      go_wp2
      go_roundw
      case rel => exact ⟨bs ++ [b], k + 1, by go_num, hlt, by simp [HL.out], hown', HS1.out.below hb2 hgw, grownBy_below HG1.out hb2⟩
      case measure => simp [intOf]; omega
    · obtain rfl : k = n := by omega
      have hconv := run_conv_own 22 Tryd.underlying22 Tryd.underlying5 HO.out 9 Tryd.underlying9
      clear HO HN
      go_wp2
      go_ret
      exact ⟨⟨bs.toArray⟩, rfl, by simpa [ByteArray.size] using HL.out, HS.out, HG.out⟩
end Go.Proofs.YtoaoaagfnkpkdaaDoor
namespace Go.Proofs.YtoaoaagfnkpkdaaDoor
open Go.RowKit
set_option linter.unusedVariables false

theorem edge_cell (w : World) (t : TypeId) : ∀ j : Nat, j < 14 → ∃ z : Int, I64 z ∧ (w.alloc (.cells #[.int .i64 0, .int .i64 1, .int .i64 (-1), .int .i64 2, .int .i64 1000, .int .i64 1001, .int .i64 2147483648, .int .i64 2147483647, .int .i64 (-2147483648), .int .i64 4611686018427387904, .int .i64 9223372036854775807, .int .i64 (-9223372036854775808), .int .i64 1000000, .int .i64 1000001] t)).cell? ⟨w.heap.size, j, none⟩ = some (.int .i64 z)
  | 0, _ => ⟨_, by show (Lit.int .i64 (0)).wf = true; decide, by simp⟩
  | 1, _ => ⟨_, by show (Lit.int .i64 (1)).wf = true; decide, by simp⟩
  | 2, _ => ⟨_, by show (Lit.int .i64 (-1)).wf = true; decide, by simp⟩
  | 3, _ => ⟨_, by show (Lit.int .i64 (2)).wf = true; decide, by simp⟩
  | 4, _ => ⟨_, by show (Lit.int .i64 (1000)).wf = true; decide, by simp⟩
  | 5, _ => ⟨_, by show (Lit.int .i64 (1001)).wf = true; decide, by simp⟩
  | 6, _ => ⟨_, by show (Lit.int .i64 (2147483648)).wf = true; decide, by simp⟩
  | 7, _ => ⟨_, by show (Lit.int .i64 (2147483647)).wf = true; decide, by simp⟩
  | 8, _ => ⟨_, by show (Lit.int .i64 (-2147483648)).wf = true; decide, by simp⟩
  | 9, _ => ⟨_, by show (Lit.int .i64 (4611686018427387904)).wf = true; decide, by simp⟩
  | 10, _ => ⟨_, by show (Lit.int .i64 (9223372036854775807)).wf = true; decide, by simp⟩
  | 11, _ => ⟨_, by show (Lit.int .i64 (-9223372036854775808)).wf = true; decide, by simp⟩
  | 12, _ => ⟨_, by show (Lit.int .i64 (1000000)).wf = true; decide, by simp⟩
  | 13, _ => ⟨_, by show (Lit.int .i64 (1000001)).wf = true; decide, by simp⟩
  | j + 14, h => absurd h (by omega)

set_option maxRecDepth 100000 in
set_option maxHeartbeats 2000000 in
theorem edge_any (g len cap : Nat) (a : Option Addr) (w : World) (h : SrcAt w g a len cap) :
    Calls Tryd.prog 64 #[.pointer (some ⟨g, 0, none⟩)] w fun e w' => ∃ z : Int, e = .returned (.int .i64 z) ∧ I64 z ∧ SrcAt w' g a len cap ∧ w.grownBy w' (some g) := by
  have hgw := h.room
  have HB : Hid (Below w.heap.size w (w.alloc (.cells #[.int .i64 0, .int .i64 1, .int .i64 (-1), .int .i64 2, .int .i64 1000, .int .i64 1001, .int .i64 2147483648, .int .i64 2147483647, .int .i64 (-2147483648), .int .i64 4611686018427387904, .int .i64 9223372036854775807, .int .i64 (-9223372036854775808), .int .i64 1000000, .int .i64 1000001] 2))) := (Below.refl _ _).alloc (Nat.le_refl _) _
  have HS1 : Hid (SrcAt (w.alloc (.cells #[.int .i64 0, .int .i64 1, .int .i64 (-1), .int .i64 2, .int .i64 1000, .int .i64 1001, .int .i64 2147483648, .int .i64 2147483647, .int .i64 (-2147483648), .int .i64 4611686018427387904, .int .i64 9223372036854775807, .int .i64 (-9223372036854775808), .int .i64 1000000, .int .i64 1000001] 2)) g a len cap) := h.below HB.out hgw
  have HN : Hid (∀ w1, SrcAt w1 g a len cap → Calls Tryd.prog 62 #[.pointer (some ⟨g, 0, none⟩), .int .i64 14] w1 fun e w' => ∃ v : Int, e = .returned (.int .i64 v) ∧ 0 ≤ v ∧ v < 14 ∧ SrcAt w' g a len cap ∧ w1.grownBy w' (some g)) := fun w1 h1 => n_any g len cap a 14 w1 h1 (by omega) (by omega)
  clear h
  go_enter Tryd.func64, Tryd.ntmps64
  go_wp2_with fail
  refine (HN.out _ HS1.out).mono ?_
  rintro e w1 ⟨v, rfl, hv0, hv1, h1, h2⟩
  obtain ⟨j, rfl⟩ := Int.eq_ofNat_of_zero_le hv0
  obtain ⟨z, hz, hc⟩ := edge_cell w 2 j (by omega)
  have hc1 : w1.cell? ⟨w.heap.size, j, none⟩ = some (.int .i64 z) := by
    rw [World.cell?_of_block (h2.block w.heap.size (by simp) (by intro e; simp at e; omega))]; exact hc
  have H1 : Hid _ := h1
  have HZ : Hid (I64 z) := hz
  have HG : Hid (w.grownBy w1 (some g)) := grownBy_trans (grownBy_below (World.grownBy.refl _ _) HB.out) h2
  clear h1 h2 HN HS1 HB hc hz
  go_wp2
  go_ret
  exact ⟨z, rfl, HZ.out, H1.out, HG.out⟩

end Go.Proofs.YtoaoaagfnkpkdaaDoor
