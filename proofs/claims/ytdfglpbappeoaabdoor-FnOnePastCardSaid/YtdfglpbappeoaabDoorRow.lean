/- A row of bytes that a call has made and that is known whole. -/
import Derived.Test.YtdfglpbappeoaabDoorOwn
namespace Go.Proofs.YtdfglpbappeoaabDoor
open Go.RowKit
set_option linter.unusedVariables false

/- A row of bytes that is known whole. -/
def RowIs (w : World) (g e : Nat) (l : List UInt8) : Prop := w.heap[g]? = some (.cells (bvs l).toArray e (0, 0))
theorem RowIs.made {w : World} {base e g n : Nat} {xs : List Value} (h : w.ownsRow base e 1 (.slice (some ⟨g, 0, none⟩) n n) n xs) (hx : xs = bvs (List.replicate n 0)) : RowIs w g e (List.replicate n 0) := by
  rcases h.2 with ⟨h1, _⟩ | ⟨g', cap, cur, hv, hbg, hg, hnc, hcm, hcs, htake⟩
  · simp at h1
  · simp at hv
    obtain ⟨rfl, rfl⟩ := hv
    unfold RowIs
    rw [hg, ← hx, ← htake, List.take_of_length_le (by simp [hcs])]
theorem RowIs.owns {w : World} {base e g n : Nat} {l : List UInt8} (h : RowIs w g e l) (hl : l.length = n) (hb : base ≤ g) (hm : n ≤ maxLen) : w.ownsRow base e 1 (.slice (some ⟨g, 0, none⟩) n n) n (bvs l) :=
  ⟨by rw [bvs_length]; omega, .inr ⟨g, n, _, rfl, hb, h, Nat.le_refl _, hm, by simp [bvs_length, hl], by rw [List.take_of_length_le (by simp [bvs_length, hl])]⟩⟩

theorem made_zero (n : Nat) : (madeCells #[Value.int .u8 0] n).toList = bvs (List.replicate n 0) := by
  apply List.ext_getElem
  · simp [madeCells, bvs]
  · intro i h1 h2
    simp [madeCells, bvs, BV, Nat.mod_one]

theorem own_empty {W : World} {B e : Nat} (hB : W.heap.size = B) : (W.alloc (.cells #[] e)).ownsRow B e 1 (.slice (some ⟨B, 0, none⟩) 0 0) 0 (bvs []) := by
  subst hB
  exact World.ownsRow_made W #[] 0 (Nat.le_refl _) (Nat.zero_le _) rfl
theorem bvs_get {l : List UInt8} {k : Nat} (h : k < l.length) : (bvs l)[k]? = some (BV l[k]) := by
  simp [bvs, List.getElem?_eq_getElem h]
theorem RowIs.cell {w : World} {g e : Nat} {l : List UInt8} (h : RowIs w g e l) {k : Nat} (hk : k < l.length) : w.cell? ⟨g, k, none⟩ = some (BV l[k]) := by
  unfold RowIs at h
  simp [World.cell?, h, bvs_get hk]
theorem RowIs.frozen {w : World} {g e : Nat} {l : List UInt8} (h : RowIs w g e l) (k : Nat) : w.frozen? ⟨g, k, none⟩ = false := by
  unfold RowIs at h
  simp [World.frozen?, h]
theorem RowIs.set {w : World} {g e : Nat} {l l' : List UInt8} (h : RowIs w g e l) (k : Nat) {z : Int} {b : UInt8} (hz : BV b = .int .u8 z) (hl : l' = l.set k b) : RowIs (w.setCell ⟨g, k, none⟩ (.int .u8 z)) g e l' := by
  unfold RowIs at *
  rw [heap_setCell_same w g k _ _ _ h, hl, ← hz]
  congr 2
  simp [bvs, List.map_set]
end Go.Proofs.YtdfglpbappeoaabDoor
