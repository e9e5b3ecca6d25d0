/- Rows of numbers of 64 bits; what the laws' helpers eqInt64S, markInt64S, heldInt64S do of such rows. -/
import Derived.Test.YtchfpiadfmnphaaDoorRows
import Derived.Tactics2
import Derived.WalkKit
import Derived.WalkSpells
import Derived.ProofKit
import Derived.WalkLawsBesides
import Derived.Deep.QuietTactic
import Derived.BigQuiet
namespace Go.Proofs.YtchfpiadfmnphaaDoor
open Go.RowKit
set_option linter.unusedVariables false

theorem belowN {B : Nat} {a w : World} (h : Below B a w) (n : Nat) : Below B a (w.drewN n) := ⟨h.os, h.tape, h.output, h.size, h.block⟩
theorem cellLt {w : World} {x : Addr} {v : Value} (h : w.cell? x = some v) : x.block < w.heap.size := by
  refine Nat.lt_of_not_le fun hle => ?_
  simp [World.cell?, Array.getElem?_eq_none hle] at h
def IAt (w : World) (a : Option Addr) (l : List Int) : Prop :=
  l ≠ [] → ∃ g, a = some ⟨g, 0, none⟩ ∧ ∀ k (h : k < l.length), w.cell? ⟨g, k, none⟩ = some (.int .i64 l[k]) ∧ w.frozen? ⟨g, k, none⟩ = false
theorem IAt.below {w w' : World} {a : Option Addr} {l : List Int} (h : IAt w a l) (hb : Below w.heap.size w w') : IAt w' a l := fun hl => by
  obtain ⟨g, ha, hc⟩ := h hl
  refine ⟨g, ha, fun k hk => ?_⟩
  have hlt : g < w.heap.size := cellLt (hc k hk).1
  exact ⟨(hb.cell (p := ⟨g, k, none⟩) hlt).trans (hc k hk).1, (hb.frozen (p := ⟨g, k, none⟩) hlt).trans (hc k hk).2⟩
def cnt (k0 : Int) (n : Nat) : List Int := (List.range n).map fun (i : Nat) => k0 + (i : Int)
theorem cnt_length (k0 : Int) (n : Nat) : (cnt k0 n).length = n := by simp [cnt]
/- Everything but the row is as it was. -/
structure Wrote (a : Option Addr) (w w' : World) : Prop where
  far : ∀ x : Addr, (∀ ad, a = some ad → x.block ≠ ad.block) → w'.cell? x = w.cell? x ∧ w'.frozen? x = w.frozen? x
  below : ∀ B, B ≤ w.heap.size → (∀ ad, a = some ad → B ≤ ad.block) → Below B w w'
  size : w'.heap.size = w.heap.size

theorem cnt_set (k0 : Int) (n k : Nat) (l : List Int) (hl : l.length = n) (hk : k < n) : (cnt k0 k ++ l.drop k).set k (k0 + k) = cnt k0 (k + 1) ++ l.drop (k + 1) := by
  rw [List.set_append_right _ _ (by rw [cnt_length]; exact Nat.le_refl _), cnt_length, Nat.sub_self]
  have : l.drop k = l[k]'(by omega) :: l.drop (k + 1) := (List.drop_eq_getElem_cons (by omega))
  rw [this, List.set_cons_zero]
  simp [cnt, List.range_succ]
structure MarkAt (a : Option Addr) (l : List Int) (k0 : Int) (k : Nat) (w wr : World) : Prop where
  row : IAt wr a (cnt k0 k ++ l.drop k)
  wr : Wrote a w wr
theorem MarkAt.step {g : Nat} {l : List Int} {k0 : Int} {k : Nat} {w wr : World} {z : Int} (h : MarkAt (some ⟨g, 0, none⟩) l k0 k w wr) (hk : k < l.length) (hg : g < w.heap.size) (hz : k0 + k = z) : MarkAt (some ⟨g, 0, none⟩) l k0 (k + 1) w (wr.setCell ⟨g, k, none⟩ (.int .i64 z)) := by
  have hlen : ∀ j, j ≤ l.length → (cnt k0 j ++ l.drop j).length = l.length := fun j hj => by simp [cnt]; omega
  obtain ⟨g', hg', hc⟩ := h.row (by intro e; have := congrArg List.length e; rw [hlen k (by omega)] at this; rw [List.length_nil] at this; omega)
  injection hg' with hg'
  injection hg' with hg'
  subst hg'
  have hsame := (hc k (by rw [hlen k (by omega)]; exact hk)).1
  refine ⟨fun _ => ⟨g, rfl, fun j hj => ?_⟩, ⟨fun x hx => ?_, fun B hB hB2 => ?_, ?_⟩⟩
  · rw [World.frozen?_setCell]
    rw [hlen (k + 1) (by omega)] at hj
    have hj' : j < (cnt k0 k ++ l.drop k).length := by rw [hlen k (by omega)]; exact hj
    refine ⟨?_, (hc j hj').2⟩
    have he : (cnt k0 (k + 1) ++ l.drop (k + 1))[j]? = ((cnt k0 k ++ l.drop k).set k (k0 + k))[j]? := by rw [cnt_set k0 l.length k l rfl hk]
    rw [List.getElem?_eq_getElem (by rw [hlen (k + 1) (by omega)]; exact hj)] at he
    by_cases hjk : j = k
    · subst hjk
      rw [World.cell?_setCell_same wr _ _ hsame]
      rw [List.getElem?_set_self hj'] at he
      injection he with he
      rw [he, hz]
    · rw [World.cell?_setCell_other wr _ _ _ (by intro e; injection e with _ e _; exact hjk e.symm), (hc j hj').1]
      rw [List.getElem?_set_ne (fun e => hjk e.symm), List.getElem?_eq_getElem hj'] at he
      injection he with he
      rw [he]
  · have hne : x.block ≠ g := hx _ rfl
    rw [World.frozen?_setCell, World.cell?_setCell_other wr _ _ _ (by intro e; subst e; exact hne rfl)]
    exact h.wr.far x hx
  · exact (h.wr.below B hB hB2).setCell (p := ⟨g, k, none⟩) (hB2 ⟨g, 0, none⟩ rfl) _
  · rw [World.size_setCell]; exact h.wr.size

end Go.Proofs.YtchfpiadfmnphaaDoor
