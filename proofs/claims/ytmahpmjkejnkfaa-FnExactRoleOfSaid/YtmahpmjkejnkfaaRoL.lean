/- The library's sort, and its striking of repeats, on a row of the call's own. -/
import Derived.Test.YtmahpmjkejnkfaaLay
import Derived.Test.YtmahpmjkejnkfaaRoO
import Derived.Sort.OwnSortedInts
import Derived.Lib.RowBridge
namespace Go.Proofs.Ytmahpmjkejnkfaa
open Go.RowKit Go.Sort
set_option linter.unusedVariables false

theorem below_of {w w' : World} {base g : Nat} (h : w.grownBy w' (some g)) (hb : base ≤ g) (hl : base ≤ w.heap.size) : Below base w w' :=
  ⟨h.os, h.tape, h.output, h.size, fun k hk => h.block k (by omega) (fun e => by injection e with e; omega)⟩
theorem grow_none (W : World) : grow W #[] = W := by simp [grow]
set_option maxRecDepth 100000 in
theorem implSort (v : Value) (base : Nat) (l : List Int) (w : World) (h : OwnI w base v l) (hl : l.length ≤ 1000) (hb : base ≤ w.heap.size) :
    Calls Try.prog 104 #[v] w fun e w' => e = .returned (.tuple #[]) ∧ OwnI w' base v (l.mergeSort fun x y => decide (x ≤ y)) ∧ Below base w w' := by
  rcases h.2 with ⟨h0, hn⟩ | ⟨g, cap, cur, hv, hbg, hg, h1, h2, h3, h4⟩
  · have e0 : l = [] := List.eq_nil_of_length_eq_zero hn
    subst e0 h0
    have hc := AnyM.slices_Sort_int_none Try.mSort none 0 w
    change Calls Try.prog 104 _ _ _ at hc
    refine hc.mono fun e w' hh => ⟨hh.1, ?_, ?_⟩
    · rw [hh.2, List.mergeSort_nil]; exact h
    · rw [hh.2]; exact Below.refl _ _
  · subst hv
    have ht : cur.toList.take l.length = l.map (Value.int .i64) := by rw [Nat.mul_one] at h4; exact h4
    have hc := AnyM.slices_Sort_int Try.mSort g 0 cap l w (holds_of_blockI hg ht) ((Array.getElem?_eq_some_iff.1 hg).1) (by omega)
    change Calls Try.prog 104 _ _ _ at hc
    refine hc.mono fun e w' hh => ?_
    obtain ⟨he, n, os, rfl⟩ := hh
    have hln : (l.mergeSort fun x y => decide (x ≤ y)).length = l.length := (List.mergeSort_perm ..).length_eq
    refine ⟨he, ?_, below_of (grownBy_sortedI _) hbg hb⟩
    have := ownsRow_sortedI (n := n) (os := os) (ss := l) hln hbg hg h1 h2 h3
    unfold OwnI
    rw [hln]
    exact this
set_option maxRecDepth 100000 in
theorem implCmp (v : Value) (base : Nat) (l : List Int) (w : World) (h : OwnI w base v l) (hl : l.length ≤ 1000) (hb : base ≤ w.heap.size) :
    Calls Try.prog 105 #[v] w fun e w' => ∃ v', e = .returned v' ∧ OwnI w' base v' (Lib.compact l) ∧ Below base w w' := by
  rcases h.2 with ⟨h0, hn⟩ | ⟨g, cap, cur, hv, hbg, hg, h1, h2, h3, h4⟩
  · have e0 : l = [] := List.eq_nil_of_length_eq_zero hn
    subst e0 h0
    have hc := AnyG.slices_Compact_int_empty Try.mCmp none 0 w
    change Calls Try.prog 105 _ _ _ at hc
    refine hc.mono fun e w' hh => ⟨_, hh.1, ?_, ?_⟩
    · rw [hh.2]; exact h
    · rw [hh.2]; exact Below.refl _ _
  · subst hv
    have ht : cur.toList.take l.length = l.map (Value.int .i64) := by rw [Nat.mul_one] at h4; exact h4
    have hc := AnyG.slices_Compact_int Try.mCmp g 0 cap l w (holds_of_blockI hg ht) (by omega) h1
    change Calls Try.prog 105 _ _ _ at hc
    refine hc.mono fun e w' hh => ?_
    obtain ⟨he, q, rfl⟩ := hh
    have hcl := Lib.compact_length_le l
    have hln : (Lib.compact l ++ List.replicate (l.length - (Lib.compact l).length) 0).length = l.length := by rw [List.length_append, List.length_replicate]; omega
    have hgr : w.grownBy (putRow (Value.int .i64) (Sort.ahead w q) g 0 (Lib.compact l ++ List.replicate (l.length - (Lib.compact l).length) 0).toArray) (some g) := by
      have := grownBy_sortedI (w := w) (g := g) (n := q) (os := #[]) (Lib.compact l ++ List.replicate (l.length - (Lib.compact l).length) 0).toArray
      rwa [grow_none] at this
    have hblk := heap_sortedI (w := w) (g := g) (n := q) (os := #[]) (Lib.compact l ++ List.replicate (l.length - (Lib.compact l).length) 0).toArray hg
    rw [grow_none] at hblk
    refine ⟨_, he, ⟨by rw [List.length_map, Nat.mul_one], .inr ⟨g, cap, _, rfl, hbg, hblk, Nat.le_trans hcl h1, h2, by simpa [putCells] using h3, ?_⟩⟩, below_of hgr hbg hb⟩
    have htk := take_putCellsI cur (Lib.compact l ++ List.replicate (l.length - (Lib.compact l).length) 0) (by rw [hln, h3]; omega)
    rw [Nat.mul_one]
    have e1 : ∀ L : List Value, L.take (Lib.compact l).length = (L.take (Lib.compact l ++ List.replicate (l.length - (Lib.compact l).length) 0).length).take (Lib.compact l).length := fun L => by rw [List.take_take, Nat.min_eq_left (by rw [List.length_append]; omega)]
    rw [e1, htk, List.map_append, List.take_append_of_le_length (by rw [List.length_map]; exact Nat.le_refl _), List.take_of_length_le (by rw [List.length_map]; exact Nat.le_refl _)]
end Go.Proofs.Ytmahpmjkejnkfaa
