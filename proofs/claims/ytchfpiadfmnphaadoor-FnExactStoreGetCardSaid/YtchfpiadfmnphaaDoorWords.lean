/- The program's wordsOf and stateOf. -/
import Derived.Test.YtchfpiadfmnphaaDoorBlks
import Derived.Test.YtchfpiadfmnphaaDoorHashB
namespace Go.Proofs.YtchfpiadfmnphaaDoor
open Go.RowKit
set_option linter.unusedVariables false
attribute [local go_sem] U_xor U_or U_and U_add U_shr U_shl U_not U_store U_one'
attribute [local go_sem ↓] Go.wp_at_zero Go.wp_at_succ U_cells

def R8.ints (r : R8) : List Int := r.list.map fun x => (x.toNat : Int)
theorem ints_length (r : R8) : r.ints.length = 8 := rfl
theorem ints_get (r : R8) {k : Nat} (hk : k < r.ints.length) : r.ints[k] = ((r.at k).toNat : Int) := by
  have hk8 : k < 8 := hk
  have h := list_get r hk8
  have : r.ints[k]? = some ((r.at k).toNat : Int) := by rw [R8.ints, List.getElem?_map, h]; rfl
  rw [List.getElem?_eq_getElem hk] at this
  injection this
def pre (r : R8) (k : Nat) : List UInt32 := r.list.take k ++ List.replicate (8 - k) 0
theorem pre_set (r : R8) {k : Nat} (hk : k < 8) : pre r (k + 1) = (pre r k).set k (r.at k) := by
  match k, hk with
  | 0, _ => rfl
  | 1, _ => rfl
  | 2, _ => rfl
  | 3, _ => rfl
  | 4, _ => rfl
  | 5, _ => rfl
  | 6, _ => rfl
  | 7, _ => rfl
theorem pre_length (r : R8) {k : Nat} (hk : k ≤ 8) : (pre r k).length = 8 := by
  simp [pre, R8.list]; omega

set_option maxRecDepth 100000 in
set_option maxHeartbeats 1000000 in
theorem wordsOf_any (g c : Nat) (r : R8) (s : ByteArray) (z : Int) (w : World) (h : IAt w (some ⟨g, 0, none⟩) r.ints) :
    Calls Tryd.prog 88 #[HVal (some ⟨g, 0, none⟩) 8 c s z] w fun e w' => e = .returned (aggU r.list) ∧ Below w.heap.size w w' := by
  have HI : Hid (IAt w (some ⟨g, 0, none⟩) r.ints) := h
  clear h
  go_enter Tryd.func88, Tryd.ntmps88
  go_wp2_with (first
    | (with_reducible refine wpList_boxV (w := w) (by with_unfolding_all rfl) 77 (.tmp 0) (by with_unfolding_all rfl) (hvs (some ⟨g, 0, none⟩) 8 c s z) (by with_unfolding_all rfl) ?_; intro w1 hA1 hB1 hS1)
    | (with_reducible refine wpList_allocU (w := w1) (by with_unfolding_all rfl) 128 (by with_unfolding_all rfl) 8 Tryd.infoA8 ?_; intro w2 hA2 hB2 hS2)
    | (with_reducible refine wpList_allocU (w := w2) (by with_unfolding_all rfl) 128 (by with_unfolding_all rfl) 8 Tryd.infoA8 ?_; intro w3 hA3 hB3 hS3))
  have hz2 : w2.heap.size = w.heap.size + 1 + 1 := by omega
  have HW : Hid (RowV w3 w.heap.size (hvs (some ⟨g, 0, none⟩) 8 c s z) ∧ ArrU w3 (w.heap.size + 1) (List.replicate 8 0) ∧ ArrU w3 (w.heap.size + 1 + 1) (pre r 0) ∧ Below w.heap.size w w3) :=
    ⟨(hA1.below hB2 (by omega)).below hB3 (by omega), by rw [← hS1]; exact hA2.below hB3 (by omega), by rw [← hz2]; exact hA3, (hB1.trans (hB2.mono (by omega))).trans (hB3.mono (by omega))⟩
  clear hA1 hA2 hA3 hB1 hB2 hB3 hz2
  go_loopw [5] (fun i wr => ∃ k : Nat, i = .int .i64 (k : Int) ∧ k ≤ 8 ∧ RowV wr w.heap.size (hvs (some ⟨g, 0, none⟩) 8 c s z) ∧ ArrU wr (w.heap.size + 1) (List.replicate 8 0) ∧ ArrU wr (w.heap.size + 1 + 1) (pre r k) ∧ Below w.heap.size w wr)
    (fun i _ => 8 - (intOf i).toNat)
  case atStart => exact ⟨0, rfl, Nat.zero_le _, HW.out.1, HW.out.2.1, HW.out.2.2.1, HW.out.2.2.2⟩
  case round =>
    clear HW
    obtain ⟨k, rfl, hk, hV, hR, hT, hB⟩ := hrel
    have H8 : Hid (RowV wr w.heap.size (hvs (some ⟨g, 0, none⟩) 8 c s z) ∧ ArrU wr (w.heap.size + 1) (List.replicate 8 0) ∧ ArrU wr (w.heap.size + 1 + 1) (pre r k) ∧ Below w.heap.size w wr) := ⟨hV, hR, hT, hB⟩
    by_cases hlt : k < 8
    · as_aux_lemma =>
      have p0 := hV.cell (k := 0) rfl
      obtain ⟨g', hg', hc⟩ := (HI.out.below hB) (by intro e; have := congrArg List.length e; rw [ints_length] at this; simp at this)
      injection hg' with hg'
      injection hg' with hg'
      subst hg'
      have d := (hc k (by rw [ints_length]; exact hlt)).1
      rw [ints_get] at d
      have t0 := hT.cell (k := k) (by rw [pre_length r hk]; exact hlt)
      have tf := hT.frozen (k := k) (by rw [pre_length r hk]; exact hlt)
      obtain ⟨y0, hy0⟩ : ∃ y, (pre r k)[k]'(by rw [pre_length r hk]; exact hlt) = y := ⟨_, rfl⟩
      rw [hy0] at t0
      obtain ⟨x, hx⟩ : ∃ x, r.at k = x := ⟨_, rfl⟩
      rw [hx] at d
      have HS : Hid (True → pre r (k + 1) = (pre r k).set k x) := fun _ => by rw [pre_set r hlt, hx]
      have HLn : Hid (k < (pre r k).length) := by show _ < _; rw [pre_length r hk]; exact hlt
      have c1 := fun (w0 : World) => U_of_i64 (P := Tryd.prog) w0 2 127 x Tryd.underlying2 Tryd.underlying127
      obtain ⟨m, hm⟩ : ∃ m : Int, (x.toNat : Int) = m := ⟨_, rfl⟩
      rw [hm] at d c1
      have hcl : ∀ x : UInt32, (U x).cells = #[U x] := fun _ => rfl
      unfold Value.cells at hcl
      have H9 : Hid (RowV (wr.setCell ⟨w.heap.size + 1 + 1, k, none⟩ (U x)).drew w.heap.size (hvs (some ⟨g, 0, none⟩) 8 c s z) ∧ ArrU (wr.setCell ⟨w.heap.size + 1 + 1, k, none⟩ (U x)).drew (w.heap.size + 1) (List.replicate 8 0) ∧ ArrU (wr.setCell ⟨w.heap.size + 1 + 1, k, none⟩ (U x)).drew (w.heap.size + 1 + 1) (pre r (k + 1)) ∧ Below w.heap.size w (wr.setCell ⟨w.heap.size + 1 + 1, k, none⟩ (U x))) :=
        ⟨(H8.out.1.same fun j => ⟨World.cell?_setCell_other wr _ _ _ (by intro e; injection e with e _ _; omega), World.frozen?_setCell ..⟩).drew, H8.out.2.1.far (by omega), (H8.out.2.2.1.set (k := k) HLn.out (HS.out trivial)).drew, H8.out.2.2.2.setCell (by show w.heap.size ≤ w.heap.size + 1 + 1; omega) _⟩
      have lk : (k : Int) < 8 := by omega
      have l0 : (0 : Int) ≤ k := by omega
      clear hc hV hR hT hB hy0 hx hm H8 HI
      go_wp2
      go_roundw
      case rel => exact ⟨k + 1, by go_num, hlt, ⟨H9.out.1.rng, H9.out.1.ths⟩, ⟨H9.out.2.1.rng, H9.out.2.1.ths⟩, ⟨H9.out.2.2.1.rng, H9.out.2.2.1.ths⟩, H9.out.2.2.2⟩
      case measure => simp [intOf]; omega
    · as_aux_lemma =>
      obtain rfl : k = 8 := by omega
      have hT' : ArrU wr (w.heap.size + 1 + 1) r.list := hT
      clear hT H8
      go_wp2_with (first
        | (with_reducible refine wpList_loadU (w := wr) (by with_unfolding_all rfl) 128 (.tmp 3) (by with_unfolding_all rfl) (w.heap.size + 1 + 1) r.list (by with_unfolding_all rfl) hT' 8 127 Tryd.undA8 Tryd.sizeA8 (by with_unfolding_all rfl) ?_)
        | (with_reducible refine wpList_storeU (w := wr) (by with_unfolding_all rfl) 128 (.tmp 2) (.tmp 17) (by with_unfolding_all rfl) (w.heap.size + 1) (List.replicate 8 0) r.list (by with_unfolding_all rfl) (by with_unfolding_all rfl) hR (by rw [List.length_replicate]; exact Tryd.sizeA8) (by with_unfolding_all rfl) ?_; intro w5 hA5 hB5 _))
      refine bodyPost_ret (results_U (t := 128) rfl _ (w.heap.size + 1) _ rfl hA5 8 127 Tryd.undA8 Tryd.sizeA8 rfl) rfl ⟨rfl, ?_⟩
      exact hB.trans (hB5 _ (by omega))
end Go.Proofs.YtchfpiadfmnphaaDoor
