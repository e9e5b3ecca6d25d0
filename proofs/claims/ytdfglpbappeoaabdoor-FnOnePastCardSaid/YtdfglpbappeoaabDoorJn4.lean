/- The program's wordsOf and stateOf. The program's stateOf. -/
import Derived.Test.YtdfglpbappeoaabDoorJn11
import Derived.Test.YtdfglpbappeoaabDoorHashB
namespace Go.Proofs.YtdfglpbappeoaabDoor
open Go.RowKit
set_option linter.unusedVariables false
attribute [local go_sem] U_xor U_or U_and U_add U_shr U_shl U_not U_store U_one'
attribute [local go_sem ↓] Go.wp_at_zero Go.wp_at_succ U_cells

def R8.ints (r : R8) : List Int := r.list.map fun x => (x.toNat : Int)
theorem ints_length (r : R8) : r.ints.length = 8 := rfl
theorem ints_get (r : R8) {k : Nat} (hk : k < r.ints.length) : r.ints[k] = ((r.at k).toNat : Int) := by
  have hk8 : k < 8 := hk
  have h := list_get r hk8
  have : r.ints[k]? = some ((r.at k).toNat : Int) := by rw [R8.ints, List.getElem?_map, h]; rfl
  rw [List.getElem?_eq_getElem hk] at this
  injection this
def pre (r : R8) (k : Nat) : List UInt32 := r.list.take k ++ List.replicate (8 - k) 0
theorem pre_set (r : R8) {k : Nat} (hk : k < 8) : pre r (k + 1) = (pre r k).set k (r.at k) := by
  match k, hk with
  | 0, _ => rfl
  | 1, _ => rfl
  | 2, _ => rfl
  | 3, _ => rfl
  | 4, _ => rfl
  | 5, _ => rfl
  | 6, _ => rfl
  | 7, _ => rfl
theorem pre_length (r : R8) {k : Nat} (hk : k ≤ 8) : (pre r k).length = 8 := by
  simp [pre, R8.list]; omega

set_option maxRecDepth 100000 in
set_option maxHeartbeats 1000000 in
theorem wordsOf_any (g c : Nat) (r : R8) (s : ByteArray) (z : Int) (w : World) (h : IAt w (some ⟨g, 0, none⟩) r.ints) :
    Calls Tryd.prog 93 #[HVal (some ⟨g, 0, none⟩) 8 c s z] w fun e w' => e = .returned (aggU r.list) ∧ Below w.heap.size w w' := by
  have HI : Hid (IAt w (some ⟨g, 0, none⟩) r.ints) := h
  clear h
  go_enter Tryd.func93, Tryd.ntmps93
  go_wp2_with (first
    | (with_reducible refine wpList_boxV (w := w) (by with_unfolding_all rfl) 79 (.tmp 0) (by with_unfolding_all rfl) (hvs (some ⟨g, 0, none⟩) 8 c s z) (by with_unfolding_all rfl) ?_; intro w1 hA1 hB1 hS1)
    | (with_reducible refine wpList_allocU (w := w1) (by with_unfolding_all rfl) 128 (by with_unfolding_all rfl) 8 Tryd.infoA8 ?_; intro w2 hA2 hB2 hS2)
    | (with_reducible refine wpList_allocU (w := w2) (by with_unfolding_all rfl) 128 (by with_unfolding_all rfl) 8 Tryd.infoA8 ?_; intro w3 hA3 hB3 hS3))
  have hz2 : w2.heap.size = w.heap.size + 1 + 1 := by omega
  have HW : Hid (RowV w3 w.heap.size (hvs (some ⟨g, 0, none⟩) 8 c s z) ∧ ArrU w3 (w.heap.size + 1) (List.replicate 8 0) ∧ ArrU w3 (w.heap.size + 1 + 1) (pre r 0) ∧ Below w.heap.size w w3) :=
    ⟨(hA1.below hB2 (by omega)).below hB3 (by omega), by rw [← hS1]; exact hA2.below hB3 (by omega), by rw [← hz2]; exact hA3, (hB1.trans (hB2.mono (by omega))).trans (hB3.mono (by omega))⟩
  clear hA1 hA2 hA3 hB1 hB2 hB3 hz2
  go_loopw [5] (fun i wr => ∃ k : Nat, i = .int .i64 (k : Int) ∧ k ≤ 8 ∧ RowV wr w.heap.size (hvs (some ⟨g, 0, none⟩) 8 c s z) ∧ ArrU wr (w.heap.size + 1) (List.replicate 8 0) ∧ ArrU wr (w.heap.size + 1 + 1) (pre r k) ∧ Below w.heap.size w wr)
    (fun i _ => 8 - (intOf i).toNat)
  case atStart => exact ⟨0, rfl, Nat.zero_le _, HW.out.1, HW.out.2.1, HW.out.2.2.1, HW.out.2.2.2⟩
  case round =>
    clear HW
    obtain ⟨k, rfl, hk, hV, hR, hT, hB⟩ := hrel
    have H8 : Hid (RowV wr w.heap.size (hvs (some ⟨g, 0, none⟩) 8 c s z) ∧ ArrU wr (w.heap.size + 1) (List.replicate 8 0) ∧ ArrU wr (w.heap.size + 1 + 1) (pre r k) ∧ Below w.heap.size w wr) := ⟨hV, hR, hT, hB⟩
    by_cases hlt : k < 8
    · as_aux_lemma =>
      have p0 := hV.cell (k := 0) rfl
      obtain ⟨g', hg', hc⟩ := (HI.out.below hB) (by intro e; have := congrArg List.length e; rw [ints_length] at this; simp at this)
      injection hg' with hg'
      injection hg' with hg'
      subst hg'
      have d := (hc k (by rw [ints_length]; exact hlt)).1
      rw [ints_get] at d
      have t0 := hT.cell (k := k) (by rw [pre_length r hk]; exact hlt)
      have tf := hT.frozen (k := k) (by rw [pre_length r hk]; exact hlt)
      obtain ⟨y0, hy0⟩ : ∃ y, (pre r k)[k]'(by rw [pre_length r hk]; exact hlt) = y := ⟨_, rfl⟩
      rw [hy0] at t0
      obtain ⟨x, hx⟩ : ∃ x, r.at k = x := ⟨_, rfl⟩
      rw [hx] at d
      have HS : Hid (True → pre r (k + 1) = (pre r k).set k x) := fun _ => by rw [pre_set r hlt, hx]
      have HLn : Hid (k < (pre r k).length) := by show _ < _; rw [pre_length r hk]; exact hlt
      have c1 := fun (w0 : World) => U_of_i64 (P := Tryd.prog) w0 2 127 x Tryd.underlying2 Tryd.underlying127
      obtain ⟨m, hm⟩ : ∃ m : Int, (x.toNat : Int) = m := ⟨_, rfl⟩
      rw [hm] at d c1
      have hcl : ∀ x : UInt32, (U x).cells = #[U x] := fun _ => rfl
      unfold Value.cells at hcl
      have H9 : Hid (RowV (wr.setCell ⟨w.heap.size + 1 + 1, k, none⟩ (U x)).drew w.heap.size (hvs (some ⟨g, 0, none⟩) 8 c s z) ∧ ArrU (wr.setCell ⟨w.heap.size + 1 + 1, k, none⟩ (U x)).drew (w.heap.size + 1) (List.replicate 8 0) ∧ ArrU (wr.setCell ⟨w.heap.size + 1 + 1, k, none⟩ (U x)).drew (w.heap.size + 1 + 1) (pre r (k + 1)) ∧ Below w.heap.size w (wr.setCell ⟨w.heap.size + 1 + 1, k, none⟩ (U x))) :=
        ⟨(H8.out.1.same fun j => ⟨World.cell?_setCell_other wr _ _ _ (by intro e; injection e with e _ _; omega), World.frozen?_setCell ..⟩).drew, H8.out.2.1.far (by omega), (H8.out.2.2.1.set (k := k) HLn.out (HS.out trivial)).drew, H8.out.2.2.2.setCell (by show w.heap.size ≤ w.heap.size + 1 + 1; omega) _⟩
      have lk : (k : Int) < 8 := by omega
      have l0 : (0 : Int) ≤ k := by omega
      clear hc hV hR hT hB hy0 hx hm H8 HI
      go_wp2
      go_roundw
      case rel => exact ⟨k + 1, by go_num, hlt, ⟨H9.out.1.rng, H9.out.1.ths⟩, ⟨H9.out.2.1.rng, H9.out.2.1.ths⟩, ⟨H9.out.2.2.1.rng, H9.out.2.2.1.ths⟩, H9.out.2.2.2⟩
      case measure => simp [intOf]; omega
    · as_aux_lemma =>
      obtain rfl : k = 8 := by omega
      have hT' : ArrU wr (w.heap.size + 1 + 1) r.list := hT
      clear hT H8
      go_wp2_with (first
        | (with_reducible refine wpList_loadU (w := wr) (by with_unfolding_all rfl) 128 (.tmp 3) (by with_unfolding_all rfl) (w.heap.size + 1 + 1) r.list (by with_unfolding_all rfl) hT' 8 127 Tryd.undA8 Tryd.sizeA8 (by with_unfolding_all rfl) ?_)
        | (with_reducible refine wpList_storeU (w := wr) (by with_unfolding_all rfl) 128 (.tmp 2) (.tmp 17) (by with_unfolding_all rfl) (w.heap.size + 1) (List.replicate 8 0) r.list (by with_unfolding_all rfl) (by with_unfolding_all rfl) hR (by rw [List.length_replicate]; exact Tryd.sizeA8) (by with_unfolding_all rfl) ?_; intro w5 hA5 hB5 _))
      refine bodyPost_ret (results_U (t := 128) rfl _ (w.heap.size + 1) _ rfl hA5 8 127 Tryd.undA8 Tryd.sizeA8 rfl) rfl ⟨rfl, ?_⟩
      exact hB.trans (hB5 _ (by omega))
end Go.Proofs.YtdfglpbappeoaabDoor
namespace Go.Proofs.YtdfglpbappeoaabDoor
open Go.RowKit
set_option linter.unusedVariables false
attribute [local go_sem ↓] Go.wp_at_zero Go.wp_at_succ U_cells

theorem idx8 (r : R8) {k : Nat} (hk : k < 8) (w : World) : (Instr.index 128 (aggU r.list) (.int .i64 (k : Int))).run Tryd.prog w = .ok (U (r.at k)) w := by
  rcases (show k = 0 ∨ k = 1 ∨ k = 2 ∨ k = 3 ∨ k = 4 ∨ k = 5 ∨ k = 6 ∨ k = 7 by omega) with rfl | rfl | rfl | rfl | rfl | rfl | rfl | rfl <;> kernel_rfl
theorem is_take (r : R8) {k : Nat} (hk : k < 8) : r.list.take (k + 1) = r.list.take k ++ [r.at k] := by
  have h := list_get r hk
  obtain ⟨h1, h2⟩ := List.getElem?_eq_some_iff.1 h
  rw [List.take_succ_eq_append_getElem h1, h2]
theorem wpList_append_i64 {P : Program} {wr : World} {ops : Array Oper} {rest : List Oper} {o : Oper} {a : Act} {Q : Exit → Act → World → Prop} (hgd : o.guard = none) (s x : Operand) (t : TypeId)
    (ho : o.op = .call { callee := .builtin .append, args := #[s, x], argTypes := #[t, t] })
    (base : Nat) (e : TypeId) (ht : P.underlying t = some (.slice e)) (hinfo : (P.info? e).map (fun i => (i.zero, i.size, i.bytes)) = some (some (.int .i64 0), 1, 8))
    (v : Value) (l : List UInt32) (n : Nat) (hs : a.eval s = v) (hown : wr.ownsRow base e 1 v n (is l)) (y : UInt32) (z : Int) (hz : (y.toNat : Int) = z) (c : Nat) (hx : a.eval x = .slice (some ⟨wr.heap.size, 0, none⟩) 1 c) (hn : n ≤ 1000000000) (hbase : base ≤ wr.heap.size)
    (h : ∀ g cap w', w'.ownsRow base e 1 (.slice (some ⟨g, 0, none⟩) (n + 1) cap) (n + 1) (is (l ++ [y])) → Below base wr w' → wpList P ops Q rest (a.put o.dst (.slice (some ⟨g, 0, none⟩) (n + 1) cap)) w') :
    wpList P ops Q (o :: rest) a (wr.alloc (.cells #[.int .i64 z] e)) := by
  obtain ⟨i0, hi, hz0, hz1, hz2⟩ := info_parts hinfo
  subst hz
  refine wpList_append_lies (wr.alloc (.cells #[.int .i64 (y.toNat : Int)] e)) hgd s x t ho base e i0 (.int .i64 0) 1 8 ht hi hz0 hz1 hz2 rfl (by decide) v n (is l) hs (hown.alloc _) ⟨wr.heap.size, 0, none⟩ 1 c (is [y]) hx rfl
    (World.news_of_block (heap_alloc_new wr _)) (by intro u hu; unfold is at hu; obtain ⟨b, _, rfl⟩ := List.mem_map.1 hu; rfl) (by omega) (by unfold maxLen; omega) (by omega) (by rw [size_alloc]; omega) _ rfl ?_
  intro g cap w' h1 h2 _ _
  refine h g cap w' (by simpa [is] using h1) ?_
  exact ((Below.refl base wr).alloc hbase _).grown h2 (by rw [size_alloc]; omega) (fun k hk => (hown.lt k hk).1)
theorem ints_of {w : World} {base e g cap : Nat} {r : R8} (h : w.ownsRow base e 1 (.slice (some ⟨g, 0, none⟩) 8 cap) 8 (is r.list)) : IAt w (some ⟨g, 0, none⟩) r.ints := fun _ => by
  refine ⟨g, rfl, fun k hk => ?_⟩
  have hk8 : k < 8 := hk
  refine ⟨?_, h.frozenAt k⟩
  rw [h.cellAt k (by omega), ints_get, is, List.getElem?_map, list_get r hk8]
  rfl

set_option maxRecDepth 100000 in
set_option maxHeartbeats 1000000 in
theorem stateOf_any (r : R8) (w : World) :
    Calls Tryd.prog 96 #[aggU r.list] w fun e w' => ∃ g c, e = .returned (.slice (some ⟨g, 0, none⟩) 8 c) ∧ w.heap.size ≤ g ∧ g < w'.heap.size ∧ IAt w' (some ⟨g, 0, none⟩) r.ints ∧ Below w.heap.size w w' := by
  obtain ⟨i0, hi, hz0, hz1, hz2⟩ := info_parts Tryd.infoI64
  go_enter Tryd.func96, Tryd.ntmps96
  go_wp2_with (first
    | (with_reducible refine wpList_boxU (w := w) (by with_unfolding_all rfl) 128 (.tmp 0) (by with_unfolding_all rfl) r.list (by with_unfolding_all rfl) ?_; intro w1 hA1 hB1 hS1)
    | (at_make; refine wpList_make_own w1 rfl _ _ 72 rfl w1.heap.size 2 i0 (.int .i64 0) 1 Tryd.underlying72 hi hz0 hz1 _ _ _ 8 rfl rfl (by omega) (by rw [hz2]; omega) (by unfold maxLen; omega) (Nat.le_refl _) ?_; intro w2 hO2 hG2; have hB2 : Below w1.heap.size w1 w2 := (Below.refl _ _).grown hG2 (Nat.le_refl _) (fun _ h => by cases h); have hA2 := hA1.below hB2 (by omega))
    | (with_reducible refine wpList_loadU (w := w2) (by with_unfolding_all rfl) 128 (.tmp 1) (by with_unfolding_all rfl) w.heap.size r.list (by with_unfolding_all rfl) hA2 8 127 Tryd.undA8 Tryd.sizeA8 (by with_unfolding_all rfl) ?_))
  have HO : Hid (w2.ownsRow (w.heap.size + 1) 2 1 (.slice (some ⟨w.heap.size + 1, 0, none⟩) 0 8) 0 (is (r.list.take 0))) := by rw [← hS1]; exact hO2
  have HB : Hid (Below w.heap.size w w2) := hB1.trans (hB2.mono (by omega))
  have HB2 : Hid (w.heap.size + 1 ≤ w2.heap.size) := by have := hB2.size; show _ ≤ _; omega
  clear hO2 hG2 hA2 hA1 hB1 hB2 hi hz0 hz1 hz2
  go_loopw [3, 8] (fun v i wr => ∃ k : Nat, i = .int .i64 (k : Int) ∧ k ≤ 8 ∧ wr.ownsRow (w.heap.size + 1) 2 1 v k (is (r.list.take k)) ∧ Below (w.heap.size + 1) w2 wr)
    (fun _ i _ => 8 - (intOf i).toNat)
  case atStart => exact ⟨0, rfl, Nat.zero_le _, HO.out, Below.refl _ _⟩
  case round =>
    clear HO
    obtain ⟨k, rfl, hk, hO, hBr⟩ := hrel
    have hbz := HB2.out
    have hzr := hBr.size
    by_cases hlt : k < 8
    · as_aux_lemma =>
      have hix := idx8 r hlt
      have HT : Hid (True → r.list.take (k + 1) = r.list.take k ++ [r.at k]) := fun _ => is_take r hlt
      obtain ⟨x, hx⟩ : ∃ x, r.at k = x := ⟨_, rfl⟩
      rw [hx] at hix HT
      have c2 := fun (w0 : World) => U_to_i64 (P := Tryd.prog) w0 127 2 x Tryd.underlying127 Tryd.underlying2
      obtain ⟨z, hz⟩ : ∃ z : Int, (x.toNat : Int) = z := ⟨_, rfl⟩
      rw [hz] at c2
      have HZ : Hid ((x.toNat : Int) = z) := hz
      have lk : (k : Int) < 8 := by omega
      have l0 : (0 : Int) ≤ k := by omega
      clear hx hz
      generalize aggU r.list = ag at *
      go_wp2_with (first
        | (at_builtin; refine wpList_append_i64 rfl _ _ 72 rfl (w.heap.size + 1) 2 Tryd.underlying72 Tryd.infoI64 u3 (r.list.take k) k rfl hO x z HZ.out 1 rfl (by omega) (by omega) ?_; intro g2 cap2 w9 hO9 hB9))
      go_roundw
      case rel => exact ⟨k + 1, by go_num, hlt, by rw [HT.out trivial]; exact hO9, hBr.trans hB9⟩
      case measure => simp [intOf]; omega
    · as_aux_lemma =>
      obtain rfl : k = 8 := by omega
      obtain ⟨g2, cap2, rfl, hg2, hgl⟩ : ∃ g2 cap2, u3 = .slice (some ⟨g2, 0, none⟩) 8 cap2 ∧ w.heap.size + 1 ≤ g2 ∧ g2 < wr.heap.size := by
        rcases hO.2 with ⟨_, h0⟩ | ⟨g2, cap, cur, hv, hbg, _⟩
        · omega
        · refine ⟨g2, cap, hv, hbg, ?_⟩
          subst hv
          exact (hO.lt g2 rfl).2
      have HF : Hid (IAt wr (some ⟨g2, 0, none⟩) r.ints) := ints_of (base := w.heap.size + 1) (e := 2) hO
      clear hO
      go_wp2
      go_ret
      exact ⟨g2, cap2, rfl, by omega, hgl, HF.out, HB.out.trans (hBr.mono (by omega))⟩
end Go.Proofs.YtdfglpbappeoaabDoor
