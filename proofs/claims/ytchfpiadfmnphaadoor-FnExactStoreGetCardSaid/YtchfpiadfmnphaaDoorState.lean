/- The program's stateOf. -/
import Derived.Test.YtchfpiadfmnphaaDoorWords
namespace Go.Proofs.YtchfpiadfmnphaaDoor
open Go.RowKit
set_option linter.unusedVariables false
attribute [local go_sem ↓] Go.wp_at_zero Go.wp_at_succ U_cells

theorem idx8 (r : R8) {k : Nat} (hk : k < 8) (w : World) : (Instr.index 128 (aggU r.list) (.int .i64 (k : Int))).run Tryd.prog w = .ok (U (r.at k)) w := by
  rcases (show k = 0 ∨ k = 1 ∨ k = 2 ∨ k = 3 ∨ k = 4 ∨ k = 5 ∨ k = 6 ∨ k = 7 by omega) with rfl | rfl | rfl | rfl | rfl | rfl | rfl | rfl <;> kernel_rfl
theorem is_take (r : R8) {k : Nat} (hk : k < 8) : r.list.take (k + 1) = r.list.take k ++ [r.at k] := by
  have h := list_get r hk
  obtain ⟨h1, h2⟩ := List.getElem?_eq_some_iff.1 h
  rw [List.take_succ_eq_append_getElem h1, h2]
theorem wpList_append_i64 {P : Program} {wr : World} {ops : Array Oper} {rest : List Oper} {o : Oper} {a : Act} {Q : Exit → Act → World → Prop} (hgd : o.guard = none) (s x : Operand) (t : TypeId)
    (ho : o.op = .call { callee := .builtin .append, args := #[s, x], argTypes := #[t, t] })
    (base : Nat) (e : TypeId) (ht : P.underlying t = some (.slice e)) (hinfo : (P.info? e).map (fun i => (i.zero, i.size, i.bytes)) = some (some (.int .i64 0), 1, 8))
    (v : Value) (l : List UInt32) (n : Nat) (hs : a.eval s = v) (hown : wr.ownsRow base e 1 v n (is l)) (y : UInt32) (z : Int) (hz : (y.toNat : Int) = z) (c : Nat) (hx : a.eval x = .slice (some ⟨wr.heap.size, 0, none⟩) 1 c) (hn : n ≤ 1000000000) (hbase : base ≤ wr.heap.size)
    (h : ∀ g cap w', w'.ownsRow base e 1 (.slice (some ⟨g, 0, none⟩) (n + 1) cap) (n + 1) (is (l ++ [y])) → Below base wr w' → wpList P ops Q rest (a.put o.dst (.slice (some ⟨g, 0, none⟩) (n + 1) cap)) w') :
    wpList P ops Q (o :: rest) a (wr.alloc (.cells #[.int .i64 z] e)) := by
  obtain ⟨i0, hi, hz0, hz1, hz2⟩ := info_parts hinfo
  subst hz
  refine wpList_append_lies (wr.alloc (.cells #[.int .i64 (y.toNat : Int)] e)) hgd s x t ho base e i0 (.int .i64 0) 1 8 ht hi hz0 hz1 hz2 rfl (by decide) v n (is l) hs (hown.alloc _) ⟨wr.heap.size, 0, none⟩ 1 c (is [y]) hx rfl
    (World.news_of_block (heap_alloc_new wr _)) (by intro u hu; unfold is at hu; obtain ⟨b, _, rfl⟩ := List.mem_map.1 hu; rfl) (by omega) (by unfold maxLen; omega) (by omega) (by rw [size_alloc]; omega) _ rfl ?_
  intro g cap w' h1 h2 _ _
  refine h g cap w' (by simpa [is] using h1) ?_
  exact ((Below.refl base wr).alloc hbase _).grown h2 (by rw [size_alloc]; omega) (fun k hk => (hown.lt k hk).1)
theorem ints_of {w : World} {base e g cap : Nat} {r : R8} (h : w.ownsRow base e 1 (.slice (some ⟨g, 0, none⟩) 8 cap) 8 (is r.list)) : IAt w (some ⟨g, 0, none⟩) r.ints := fun _ => by
  refine ⟨g, rfl, fun k hk => ?_⟩
  have hk8 : k < 8 := hk
  refine ⟨?_, h.frozenAt k⟩
  rw [h.cellAt k (by omega), ints_get, is, List.getElem?_map, list_get r hk8]
  rfl

set_option maxRecDepth 100000 in
set_option maxHeartbeats 1000000 in
theorem stateOf_any (r : R8) (w : World) :
    Calls Tryd.prog 91 #[aggU r.list] w fun e w' => ∃ g c, e = .returned (.slice (some ⟨g, 0, none⟩) 8 c) ∧ w.heap.size ≤ g ∧ g < w'.heap.size ∧ IAt w' (some ⟨g, 0, none⟩) r.ints ∧ Below w.heap.size w w' := by
  obtain ⟨i0, hi, hz0, hz1, hz2⟩ := info_parts Tryd.infoI64
  go_enter Tryd.func91, Tryd.ntmps91
  go_wp2_with (first
    | (with_reducible refine wpList_boxU (w := w) (by with_unfolding_all rfl) 128 (.tmp 0) (by with_unfolding_all rfl) r.list (by with_unfolding_all rfl) ?_; intro w1 hA1 hB1 hS1)
    | (at_make; refine wpList_make_own w1 rfl _ _ 75 rfl w1.heap.size 2 i0 (.int .i64 0) 1 Tryd.underlying75 hi hz0 hz1 _ _ _ 8 rfl rfl (by omega) (by rw [hz2]; omega) (by unfold maxLen; omega) (Nat.le_refl _) ?_; intro w2 hO2 hG2; have hB2 : Below w1.heap.size w1 w2 := (Below.refl _ _).grown hG2 (Nat.le_refl _) (fun _ h => by cases h); have hA2 := hA1.below hB2 (by omega))
    | (with_reducible refine wpList_loadU (w := w2) (by with_unfolding_all rfl) 128 (.tmp 1) (by with_unfolding_all rfl) w.heap.size r.list (by with_unfolding_all rfl) hA2 8 127 Tryd.undA8 Tryd.sizeA8 (by with_unfolding_all rfl) ?_))
  have HO : Hid (w2.ownsRow (w.heap.size + 1) 2 1 (.slice (some ⟨w.heap.size + 1, 0, none⟩) 0 8) 0 (is (r.list.take 0))) := by rw [← hS1]; exact hO2
  have HB : Hid (Below w.heap.size w w2) := hB1.trans (hB2.mono (by omega))
  have HB2 : Hid (w.heap.size + 1 ≤ w2.heap.size) := by have := hB2.size; show _ ≤ _; omega
  clear hO2 hG2 hA2 hA1 hB1 hB2 hi hz0 hz1 hz2
  go_loopw [3, 8] (fun v i wr => ∃ k : Nat, i = .int .i64 (k : Int) ∧ k ≤ 8 ∧ wr.ownsRow (w.heap.size + 1) 2 1 v k (is (r.list.take k)) ∧ Below (w.heap.size + 1) w2 wr)
    (fun _ i _ => 8 - (intOf i).toNat)
  case atStart => exact ⟨0, rfl, Nat.zero_le _, HO.out, Below.refl _ _⟩
  case round =>
    clear HO
    obtain ⟨k, rfl, hk, hO, hBr⟩ := hrel
    have hbz := HB2.out
    have hzr := hBr.size
    by_cases hlt : k < 8
    · as_aux_lemma =>
      have hix := idx8 r hlt
      have HT : Hid (True → r.list.take (k + 1) = r.list.take k ++ [r.at k]) := fun _ => is_take r hlt
      obtain ⟨x, hx⟩ : ∃ x, r.at k = x := ⟨_, rfl⟩
      rw [hx] at hix HT
      have c2 := fun (w0 : World) => U_to_i64 (P := Tryd.prog) w0 127 2 x Tryd.underlying127 Tryd.underlying2
      obtain ⟨z, hz⟩ : ∃ z : Int, (x.toNat : Int) = z := ⟨_, rfl⟩
      rw [hz] at c2
      have HZ : Hid ((x.toNat : Int) = z) := hz
      have lk : (k : Int) < 8 := by omega
      have l0 : (0 : Int) ≤ k := by omega
      clear hx hz
      generalize aggU r.list = ag at *
      go_wp2_with (first
        | (at_builtin; refine wpList_append_i64 rfl _ _ 75 rfl (w.heap.size + 1) 2 Tryd.underlying75 Tryd.infoI64 u3 (r.list.take k) k rfl hO x z HZ.out 1 rfl (by omega) (by omega) ?_; intro g2 cap2 w9 hO9 hB9))
      go_roundw
      case rel => exact ⟨k + 1, by go_num, hlt, by rw [HT.out trivial]; exact hO9, hBr.trans hB9⟩
      case measure => simp [intOf]; omega
    · as_aux_lemma =>
      obtain rfl : k = 8 := by omega
      obtain ⟨g2, cap2, rfl, hg2, hgl⟩ : ∃ g2 cap2, u3 = .slice (some ⟨g2, 0, none⟩) 8 cap2 ∧ w.heap.size + 1 ≤ g2 ∧ g2 < wr.heap.size := by
        rcases hO.2 with ⟨_, h0⟩ | ⟨g2, cap, cur, hv, hbg, _⟩
        · omega
        · refine ⟨g2, cap, hv, hbg, ?_⟩
          subst hv
          exact (hO.lt g2 rfl).2
      have HF : Hid (IAt wr (some ⟨g2, 0, none⟩) r.ints) := ints_of (base := w.heap.size + 1) (e := 2) hO
      clear hO
      go_wp2
      go_ret
      exact ⟨g2, cap2, rfl, by omega, hgl, HF.out, HB.out.trans (hBr.mono (by omega))⟩
end Go.Proofs.YtchfpiadfmnphaaDoor
