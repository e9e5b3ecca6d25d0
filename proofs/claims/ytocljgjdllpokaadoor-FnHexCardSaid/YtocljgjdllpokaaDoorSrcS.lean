/- The source's method spoil: it tells a text that is at most one byte longer, and changes nothing but the source's struct and memory of its own. -/
import Derived.Test.YtocljgjdllpokaaDoorSrcM
import Derived.WalkSpells
namespace Go.Proofs.YtocljgjdllpokaaDoor
open Go.RowKit
set_option linter.unusedVariables false
attribute [local go_sem ↓] Go.wp_at_zero Go.wp_at_succ

theorem conv_one {P : Program} (W : World) (src e dst : TypeId) (z : Int) (hs : P.underlying src = some (.slice e)) (he : P.underlying e = some (.int .u8)) (hd : P.underlying dst = some .string) :
    (convert src dst (.slice (some ⟨W.heap.size, 0, none⟩) 1 1)).run P (W.alloc (.cells #[.int .u8 z] e)) = .ok (.string (strOfNums [z])) (W.alloc (.cells #[.int .u8 z] e)) := by
  refine run_convert_bytes_arg _ src e hs he W.heap.size 0 1 1 [z] rfl ?_ dst hd
  intro i hi
  obtain rfl : i = 0 := by omega
  simp
theorem run_spoil {P : Program} (t : TypeId) (i : Nat) (h : P.underlying t = some .string) (hi : i < 17) :
    ∃ z : Int, ∀ w, (Instr.index t (.string ⟨#[32, 10, 48, 97, 45, 110, 44, 58, 93, 255, 40, 120, 126, 49, 128, 225, 59]⟩) (.int .i64 (i : Int))).run P w = .ok (.int .u8 z) w := by
  have hsz : (⟨#[32, 10, 48, 97, 45, 110, 44, 58, 93, 255, 40, 120, 126, 49, 128, 225, 59]⟩ : ByteArray).size = 17 := rfl
  refine ⟨((⟨#[32, 10, 48, 97, 45, 110, 44, 58, 93, 255, 40, 120, 126, 49, 128, 225, 59]⟩ : ByteArray)[(i : Int).toNat]'(by rw [hsz]; omega)).toNat, fun w => ?_⟩
  rw [run_index_string (P := P) w t _ .i64 i h, dif_pos ⟨by omega, by rw [hsz]; omega⟩]

set_option maxRecDepth 100000 in
set_option maxHeartbeats 2000000 in
theorem spoil_any (g len cap : Nat) (a : Option Addr) (x : ByteArray) (w : World) (h : SrcAt w g a len cap) (hx : x.size ≤ 1000000) :
    Calls Tryd.prog 36 #[.pointer (some ⟨g, 0, none⟩), .string x] w fun e w' => ∃ y : ByteArray, e = .returned (.string y) ∧ y.size ≤ x.size + 1 ∧ SrcAt w' g a len cap ∧ w.grownBy w' (some g) := by
  have HN : Hid (∀ (most : Int) (w1 : World), SrcAt w1 g a len cap → 0 < most → most ≤ 1099511627776 → Calls Tryd.prog 32 #[.pointer (some ⟨g, 0, none⟩), .int .i64 most] w1 fun e w' => ∃ v : Int, e = .returned (.int .i64 v) ∧ 0 ≤ v ∧ v < most ∧ SrcAt w' g a len cap ∧ w1.grownBy w' (some g)) := fun most w1 h1 h2 h3 => n_any g len cap a most w1 h1 h2 h3
  have HO : Hid (∀ (most : Int) (w1 : World), SrcAt w1 g a len cap → 0 < most → most ≤ 1099511627776 → Calls Tryd.prog 31 #[.pointer (some ⟨g, 0, none⟩), .int .i64 most] w1 fun e w' => ∃ b : Bool, Hid (e = .returned (.bool b) ∧ SrcAt w' g a len cap ∧ w1.grownBy w' (some g))) := fun most w1 h1 h2 h3 => one_any g len cap a most w1 h1 h2 h3
  have HS : Hid (SrcAt w g a len cap) := h
  clear h
  go_enter Tryd.func36, Tryd.ntmps36
  go_wp2_with fail
  refine (HN.out _ _ HS.out (by omega) (by omega)).mono ?_
  rintro e w1 ⟨v, rfl, hv0, hv1, h1, h2⟩
  obtain ⟨k, rfl⟩ := Int.eq_ofNat_of_zero_le hv0
  have hk : k ≤ x.size := by omega
  have S1 : Hid (SrcAt w1 g a len cap) := h1
  have G1 : Hid (w.grownBy w1 (some g)) := h2
  clear h1 h2 HS hv0 hv1
  go_wp2_with fail
  refine (HN.out 17 _ S1.out (by omega) (by omega)).mono ?_
  rintro e w2 ⟨v, rfl, hv0, hv1, h1, h2⟩
  obtain ⟨j, rfl⟩ := Int.eq_ofNat_of_zero_le hv0
  obtain ⟨z, hix⟩ := run_spoil (P := Tryd.prog) 9 j Tryd.underlying9 (by omega)
  have hcv := conv_one (P := Tryd.prog) w2 22 5 9 z Tryd.underlying22 Tryd.underlying5 Tryd.underlying9
  have S2 : Hid (SrcAt (w2.alloc (.cells #[.int .u8 z] 5)) g a len cap) := h1.below ((Below.refl _ _).alloc (Nat.le_refl _) _) h1.room
  have G2 : Hid (w.grownBy (w2.alloc (.cells #[.int .u8 z] 5)) (some g)) := grownBy_trans G1.out (grownBy_trans h2 (grownBy_below (World.grownBy.refl _ _) ((Below.refl _ _).alloc (Nat.le_refl _) _)))
  obtain ⟨y, hy⟩ : ∃ y : ByteArray, strOfNums [z] = y := ⟨_, rfl⟩
  have hys : y.size ≤ 1 := by rw [← hy, strOfNums_size]; simp
  rw [hy] at hcv
  obtain ⟨w3, hw3⟩ : ∃ w3 : World, w2.alloc (.cells #[.int .u8 z] 5) = w3 := ⟨_, rfl⟩
  rw [hw3] at S2 G2
  have HW : Hid (w2.alloc (.cells #[.int .u8 z] 5) = w3) := hw3
  clear h1 h2 hv0 hv1 S1 G1 hy hw3 HN
  obtain ⟨x1, hx1⟩ : ∃ x1, x.extract 0 k = x1 := ⟨_, rfl⟩
  obtain ⟨x2, hx2⟩ : ∃ x2, x.extract k x.size = x2 := ⟨_, rfl⟩
  obtain ⟨x3, hx3⟩ : ∃ x3, x.extract (k + 1) x.size = x3 := ⟨_, rfl⟩
  have hz1 : x1.size = k := by rw [← hx1, ByteArray.size_extract]; omega
  have hz2 : x2.size = x.size - k := by rw [← hx2, ByteArray.size_extract]; omega
  have hz3 : x3.size = x.size - (k + 1) := by rw [← hx3, ByteArray.size_extract]; omega
  have hs1 : ∀ w0 : World, (Instr.slice 9 (.string x) none (some (.int .i64 (k : Int))) none).run Tryd.prog w0 = .ok (.string x1) w0 := fun w0 => by
    rw [run_slice_string_h (P := Tryd.prog) w0 9 x Tryd.underlying9 .i64 k (by omega) (by omega), ← hx1]; rfl
  have hs2 : ∀ w0 : World, (Instr.slice 9 (.string x) (some (.int .i64 (k : Int))) none none).run Tryd.prog w0 = .ok (.string x2) w0 := fun w0 => by
    rw [run_slice_string_l (P := Tryd.prog) w0 9 x Tryd.underlying9 .i64 k (by omega) (by omega), ← hx2]; rfl
  have HS3 : Hid (k < x.size → ∀ w0 : World, (Instr.slice 9 (.string x) (some (.int .i64 ((k : Int) + 1))) none none).run Tryd.prog w0 = .ok (.string x3) w0) := fun hk w0 => by
    rw [run_slice_string_l (P := Tryd.prog) w0 9 x Tryd.underlying9 .i64 _ (by omega) (by omega), ← hx3]; rfl
  have ew : IntKind.i64.wrap ((k : Int) + 1) = (k : Int) + 1 := by simp [IntKind.wrap, IntKind.signed, IntKind.bits]; omega
  have hn1 : ¬ 9223372036854775807 < x1.size + y.size := by omega
  have hn2 : ¬ 9223372036854775807 < x1.size + y.size + x2.size := by omega
  have hn3 : ¬ 9223372036854775807 < x1.size + x3.size := by omega
  have hn4 : ¬ 9223372036854775807 < x1.size + y.size + x3.size := by omega
  have HZ : Hid ((x1 ++ y ++ x2).size ≤ x.size + 1 ∧ (k < x.size → (x1 ++ x3).size ≤ x.size + 1 ∧ (x1 ++ y ++ x3).size ≤ x.size + 1)) := by
    refine ⟨by simp only [ByteArray.size_append]; omega, fun h => ⟨by simp only [ByteArray.size_append]; omega, by simp only [ByteArray.size_append]; omega⟩⟩
  clear hx1 hx2 hx3 hz1 hz2 hz3
  by_cases hend : x.size ≤ k
  · have hb : ((k : Int) == (x.size : Int)) = true := beq_iff_eq.2 (by omega)
    clear HO HS3
    go_wp2
    rw [HW.out]
    go_region
    all_goals go_wp2
    all_goals go_ret
    all_goals exact ⟨_, rfl, HZ.out.1, S2.out.drew, grownBy_drew G2.out⟩
  · have hb : ((k : Int) == (x.size : Int)) = false := beq_eq_false_iff_ne.2 (by omega)
    have hs3 := HS3.out (by omega)
    clear HS3
    go_wp2_with fail
    rw [HW.out]
    refine (HO.out 3 _ S2.out (by omega) (by omega)).mono ?_
    rintro e w4 ⟨b4, rfl, h1, h2⟩
    have S4 : Hid (SrcAt w4 g a len cap) := h1
    have G4 : Hid (w.grownBy w4 (some g)) := grownBy_trans G2.out h2
    clear h1 h2 S2 G2 HW hcv
    cases b4
    · go_wp2_with fail
      refine (HO.out 2 _ S4.out (by omega) (by omega)).mono ?_
      rintro e w5 ⟨b5, rfl, h1, h2⟩
      have S5 : Hid (SrcAt w5 g a len cap) := h1
      have G5 : Hid (w.grownBy w5 (some g)) := grownBy_trans G4.out h2
      clear h1 h2 S4 G4 HO
      cases b5
      · go_wp2
        go_region
        all_goals go_wp2
        all_goals go_ret
        all_goals exact ⟨_, rfl, (HZ.out.2 (by omega)).2, S5.out.drew, grownBy_drew G5.out⟩
      · go_wp2
        go_region
        all_goals go_wp2
        all_goals go_ret
        all_goals exact ⟨_, rfl, (HZ.out.2 (by omega)).1, S5.out.drew, grownBy_drew G5.out⟩
    · clear HO
      go_wp2
      go_region
      all_goals go_wp2
      all_goals go_ret
      all_goals exact ⟨_, rfl, HZ.out.1, S4.out.drew, grownBy_drew G4.out⟩
end Go.Proofs.YtocljgjdllpokaaDoor
