/- The draws for signatures: a number, a key, a secret, a secret and a text of less than 40 bytes; none changes what was there. -/
import Derived.Test.YtbehflckihmgbaaDoorSrcB
import Derived.Test.YtbehflckihmgbaaDoorSrcY
import Derived.Test.YtbehflckihmgbaaDoorPow
namespace Go.Proofs.YtbehflckihmgbaaDoor
open Go.RowKit
set_option linter.unusedVariables false

theorem i64_lit {z : Int} (h1 : -9223372036854775808 ≤ z) (h2 : z ≤ 9223372036854775807) : I64 z := by
  unfold I64; simp [Lit.wf, IntKind.min, IntKind.max, IntKind.signed, IntKind.bits]; omega
theorem five_cell (w : World) (t : TypeId) (z0 : Int) (h0 : I64 z0) : ∀ j : Nat, j < 5 → ∃ z : Int, I64 z ∧ (w.alloc (.cells #[.int .i64 0, .int .i64 (-1), .int .i64 1073741788, .int .i64 1073741789, .int .i64 z0] t)).cell? ⟨w.heap.size, j, none⟩ = some (.int .i64 z)
  | 0, _ => ⟨_, i64_lit (z := 0) (by omega) (by omega), by simp⟩
  | 1, _ => ⟨_, i64_lit (z := -1) (by omega) (by omega), by simp⟩
  | 2, _ => ⟨_, i64_lit (z := 1073741788) (by omega) (by omega), by simp⟩
  | 3, _ => ⟨_, i64_lit (z := 1073741789) (by omega) (by omega), by simp⟩
  | 4, _ => ⟨_, h0, by simp⟩
  | j + 5, h => absurd h (by omega)
theorem seven_cell (w : World) (t : TypeId) (z0 : Int) (h0 : I64 z0) : ∀ j : Nat, j < 7 → ∃ z : Int, I64 z ∧ (w.alloc (.cells #[.int .i64 (-1), .int .i64 0, .int .i64 1, .int .i64 2147483578, .int .i64 2147483579, .int .i64 2, .int .i64 z0] t)).cell? ⟨w.heap.size, j, none⟩ = some (.int .i64 z)
  | 0, _ => ⟨_, i64_lit (z := -1) (by omega) (by omega), by simp⟩
  | 1, _ => ⟨_, i64_lit (z := 0) (by omega) (by omega), by simp⟩
  | 2, _ => ⟨_, i64_lit (z := 1) (by omega) (by omega), by simp⟩
  | 3, _ => ⟨_, i64_lit (z := 2147483578) (by omega) (by omega), by simp⟩
  | 4, _ => ⟨_, i64_lit (z := 2147483579) (by omega) (by omega), by simp⟩
  | 5, _ => ⟨_, i64_lit (z := 2) (by omega) (by omega), by simp⟩
  | 6, _ => ⟨_, h0, by simp⟩
  | j + 7, h => absurd h (by omega)

set_option maxRecDepth 100000 in
theorem num_any (g len cap : Nat) (a : Option Addr) (w : World) (h : SrcAt w g a len cap) :
    Calls Tryd.prog 34 #[.pointer (some ⟨g, 0, none⟩)] w fun e w' => ∃ z : Int, e = .returned (.int .i64 z) ∧ I64 z ∧ SrcAt w' g a len cap ∧ w.grownBy w' (some g) := by
  have HO1 : Hid _ := one_any g len cap a 6 w h (by omega) (by omega)
  have HE : Hid (∀ w1, SrcAt w1 g a len cap → Calls Tryd.prog 45 #[.pointer (some ⟨g, 0, none⟩)] w1 fun e w' => ∃ z : Int, e = .returned (.int .i64 z) ∧ I64 z ∧ SrcAt w' g a len cap ∧ w1.grownBy w' (some g)) := fun w1 h1 => edge_any g len cap a w1 h1
  have HN : Hid (∀ w1, SrcAt w1 g a len cap → Calls Tryd.prog 22 #[.pointer (some ⟨g, 0, none⟩), .int .i64 1048576] w1 fun e w' => ∃ v : Int, e = .returned (.int .i64 v) ∧ 0 ≤ v ∧ v < 1048576 ∧ SrcAt w' g a len cap ∧ w1.grownBy w' (some g)) := fun w1 h1 => n_any g len cap a 1048576 w1 h1 (by omega) (by omega)
  clear h
  go_enter Tryd.func34, Tryd.ntmps34
  go_wp2_with fail
  refine Calls.mono HO1.out ?_
  rintro e w1 ⟨b, rfl, h1, h2⟩
  have H1 : Hid _ := h1
  have H2 : Hid _ := h2
  clear h1 h2 HO1
  cases b
  · go_wp2_with fail
    refine (HN.out _ H1.out).mono ?_
    rintro e w2 ⟨v, rfl, hv0, hv1, h1, h2⟩
    have H3 : Hid _ := h1
    have H4 : Hid _ := h2
    clear h1 h2 HN HE
    go_wp2
    go_ret
    exact ⟨v, rfl, i64_lit (by omega) (by omega), H3.out, grownBy_trans H2.out H4.out⟩
  · go_wp2_with fail
    refine (HE.out _ H1.out).mono ?_
    rintro e w2 ⟨v, rfl, hv, h1, h2⟩
    have H3 : Hid _ := h1
    have H4 : Hid _ := h2
    have H5 : Hid _ := hv
    clear h1 h2 HN HE hv
    go_wp2
    go_ret
    exact ⟨v, rfl, H5.out, H3.out, grownBy_trans H2.out H4.out⟩

set_option maxRecDepth 100000 in
set_option maxHeartbeats 1000000 in
theorem sec_any (g len cap : Nat) (a : Option Addr) (w : World) (h : SrcAt w g a len cap) :
    Calls Tryd.prog 20 #[.pointer (some ⟨g, 0, none⟩)] w fun e w' => ∃ z : Int, e = .returned (.int .i64 z) ∧ I64 z ∧ SrcAt w' g a len cap ∧ w.grownBy w' (some g) := by
  have HO1 : Hid _ := one_any g len cap a 20 w h (by omega) (by omega)
  have HE : Hid (∀ w1, SrcAt w1 g a len cap → Calls Tryd.prog 45 #[.pointer (some ⟨g, 0, none⟩)] w1 fun e w' => ∃ z : Int, e = .returned (.int .i64 z) ∧ I64 z ∧ SrcAt w' g a len cap ∧ w1.grownBy w' (some g)) := fun w1 h1 => edge_any g len cap a w1 h1
  have HN : Hid (∀ (most : Int) w1, 0 < most → most ≤ 1000 → SrcAt w1 g a len cap → Calls Tryd.prog 22 #[.pointer (some ⟨g, 0, none⟩), .int .i64 most] w1 fun e w' => ∃ v : Int, e = .returned (.int .i64 v) ∧ 0 ≤ v ∧ v < most ∧ SrcAt w' g a len cap ∧ w1.grownBy w' (some g)) := fun most w1 k1 k2 h1 => n_any g len cap a most w1 h1 k1 (by omega)
  clear h
  go_enter Tryd.func20, Tryd.ntmps20
  go_wp2_with fail
  refine Calls.mono HO1.out ?_
  rintro e w1 ⟨b, rfl, h1, h2⟩
  have H1 : Hid _ := h1
  have H2 : Hid _ := h2
  clear h1 h2 HO1
  cases b
  · go_wp2_with fail
    refine (HN.out 6 _ (by omega) (by omega) H1.out).mono ?_
    rintro e w2 ⟨v, rfl, hv0, hv1, h1, h2⟩
    have H3 : Hid _ := h1
    have H4 : Hid _ := h2
    clear h1 h2 HN HE
    go_wp2
    go_ret
    exact ⟨1001 + v, rfl, i64_lit (by omega) (by omega), H3.out, grownBy_trans H2.out H4.out⟩
  · go_wp2_with fail
    refine (HE.out _ H1.out).mono ?_
    rintro e w2 ⟨v0, rfl, hv, h1, h2⟩
    have hgw := h1.room
    have HB : Hid (Below w2.heap.size w2 (w2.alloc (.cells #[.int .i64 0, .int .i64 (-1), .int .i64 1073741788, .int .i64 1073741789, .int .i64 v0] 2))) := (Below.refl _ _).alloc (Nat.le_refl _) _
    have HS1 : Hid (SrcAt (w2.alloc (.cells #[.int .i64 0, .int .i64 (-1), .int .i64 1073741788, .int .i64 1073741789, .int .i64 v0] 2)) g a len cap) := h1.below HB.out hgw
    have H4 : Hid _ := h2
    have H5 : Hid _ := hv
    clear h1 h2 HE hv
    go_wp2_with fail
    refine (HN.out 5 _ (by omega) (by omega) HS1.out).mono ?_
    rintro e w3 ⟨v, rfl, hv0, hv1, h1, h2⟩
    obtain ⟨j, rfl⟩ := Int.eq_ofNat_of_zero_le hv0
    obtain ⟨z, hz, hc⟩ := five_cell w2 2 v0 H5.out j (by omega)
    have hc1 : w3.cell? ⟨w2.heap.size, j, none⟩ = some (.int .i64 z) := by
      rw [World.cell?_of_block (h2.block w2.heap.size (by simp) (by intro e; simp at e; omega))]; exact hc
    have H6 : Hid _ := h1
    have HZ : Hid (I64 z) := hz
    have HG : Hid (w.grownBy w3 (some g)) := grownBy_trans (grownBy_trans H2.out H4.out) (grownBy_trans (grownBy_below (World.grownBy.refl _ _) HB.out) h2)
    clear h1 h2 HN HS1 HB hc hz H4 H5
    go_wp2
    go_ret
    exact ⟨z, rfl, HZ.out, H6.out, HG.out⟩

set_option maxRecDepth 100000 in
set_option maxHeartbeats 1000000 in
theorem key_any (g len cap : Nat) (a : Option Addr) (w : World) (h : SrcAt w g a len cap) :
    Calls Tryd.prog 35 #[.pointer (some ⟨g, 0, none⟩)] w fun e w' => ∃ z : Int, e = .returned (.int .i64 z) ∧ I64 z ∧ SrcAt w' g a len cap ∧ w.grownBy w' (some g) := by
  have HO1 : Hid _ := one_any g len cap a 15 w h (by omega) (by omega)
  have HE : Hid (∀ w1, SrcAt w1 g a len cap → Calls Tryd.prog 45 #[.pointer (some ⟨g, 0, none⟩)] w1 fun e w' => ∃ z : Int, e = .returned (.int .i64 z) ∧ I64 z ∧ SrcAt w' g a len cap ∧ w1.grownBy w' (some g)) := fun w1 h1 => edge_any g len cap a w1 h1
  have HN : Hid (∀ (most : Int) w1, 0 < most → most ≤ 1000 → SrcAt w1 g a len cap → Calls Tryd.prog 22 #[.pointer (some ⟨g, 0, none⟩), .int .i64 most] w1 fun e w' => ∃ v : Int, e = .returned (.int .i64 v) ∧ 0 ≤ v ∧ v < most ∧ SrcAt w' g a len cap ∧ w1.grownBy w' (some g)) := fun most w1 k1 k2 h1 => n_any g len cap a most w1 h1 k1 (by omega)
  clear h
  go_enter Tryd.func35, Tryd.ntmps35
  go_wp2_with fail
  refine Calls.mono HO1.out ?_
  rintro e w1 ⟨b, rfl, h1, h2⟩
  have H1 : Hid _ := h1
  have H2 : Hid _ := h2
  clear h1 h2 HO1
  cases b
  · go_wp2_with fail
    refine (HN.out 5 _ (by omega) (by omega) H1.out).mono ?_
    rintro e w2 ⟨v, rfl, hv0, hv1, h1, h2⟩
    have H3 : Hid _ := h1
    have H4 : Hid _ := h2
    clear h1 h2 HN HE
    obtain ⟨R, hR, hR0, hR1⟩ : ∃ R, powM 4 (1 + v) 2147483579 = R ∧ 0 ≤ R ∧ R < 2147483579 := by
      refine ⟨_, rfl, ?_, ?_⟩
      · unfold powM; split <;> omega
      · unfold powM; split
        · have : powN (4 : Int).toNat (1 + v).toNat (2147483579 : Int).toNat < (2147483579 : Int).toNat := Nat.mod_lt _ (by decide)
          omega
        · omega
    have HP : Hid (∀ w0, Calls Tryd.prog 31 #[.int .i64 4, .int .i64 (1 + v), .int .i64 2147483579] w0 fun e w' => e = .returned (.int .i64 R) ∧ w' = w0) := fun w0 => by
      rw [← hR]; exact specPow0 4 (1 + v) 2147483579 w0 (i64_lit (by omega) (by omega)) (i64_lit (by omega) (by omega)) (by omega) (by omega) (by omega) (by omega)
    clear hR
    go_wp2_with (go_at_call 31; refine (HP.out _).mono ?_; rintro e w3 ⟨rfl, rfl⟩)
    go_ret
    exact ⟨R, rfl, i64_lit (by omega) (by omega), H3.out, grownBy_trans H2.out H4.out⟩
  · go_wp2_with fail
    refine (HE.out _ H1.out).mono ?_
    rintro e w2 ⟨v0, rfl, hv, h1, h2⟩
    have hgw := h1.room
    have HB : Hid (Below w2.heap.size w2 (w2.alloc (.cells #[.int .i64 (-1), .int .i64 0, .int .i64 1, .int .i64 2147483578, .int .i64 2147483579, .int .i64 2, .int .i64 v0] 2))) := (Below.refl _ _).alloc (Nat.le_refl _) _
    have HS1 : Hid (SrcAt (w2.alloc (.cells #[.int .i64 (-1), .int .i64 0, .int .i64 1, .int .i64 2147483578, .int .i64 2147483579, .int .i64 2, .int .i64 v0] 2)) g a len cap) := h1.below HB.out hgw
    have H4 : Hid _ := h2
    have H5 : Hid _ := hv
    clear h1 h2 HE hv
    go_wp2_with fail
    refine (HN.out 7 _ (by omega) (by omega) HS1.out).mono ?_
    rintro e w3 ⟨v, rfl, hv0, hv1, h1, h2⟩
    obtain ⟨j, rfl⟩ := Int.eq_ofNat_of_zero_le hv0
    obtain ⟨z, hz, hc⟩ := seven_cell w2 2 v0 H5.out j (by omega)
    have hc1 : w3.cell? ⟨w2.heap.size, j, none⟩ = some (.int .i64 z) := by
      rw [World.cell?_of_block (h2.block w2.heap.size (by simp) (by intro e; simp at e; omega))]; exact hc
    have H6 : Hid _ := h1
    have HZ : Hid (I64 z) := hz
    have HG : Hid (w.grownBy w3 (some g)) := grownBy_trans (grownBy_trans H2.out H4.out) (grownBy_trans (grownBy_below (World.grownBy.refl _ _) HB.out) h2)
    clear h1 h2 HN HS1 HB hc hz H4 H5
    go_wp2
    go_ret
    exact ⟨z, rfl, HZ.out, H6.out, HG.out⟩

set_option maxRecDepth 100000 in
set_option maxHeartbeats 1000000 in
theorem drawSign (len cap : Nat) (a : Option Addr) (w : World) (hb : Bytes w a len) (hs : len ≤ 9223372036854775807) :
    Calls Tryd.prog 6 #[.slice a len cap] w fun e w' => ∃ (z : Int) (x : ByteArray), e = .returned (.tuple #[.int .i64 z, .string x]) ∧ I64 z ∧ x.size ≤ 40 ∧ Below w.heap.size w w' := by
  have HS : Hid _ := source_any len cap a w hb hs
  clear hb
  go_enter Tryd.func6, Tryd.ntmps6
  go_wp2_with fail
  refine Calls.mono HS.out ?_
  rintro e w1 ⟨g, rfl, hg, h1, h2⟩
  have H1 : Hid _ := h1
  have H2 : Hid _ := h2
  clear h1 h2 HS
  go_wp2_with fail
  refine (sec_any g len cap a _ H1.out).mono ?_
  rintro e w2 ⟨z, rfl, hz, h3, h4⟩
  have HZ : Hid (I64 z) := hz
  have H3 : Hid _ := h3
  have H4 : Hid (Below w.heap.size w w2) := Below.by H2.out h4 H2.out.size hg
  clear h3 h4 hz H1 H2
  go_wp2_with fail
  refine (n_any g len cap a 40 _ H3.out (by omega) (by omega)).mono ?_
  rintro e w3 ⟨v, rfl, hv0, hv1, h5, h6⟩
  have H5 : Hid _ := h5
  have H6 : Hid (Below w.heap.size w w3) := Below.by H4.out h6 H4.out.size hg
  obtain ⟨m, rfl⟩ := Int.eq_ofNat_of_zero_le hv0
  clear h5 h6 H3 H4
  go_wp2_with fail
  refine (bytes_any g len cap m a _ H5.out (by omega)).mono ?_
  rintro e w4 ⟨x, rfl, hx, h7, h8⟩
  have H8 : Hid (Below w.heap.size w w4) := Below.by H6.out h8 H6.out.size hg
  have HX : Hid (x.size ≤ 40) := by show x.size ≤ _; omega
  clear h7 h8 hx H5 H6
  go_wp2
  exact bodyPost_ret (v := .tuple #[.int .i64 z, .string x]) (by simp [results, Tryd.results6, go_sem]) rfl ⟨z, x, rfl, HZ.out, HX.out, H8.out⟩

set_option maxRecDepth 100000 in
set_option maxHeartbeats 1000000 in
theorem drawGR (len cap : Nat) (a : Option Addr) (w : World) (hb : Bytes w a len) (hs : len ≤ 9223372036854775807) :
    Calls Tryd.prog 11 #[.slice a len cap] w fun e w' => ∃ z : Int, e = .returned (.int .i64 z) ∧ I64 z ∧ Below w.heap.size w w' := by
  have HS : Hid _ := source_any len cap a w hb hs
  clear hb
  go_enter Tryd.func11, Tryd.ntmps11
  go_wp2_with fail
  refine Calls.mono HS.out ?_
  rintro e w1 ⟨g, rfl, hg, h1, h2⟩
  have H1 : Hid _ := h1
  have H2 : Hid _ := h2
  clear h1 h2 HS
  go_wp2_with fail
  refine (one_any g len cap a 3 _ H1.out (by omega) (by omega)).mono ?_
  rintro e w2 ⟨b, rfl, h3, h4⟩
  have H3 : Hid _ := h3
  have H4 : Hid (Below w.heap.size w w2) := Below.by H2.out h4 H2.out.size hg
  clear h3 h4 H1 H2
  cases b
  · go_wp2_with fail
    refine (key_any g len cap a _ H3.out).mono ?_
    rintro e w3 ⟨z, rfl, hz, h5, h6⟩
    have HZ : Hid (I64 z) := hz
    have H6 : Hid (Below w.heap.size w w3) := Below.by H4.out h6 H4.out.size hg
    clear h5 h6 hz H3 H4
    go_wp2
    go_ret
    exact ⟨z, rfl, HZ.out, H6.out⟩
  · go_wp2_with fail
    refine (num_any g len cap a _ H3.out).mono ?_
    rintro e w3 ⟨z, rfl, hz, h5, h6⟩
    have HZ : Hid (I64 z) := hz
    have H6 : Hid (Below w.heap.size w w3) := Below.by H4.out h6 H4.out.size hg
    clear h5 h6 hz H3 H4
    go_wp2
    go_ret
    exact ⟨z, rfl, HZ.out, H6.out⟩
end Go.Proofs.YtbehflckihmgbaaDoor
