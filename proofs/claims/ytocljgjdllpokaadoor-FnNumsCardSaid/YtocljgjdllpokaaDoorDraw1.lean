/- The draws of chapter 2: DrawPutNum tells a number of int64, DrawPutText a text of at most 20001 bytes; neither changes what was there. -/
import Derived.Test.YtocljgjdllpokaaDoorSrcB
namespace Go.Proofs.YtocljgjdllpokaaDoor
open Go.RowKit
set_option linter.unusedVariables false

theorem drawPutNum (len cap : Nat) (a : Option Addr) (w : World) (hb : Bytes w a len) (hs : len ≤ 9223372036854775807) :
    Calls Tryd.prog 8 #[.slice a len cap] w fun e w' => ∃ z : Int, e = .returned (.int .i64 z) ∧ I64 z ∧ Below w.heap.size w w' := by
  have HS : Hid _ := source_any len cap a w hb hs
  clear hb
  go_enter Tryd.func8, Tryd.ntmps8
  go_wp2_with fail
  refine Calls.mono HS.out ?_
  rintro e w1 ⟨g, rfl, hg, h1, h2⟩
  have H1 : Hid _ := h1
  have H2 : Hid _ := h2
  clear h1 h2 HS
  go_wp2_with fail
  refine (any_any g len cap a _ H1.out).mono ?_
  rintro e w2 ⟨z, rfl, hz, h3, h4⟩
  have H3 : Hid (Below w.heap.size w w2) := Below.by H2.out h4 H2.out.size hg
  have HZ : Hid (I64 z) := hz
  clear h3 h4 hz H1 H2
  go_wp2
  go_ret
  exact ⟨z, rfl, HZ.out, H3.out⟩

set_option maxRecDepth 100000 in
set_option maxHeartbeats 1000000 in
theorem drawPutText (len cap : Nat) (a : Option Addr) (w : World) (hb : Bytes w a len) (hs : len ≤ 9223372036854775807) :
    Calls Tryd.prog 12 #[.slice a len cap] w fun e w' => ∃ x : ByteArray, e = .returned (.string x) ∧ x.size ≤ 20001 ∧ Below w.heap.size w w' := by
  have HS : Hid _ := source_any len cap a w hb hs
  obtain ⟨i0, hi, hz0, hz1, hz2⟩ := info_parts Tryd.infoU8
  have HN : Hid (∀ (g : Nat) (most : Int) (w1 : World), SrcAt w1 g a len cap → 0 < most → most ≤ 1099511627776 → Calls Tryd.prog 32 #[.pointer (some ⟨g, 0, none⟩), .int .i64 most] w1 fun e w' => ∃ v : Int, e = .returned (.int .i64 v) ∧ 0 ≤ v ∧ v < most ∧ SrcAt w' g a len cap ∧ w1.grownBy w' (some g)) := fun g most w1 h1 h2 h3 => n_any g len cap a most w1 h1 h2 h3
  clear hb
  go_enter Tryd.func12, Tryd.ntmps12
  go_wp2_with fail
  refine Calls.mono HS.out ?_
  rintro e w1 ⟨g, rfl, hg, h1, h2⟩
  have H1 : Hid _ := h1
  have H2 : Hid _ := h2
  clear h1 h2 HS
  go_wp2_with fail
  refine (one_any g len cap a 8 _ H1.out (by omega) (by omega)).mono ?_
  rintro e w2 ⟨b, rfl, h3, h4⟩
  have H3 : Hid _ := h3
  have H4 : Hid (Below w.heap.size w w2) := Below.by H2.out h4 H2.out.size hg
  clear h3 h4 H1 H2
  cases b
  · go_wp2_with fail
    refine (HN.out g 20 _ H3.out (by omega) (by omega)).mono ?_
    rintro e w3 ⟨v, rfl, hv0, hv1, h5, h6⟩
    have H5 : Hid _ := h5
    have H6 : Hid (Below w.heap.size w w3) := Below.by H4.out h6 H4.out.size hg
    obtain ⟨m, rfl⟩ := Int.eq_ofNat_of_zero_le hv0
    clear h5 h6 H3 H4 HN
    go_wp2_with fail
    refine (bytes_any g len cap m a _ H5.out (by omega)).mono ?_
    rintro e w4 ⟨x, rfl, hx, h7, h8⟩
    have H8 : Hid (Below w.heap.size w w4) := Below.by H6.out h8 H6.out.size hg
    have HX : Hid (x.size ≤ 20001) := by show x.size ≤ _; omega
    clear h7 h8 hx H5 H6
    go_wp2
    go_ret
    exact ⟨x, rfl, HX.out, H8.out⟩
  · go_wp2_with fail
    refine (HN.out g 3 _ H3.out (by omega) (by omega)).mono ?_
    rintro e w3 ⟨v, rfl, hv0, hv1, h5, h6⟩
    have H6 : Hid (Below w.heap.size w w3) := Below.by H4.out h6 H4.out.size hg
    obtain ⟨m, rfl⟩ := Int.eq_ofNat_of_zero_le hv0
    clear h5 h6 H3 H4 HN
    go_wp2_with (first
      | (at_make; refine wpList_make_full _ rfl _ _ 22 rfl w3.heap.size 5 i0 (.int .u8 0) 1 Tryd.underlying22 hi hz0 hz1 _ _ _ _ (19999 + m) rfl rfl (by omega) (by omega) (by rw [hz2]; omega) (by unfold maxLen; omega) (Nat.le_refl _) ?_))
    intro w4 hown hgr
    rw [made_zero] at hown
    have hconv := run_conv_own 22 Tryd.underlying22 Tryd.underlying5 hown 9 Tryd.underlying9
    obtain ⟨y, hy⟩ : ∃ y : ByteArray, y = ⟨(List.replicate (19999 + m) 0).toArray⟩ := ⟨_, rfl⟩
    have HY : Hid (y.size ≤ 20001) := by show y.size ≤ _; rw [hy]; show (List.replicate (19999 + m) (0 : UInt8)).toArray.size ≤ _; rw [List.size_toArray, List.length_replicate]; omega
    rw [← hy] at hconv
    have H7 : Hid (Below w.heap.size w w4) := H6.out.grown hgr H6.out.size (fun _ h => by cases h)
    clear hown hgr hy H6 hi hz0 hz1 hz2
    go_wp2
    go_ret
    exact ⟨y, rfl, HY.out, H7.out⟩
end Go.Proofs.YtocljgjdllpokaaDoor
