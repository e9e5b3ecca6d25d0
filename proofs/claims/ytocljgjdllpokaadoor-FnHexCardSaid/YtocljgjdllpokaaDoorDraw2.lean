/- The draws for digits: DrawHex tells a text of at most 20 bytes, DrawHexRead one of at most 20; neither changes what was there. -/
import Derived.Test.YtocljgjdllpokaaDoorSrcB
import Derived.Test.YtocljgjdllpokaaDoorSrcS
import Derived.Test.YtocljgjdllpokaaDoorHexRt
namespace Go.Proofs.YtocljgjdllpokaaDoor
open Go.RowKit
set_option linter.unusedVariables false

set_option maxRecDepth 100000 in
set_option maxHeartbeats 1000000 in
theorem drawHex (len cap : Nat) (a : Option Addr) (w : World) (hb : Bytes w a len) (hs : len ≤ 9223372036854775807) :
    Calls Tryd.prog 16 #[.slice a len cap] w fun e w' => ∃ x : ByteArray, e = .returned (.string x) ∧ x.size ≤ 20 ∧ Below w.heap.size w w' := by
  have HS : Hid _ := source_any len cap a w hb hs
  clear hb
  go_enter Tryd.func16, Tryd.ntmps16
  go_wp2_with fail
  refine Calls.mono HS.out ?_
  rintro e w1 ⟨g, rfl, hg, h1, h2⟩
  have H1 : Hid _ := h1
  have H2 : Hid _ := h2
  clear h1 h2 HS
  go_wp2_with fail
  refine (n_any g len cap a 20 _ H1.out (by omega) (by omega)).mono ?_
  rintro e w3 ⟨v, rfl, hv0, hv1, h5, h6⟩
  have H5 : Hid _ := h5
  have H6 : Hid (Below w.heap.size w w3) := Below.by H2.out h6 H2.out.size hg
  obtain ⟨m, rfl⟩ := Int.eq_ofNat_of_zero_le hv0
  clear h5 h6 H1 H2
  go_wp2_with fail
  refine (bytes_any g len cap m a _ H5.out (by omega)).mono ?_
  rintro e w4 ⟨x, rfl, hx, h7, h8⟩
  have H8 : Hid (Below w.heap.size w w4) := Below.by H6.out h8 H6.out.size hg
  have HX : Hid (x.size ≤ 20) := by show x.size ≤ _; omega
  clear h7 h8 hx H5 H6
  go_wp2
  go_ret
  exact ⟨x, rfl, HX.out, H8.out⟩

set_option maxRecDepth 100000 in
set_option maxHeartbeats 1000000 in
theorem drawHexRead (len cap : Nat) (a : Option Addr) (w : World) (hb : Bytes w a len) (hs : len ≤ 9223372036854775807) :
    Calls Tryd.prog 17 #[.slice a len cap] w fun e w' => ∃ x : ByteArray, e = .returned (.string x) ∧ x.size ≤ 20 ∧ Below w.heap.size w w' := by
  have HS : Hid _ := source_any len cap a w hb hs
  clear hb
  go_enter Tryd.func17, Tryd.ntmps17
  go_wp2_with fail
  refine Calls.mono HS.out ?_
  rintro e w1 ⟨g, rfl, hg, h1, h2⟩
  have H1 : Hid _ := h1
  have H2 : Hid _ := h2
  clear h1 h2 HS
  go_wp2_with fail
  refine (n_any g len cap a 9 _ H1.out (by omega) (by omega)).mono ?_
  rintro e w3 ⟨v, rfl, hv0, hv1, h5, h6⟩
  have H5 : Hid _ := h5
  have H6 : Hid (Below w.heap.size w w3) := Below.by H2.out h6 H2.out.size hg
  obtain ⟨m, rfl⟩ := Int.eq_ofNat_of_zero_le hv0
  clear h5 h6 H1 H2
  go_wp2_with fail
  refine (bytes_any g len cap m a _ H5.out (by omega)).mono ?_
  rintro e w4 ⟨x, rfl, hx, h7, h8⟩
  have H7 : Hid (SrcAt w4 g a len cap) := h7
  have H8 : Hid (Below w.heap.size w w4) := Below.by H6.out h8 H6.out.size hg
  have hxs : x.size ≤ 8 := by omega
  clear h7 h8 hx H5 H6 hv0 hv1
  go_wp2_with fail
  refine (specHex x _ (by unfold maxLen; omega)).mono ?_
  rintro e w5 ⟨rfl, h9⟩
  have H9 : Hid (SrcAt w5 g a len cap) := H7.out.below h9 H7.out.room
  have H10 : Hid (Below w.heap.size w w5) := H8.out.trans (h9.mono H8.out.size)
  have hz := hex_size x (by omega)
  clear h9 H7 H8
  generalize hexS x = y at *
  go_wp2_with fail
  refine (one_any g len cap a 3 _ H9.out (by omega) (by omega)).mono ?_
  rintro e w6 ⟨b, rfl, h3, h4⟩
  have H11 : Hid (SrcAt w6 g a len cap) := h3
  have H12 : Hid (Below w.heap.size w w6) := Below.by H10.out h4 H10.out.size hg
  clear h3 h4 H9 H10
  cases b
  · go_wp2
    go_ret
    exact ⟨y, rfl, by omega, H12.out⟩
  · go_wp2_with fail
    refine (spoil_any g len cap a y _ H11.out (by omega)).mono ?_
    rintro e w7 ⟨x7, rfl, hx7, h3, h4⟩
    have H13 : Hid (Below w.heap.size w w7) := Below.by H12.out h4 H12.out.size hg
    clear h3 h4 H11 H12
    go_wp2
    go_ret
    exact ⟨x7, rfl, by omega, H13.out⟩
end Go.Proofs.YtocljgjdllpokaaDoor
