/- The law on HexRead, walked: it answers true for every text. The condition: errors.errorType reads as the program's text lays it. -/
import Derived.Test.YtocljgjdllpokaaDoorHexRF
import Derived.Test.YtocljgjdllpokaaDoorHexRS
import Derived.Test.YtocljgjdllpokaaDoorEqT
namespace Go.Proofs.YtocljgjdllpokaaDoor
open Go.RowKit
set_option linter.unusedVariables false

set_option maxRecDepth 100000 in
set_option maxHeartbeats 1000000 in
theorem lawHexRead (s : ByteArray) (w : World) (hs : s.size ≤ maxLen) (hH : Handle w) :
    Calls Tryd.prog 7 #[.string s] w fun e w' => e = .returned (.bool true) ∧ Below w.heap.size w w' := by
  have hs' : s.size ≤ maxLen := hs
  unfold maxLen at hs'
  by_cases hbig : 1048576 < s.size
  · go_enter Tryd.func7, Tryd.ntmps7
    go_wp2_with fail
    go_ret
    exact ⟨rfl, Below.refl _ _⟩
  · have HH : Hid (Handle w) := hH
    clear hH
    go_enter Tryd.func7, Tryd.ntmps7
    go_wp2_with fail
    refine (specHexRead s _ hs).mono ?_
    rintro e w1 ⟨rfl, hb1⟩
    have HB1 : Hid (Below w.heap.size w w1) := hb1
    have hz1 := hb1.size
    clear hb1
    have HI : Hid (∀ w2, Handle w2 → Calls Tryd.prog 19 #[.string s] w2 fun e w' => e = .returned (tv (hexRd s)) ∧ Below w2.heap.size w2 w') := fun w2 h2 => implHexRead s w2 hs h2
    unfold tv at HI ⊢
    generalize (hexRd s).text = n at *
    generalize (hexRd s).behind = b at *
    generalize (hexRd s).code = c at *
    have HB2 : Hid (Below w.heap.size w (w1.alloc (.cells #[.string n, .int .i64 b, .int .i64 c] 31))) := HB1.out.alloc hz1 _
    have HH2 : Hid (Handle (w1.alloc (.cells #[.string n, .int .i64 b, .int .i64 c] 31))) := HH.out.later HH.out.pos HB2.out
    go_wp2_with fail
    refine (HI.out _ HH2.out).mono ?_
    rintro e w2 ⟨rfl, hb2⟩
    have c0 : w2.cell? ⟨w1.heap.size, 0, none⟩ = some (.string n) := (hb2.cell (by simp)).trans (by simp)
    have c1 : w2.cell? ⟨w1.heap.size, 1, none⟩ = some (.int .i64 b) := (hb2.cell (by simp)).trans (by simp)
    have c2 : w2.cell? ⟨w1.heap.size, 2, none⟩ = some (.int .i64 c) := (hb2.cell (by simp)).trans (by simp)
    have hz2 : w1.heap.size < w2.heap.size := by have := hb2.size; simp at this; omega
    have HB3 : Hid (Below w.heap.size w w2) := HB2.out.trans (hb2.mono (by simp; omega))
    clear hb2 HI HH2 HB2 HH HB1
    go_wp2_with fail
    refine (eqText n b c _).mono ?_
    rintro e w3 ⟨rfl, hb3⟩
    have HB4 : Hid (Below w.heap.size w w3) := (HB3.out.alloc (by omega) _).trans (hb3.mono (by simp; omega))
    clear hb3 HB3 c0 c1 c2
    go_wp2
    go_ret
    exact ⟨rfl, HB4.out⟩
end Go.Proofs.YtocljgjdllpokaaDoor
