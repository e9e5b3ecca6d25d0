/- The law on GetNum, walked: it answers true for every text and place. The condition: errors.errorType reads as the program's text lays it. -/
import Derived.Test.YtocljgjdllpokaaDoorGetI
import Derived.Test.YtocljgjdllpokaaDoorGetS
namespace Go.Proofs.YtocljgjdllpokaaDoor
open Go.RowKit
set_option linter.unusedVariables false

theorem eqNum (n b c : Int) (w : World) :
    Calls Tryd.prog 22 #[.agg #[.int .i64 n, .int .i64 b, .int .i64 c], .agg #[.int .i64 n, .int .i64 b, .int .i64 c]] w fun e w' => e = .returned (.bool true) ∧ Below w.heap.size w w' := by
  have h1 : (n != n) = false := by simp
  have h2 : (b != b) = false := by simp
  have h3 : (c != c) = false := by simp
  go_enter Tryd.func22, Tryd.ntmps22
  go_wp2
  go_ret
  exact ⟨rfl, ((Below.refl _ _).alloc (Nat.le_refl _) _).alloc (by simp) _⟩

set_option maxRecDepth 100000 in
set_option maxHeartbeats 1000000 in
theorem lawGetNum (s : ByteArray) (p : Int) (w : World) (hs : s.size ≤ maxLen) (hp : I64 p) (hH : Handle w) :
    Calls Tryd.prog 5 #[.string s, .int .i64 p] w fun e w' => e = .returned (.bool true) ∧ Below w.heap.size w w' := by
  have hs' : s.size ≤ maxLen := hs
  unfold maxLen at hs'
  by_cases hbig : 1048576 < s.size
  · go_enter Tryd.func5, Tryd.ntmps5
    go_wp2_with fail
    go_ret
    exact ⟨rfl, Below.refl _ _⟩
  · have HH : Hid (Handle w) := hH
    clear hH
    go_enter Tryd.func5, Tryd.ntmps5
    go_wp2_with fail
    refine (specGet s p _ hs hp).mono ?_
    rintro e w1 ⟨rfl, hb1⟩
    have HB1 : Hid (Below w.heap.size w w1) := hb1
    have hz1 := hb1.size
    clear hb1
    have HI : Hid (∀ w2, Handle w2 → Calls Tryd.prog 11 #[.string s, .int .i64 p] w2 fun e w' => e = .returned (gv (getN s p)) ∧ Below w2.heap.size w2 w') := fun w2 h2 => implGet s p w2 hs hp h2
    unfold gv at HI ⊢
    generalize (getN s p).n = n at *
    generalize (getN s p).behind = b at *
    generalize (getN s p).code = c at *
    have HB2 : Hid (Below w.heap.size w (w1.alloc (.cells #[.int .i64 n, .int .i64 b, .int .i64 c] 26))) := HB1.out.alloc hz1 _
    have HH2 : Hid (Handle (w1.alloc (.cells #[.int .i64 n, .int .i64 b, .int .i64 c] 26))) := HH.out.later HH.out.pos HB2.out
    go_wp2_with fail
    refine (HI.out _ HH2.out).mono ?_
    rintro e w2 ⟨rfl, hb2⟩
    have c0 : w2.cell? ⟨w1.heap.size, 0, none⟩ = some (.int .i64 n) := (hb2.cell (by simp)).trans (by simp)
    have c1 : w2.cell? ⟨w1.heap.size, 1, none⟩ = some (.int .i64 b) := (hb2.cell (by simp)).trans (by simp)
    have c2 : w2.cell? ⟨w1.heap.size, 2, none⟩ = some (.int .i64 c) := (hb2.cell (by simp)).trans (by simp)
    have hz2 : w1.heap.size < w2.heap.size := by have := hb2.size; simp at this; omega
    have HB3 : Hid (Below w.heap.size w w2) := HB2.out.trans (hb2.mono (by simp; omega))
    clear hb2 HI HH2 HB2 HH HB1
    go_wp2_with fail
    refine (eqNum n b c _).mono ?_
    rintro e w3 ⟨rfl, hb3⟩
    have HB4 : Hid (Below w.heap.size w w3) := (HB3.out.alloc (by omega) _).trans (hb3.mono (by simp; omega))
    clear hb3 HB3 c0 c1 c2
    go_wp2
    go_ret
    exact ⟨rfl, HB4.out⟩
end Go.Proofs.YtocljgjdllpokaaDoor
