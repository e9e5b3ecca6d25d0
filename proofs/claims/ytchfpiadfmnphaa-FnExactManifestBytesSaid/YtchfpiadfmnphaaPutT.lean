/- What the two Go functions PutText (the specification's and the program's) answer, for every text: one text. -/
import Derived.Test.YtchfpiadfmnphaaPutZ
namespace Go.Proofs.Ytchfpiadfmnphaa
open Go.RowKit
set_option linter.unusedVariables false

theorem I64.ofNat {k : Nat} (h : k ≤ 20000) : I64 (k : Int) := by
  unfold I64
  exact WalkArith.wf_i64 (by omega)
def putT (s : ByteArray) : ByteArray := if 20000 < s.size then ⟨#[]⟩ else putS s.size ++ s

theorem specPutT (s : ByteArray) (w : World) (hs : s.size ≤ maxLen) :
    Calls Try.prog 51 #[.string s] w fun e w' => e = .returned (.string (putT s)) ∧ Below w.heap.size w w' := by
  unfold maxLen at hs
  by_cases hbig : 20000 < s.size
  · have HR : Hid (putT s = ⟨#[]⟩) := by show putT s = _; unfold putT; rw [if_pos hbig]
    go_enter Try.func51, Try.ntmps51
    go_wp2_with fail
    go_ret
    exact ⟨ret_str HR.out.symm, Below.refl _ _⟩
  · have HR : Hid (putT s = putS s.size ++ s) := by show putT s = _; unfold putT; rw [if_neg hbig]
    go_enter Try.func51, Try.ntmps51
    go_wp2_with fail
    refine (specPut _ _ (I64.ofNat (by omega))).mono ?_
    rintro e w1 ⟨rfl, hb1⟩
    have hz := putS_size s.size
    generalize putS s.size = p at *
    go_wp2_with fail
    go_ret
    exact ⟨ret_str HR.out.symm, hb1⟩

theorem implPutT (s : ByteArray) (w : World) (hs : s.size ≤ maxLen) :
    Calls Try.prog 53 #[.string s] w fun e w' => e = .returned (.string (putT s)) ∧ Below w.heap.size w w' := by
  unfold maxLen at hs
  by_cases hbig : 20000 < s.size
  · have HR : Hid (putT s = ⟨#[]⟩) := by show putT s = _; unfold putT; rw [if_pos hbig]
    go_enter Try.func53, Try.ntmps53
    go_wp2_with fail
    go_ret
    exact ⟨ret_str HR.out.symm, Below.refl _ _⟩
  · have HR : Hid (putT s = putS s.size ++ s) := by show putT s = _; unfold putT; rw [if_neg hbig]
    go_enter Try.func53, Try.ntmps53
    go_wp2_with fail
    refine (implPut _ _ (I64.ofNat (by omega))).mono ?_
    rintro e w1 ⟨rfl, hb1⟩
    have hz := putS_size s.size
    generalize putS s.size = p at *
    go_wp2_with fail
    go_ret
    exact ⟨ret_str HR.out.symm, hb1⟩
end Go.Proofs.Ytchfpiadfmnphaa
