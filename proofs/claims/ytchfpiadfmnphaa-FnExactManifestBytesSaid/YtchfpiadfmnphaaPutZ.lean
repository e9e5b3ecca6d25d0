/- A number's bytes are ten at most. -/
import Derived.Test.YtchfpiadfmnphaaPut
namespace Go.Proofs.Ytchfpiadfmnphaa
open Go.RowKit
set_option linter.unusedVariables false

theorem enc_len (f u : Nat) : (enc f u).length ≤ f + 1 := by
  induction f generalizing u with
  | zero => simp [enc]
  | succ f ih =>
    unfold enc
    split
    · simp
    · have := ih (u / 128); simp; omega
theorem putS_size (n : Int) : (putS n).size ≤ 10 := by
  have := enc_len 9 (foldN n)
  simpa [putS, ByteArray.size] using this
end Go.Proofs.Ytchfpiadfmnphaa
