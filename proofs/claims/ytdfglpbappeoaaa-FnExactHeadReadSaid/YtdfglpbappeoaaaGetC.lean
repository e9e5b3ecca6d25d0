/- What getN tells: a code of 0 with a number, or another code with none. -/
import Derived.Test.YtdfglpbappeoaaaRead
namespace Go.Proofs.Ytdfglpbappeoaaa
open Go.RowKit
set_option linter.unusedVariables false

/- The code is 0, with a number; or it is not, with none. -/
theorem fin_code (a i u c : Nat) : (fin a i u c).code = 0 ∨ fin a i u c = ⟨0, 0, 3⟩ := by
  unfold fin; split
  · exact Or.inr rfl
  · exact Or.inl rfl
theorem scan_code (s : ByteArray) (a : Nat) : ∀ f i u, (scan s a f i u).code = 0 ∨ ∃ c, c ≠ 0 ∧ scan s a f i u = ⟨0, 0, c⟩
  | 0, _, _ => Or.inr ⟨3, by decide, rfl⟩
  | f + 1, i, u => by
    unfold scan
    split
    · split
      · rcases fin_code a i u _ with h | h
        · exact Or.inl h
        · exact Or.inr ⟨3, by decide, h⟩
      · exact scan_code s a f _ _
    · exact Or.inr ⟨4, by decide, rfl⟩
theorem getN_code (s : ByteArray) (p : Int) : (getN s p).code = 0 ∨ ∃ c, c ≠ 0 ∧ getN s p = ⟨0, 0, c⟩ := by
  unfold getN
  split
  · exact Or.inr ⟨2, by decide, rfl⟩
  · split
    · exact Or.inr ⟨1, by decide, rfl⟩
    · exact scan_code s _ _ _ _

end Go.Proofs.Ytdfglpbappeoaaa
