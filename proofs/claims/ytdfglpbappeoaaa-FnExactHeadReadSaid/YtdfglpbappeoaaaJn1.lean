/- The program's reader of targets: how many, and each. readWhole of targets, on the program's side. -/
import Derived.Test.YtdfglpbappeoaaaTdI
import Derived.Test.YtdfglpbappeoaaaJn3
namespace Go.Proofs.Ytdfglpbappeoaaa
open Go.RowKit
set_option linter.unusedVariables false

end Go.Proofs.Ytdfglpbappeoaaa
namespace Go.Proofs.Ytdfglpbappeoaaa
open Go.RowKit
set_option linter.unusedVariables false

theorem rtv_nev {v e : Int} {a : Option Addr} {n c : Nat} : rtv v e a n c ≠ [] := by simp [rtv]
theorem OwnTg.store {w w' : World} {base G : Nat} {v : Value} {l : List TarV} (h : OwnTg w base v l) (hF : ∀ k, k ≠ G → w'.heap[k]? = w.heap[k]?) (hG : G < base) : OwnTg w' base v l := own_same h (fun k hk _ => hF k (by have := (own_ge h hk).1; omega))
theorem OwnTg.base {w : World} {base b : Nat} {v : Value} {l : List TarV} (h : OwnTg w base v l) (hb : b ≤ base) : OwnTg w b v l := by
  refine ⟨h.1, ?_⟩
  rcases h.2 with h0 | ⟨g, cap, cur, hv, hbg, h1⟩
  · exact .inl h0
  · exact .inr ⟨g, cap, cur, hv, Nat.le_trans hb hbg, h1⟩
end Go.Proofs.Ytdfglpbappeoaaa
