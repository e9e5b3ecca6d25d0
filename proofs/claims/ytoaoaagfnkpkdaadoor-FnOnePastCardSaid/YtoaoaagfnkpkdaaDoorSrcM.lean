/- The source's method one. -/
import Derived.Test.YtoaoaagfnkpkdaaDoorSrcO
namespace Go.Proofs.YtoaoaagfnkpkdaaDoor
open Go.RowKit
set_option linter.unusedVariables false
attribute [local go_sem ↓] Go.wp_at_zero Go.wp_at_succ

theorem one_any (g len cap : Nat) (a : Option Addr) (most : Int) (w : World) (h : SrcAt w g a len cap) (hm : 0 < most) (hm2 : most ≤ 1099511627776) :
    Calls Tryd.prog 63 #[.pointer (some ⟨g, 0, none⟩), .int .i64 most] w fun e w' => ∃ b : Bool, Hid (e = .returned (.bool b) ∧ SrcAt w' g a len cap ∧ w.grownBy w' (some g)) := by
  have HN : Hid (∀ w1, SrcAt w1 g a len cap → Calls Tryd.prog 62 #[.pointer (some ⟨g, 0, none⟩), .int .i64 most] w1 fun e w' => ∃ v : Int, e = .returned (.int .i64 v) ∧ 0 ≤ v ∧ v < most ∧ SrcAt w' g a len cap ∧ w1.grownBy w' (some g)) := fun w1 h1 => n_any g len cap a most w1 h1 hm hm2
  have HS : Hid (SrcAt w g a len cap) := h
  clear h
  go_enter Tryd.func63, Tryd.ntmps63
  go_wp2_with fail
  refine (HN.out _ HS.out).mono ?_
  rintro e w1 ⟨v, rfl, _, _, h1, h2⟩
  have H1 : Hid _ := h1
  have H2 : Hid _ := h2
  clear h1 h2 HN HS
  go_wp2
  go_ret
  exact ⟨(v == 0), rfl, H1.out, H2.out⟩
end Go.Proofs.YtoaoaagfnkpkdaaDoor
