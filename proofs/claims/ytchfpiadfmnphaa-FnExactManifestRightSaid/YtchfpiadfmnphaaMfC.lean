/- For every Manifest the program's ManifestRight answers as the specification's, and the law FnExactManifestRight answers true; no condition. -/
import Derived.Test.YtchfpiadfmnphaaRows
import Derived.Test.YtchfpiadfmnphaaMfL
import Derived.WalkKit
import Derived.ProofKit
import Derived.OpenShut
import Derived.ShutString
import Derived.Below
import Derived.ChangeOld
import Derived.Carry
import Derived.Lib.SmallJoins
namespace Go.Proofs.Ytchfpiadfmnphaa.fnExactManifestRight
open Go.ChangeShapes Go.WideShapes Go.ChangeAt Go.RowKit Go.Joins
open Go.ChangeMaps (open_string shut_string)
set_option linter.unusedVariables false

theorem own : ownKnob Try.prog.godebug = none := by kernel_rfl
theorem laidOut : laidOutB Try.prog = true := by kernel_rfl
set_option maxRecDepth 100000 in
theorem lifted (os : Os) (started : os.Started) (H : Type) (enc : TypeId × Value → H) :
    ReturnsInHanded {} Try.checked os 3 .any (Rows.fnExactManifestRightSpec.pre6 enc Try.prog Try.f3 Rows.fnExactManifestRightRow.domain false) (Rows.fnExactManifestRightSpec.post enc Try.prog Try.f3 false true false false) := by
  refine returnsInHanded_of_change (C := Try.checked) own started (by kernel_rfl) Try.func3
    (ChangeSpec.witness6 (enc := enc) (C := Try.checked) false ⟨#[], #[.agg #[.string ByteArray.empty, .slice none 0 0, .slice none 0 0]], []⟩ 8 (by kernel_rfl) (by kernel_rfl) (by kernel_rfl) (by kernel_rfl)) ?_
  intro W base args ds gs before hval0 hW hcnd _
  have hval : ∀ (j : Nat) t v, Try.f3.params[j]? = some t → args[j]? = some v → Value.okWide Try.prog W .any base t v := hval0
  have hW' := hW
  obtain ⟨p, q, hA0, hV, rfl, hfz, hnd⟩ := hW
  have hA : DataW.TrodAll enc Try.prog W 0 (fun _ => true) true Try.f3.params.toList args.toList ds p := hA0
  rw [Try.params3] at hA hval
  obtain ⟨v0, vs0, d0, ds0, p0, q0, hargs, rfl, rfl, h0, r0⟩ := trodAll_cons hA
  obtain ⟨rfl, rfl, rfl⟩ := trodAll_nil r0
  obtain rfl : args = #[v0] := by cases args; simp_all
  have k0 := h0
  have lt0 : ∀ x ∈ p0, x.block < W.heap.size := by obtain ⟨m, hm⟩ := k0; exact DataW.trod_lt m _ _ _ hm
  obtain ⟨c00, c01, c02, y00, y01, y02, m0, rfl, rfl, rfl, hy00, hy01, hy02⟩ := open_agg3 Try.underlying25 (by kernel_rfl) (by kernel_rfl) (hval 0 25 v0 rfl rfl) h0
  obtain ⟨nm0, e00, _, w00⟩ := DataW.trod_string Try.underlying9 hy00
  injection e00 with e00
  subst e00
  obtain ⟨la0, ln0, lc0, le0, lnc0, lcm0, lE0⟩ := lay_arg hy01
  injection le0 with le0
  subst le0
  obtain ⟨ls0, ll0, lat0, lw0⟩ := lE0
  obtain ⟨ba0, bn0, bc0, be0, bnc0, bcm0, bE0⟩ := lab_arg hy02
  injection be0 with be0
  subst be0
  obtain ⟨bs0, bl0, bat0, bw0⟩ := bE0
  obtain ⟨rfl, rfl⟩ := trodVars_none hV
  clear hA0 hval0
  refine (lawManR nm0 la0 lc0 ln0 ls0 ba0 bc0 bn0 bs0 W ll0 lat0 (Nat.le_trans lnc0 lcm0) lw0 bl0 bat0 (Nat.le_trans bnc0 bcm0) bw0 w00).mono fun e W' ⟨he, bel⟩ => ?_
  subst he
  exact ⟨_, rfl, _, _, _, [], _, [], hW', trodAll_mk1 (shut_bool Try.underlying4 _), (trodAll_cons_mk (Below.trod laidOut (by kernel_rfl) (of_decide_eq_true (by kernel_rfl)) k0 bel lt0) trodAll_mk0), rfl, bel.frame _, fun h => by cases h⟩

theorem over : Rows.fnExactManifestRightRow.holds Try.pinned (OpenSpec.ofChange Rows.fnExactManifestRightSpec) :=
  OpenClaim.holds_of_wide 3 Try.f3 rfl rfl rfl rfl rfl rfl rfl ⟨rfl, rfl, rfl, rfl, rfl⟩ rfl rfl rfl rfl rfl (by kernel_rfl) Try.func3 (by kernel_rfl)
    (of_decide_eq_true (by kernel_rfl)) (by unfold Func.isWrapper; first | (rw [if_pos (by decide +kernel)]; kernel_rfl) | (rw [if_neg (by decide +kernel)]; exact ⟨rfl, rfl⟩))
    (fun os started H enc _ => lifted os started H enc)
end Go.Proofs.Ytchfpiadfmnphaa.fnExactManifestRight
namespace Go.Proofs.Ytchfpiadfmnphaa
theorem fnExactManifestRight_holds : Rows.FnExactManifestRightSaid := fnExactManifestRight.over
end Go.Proofs.Ytchfpiadfmnphaa
