/- For every two Trusts the program's TrustSame answers as the specification's, and the law FnExactTrustSame answers true; no condition. -/
import Derived.Test.YtlhdmoinbifjdaaRows
import Derived.Test.YtlhdmoinbifjdaaSmL
import Derived.Test.YtlhdmoinbifjdaaArgT
import Derived.WalkKit
import Derived.ProofKit
import Derived.OpenShut
import Derived.ShutString
import Derived.Below
import Derived.ChangeOld
import Derived.Carry
import Derived.Lib.SmallJoins
namespace Go.Proofs.Ytlhdmoinbifjdaa.fnExactTrustSame
open Go.ChangeShapes Go.WideShapes Go.ChangeAt Go.RowKit Go.Joins
open Go.ChangeMaps (open_string shut_string)
set_option linter.unusedVariables false

theorem own : ownKnob Try.prog.godebug = none := by kernel_rfl
theorem laidOut : laidOutB Try.prog = true := by kernel_rfl
set_option maxRecDepth 100000 in
theorem lifted (os : Os) (started : os.Started) (H : Type) (enc : TypeId × Value → H) :
    ReturnsInHanded {} Try.checked os 6 .any (Rows.fnExactTrustSameSpec.pre6 enc Try.prog Try.f6 Rows.fnExactTrustSameRow.domain false) (Rows.fnExactTrustSameSpec.post enc Try.prog Try.f6 false true false false) := by
  refine returnsInHanded_of_change (C := Try.checked) own started (by kernel_rfl) Try.func6
    (ChangeSpec.witness6 (enc := enc) (C := Try.checked) false ⟨#[], #[.agg (trv 0 0 none 0 0 0 0 0 0 0 0 0 0 none 0 0 0 ByteArray.empty 0).toArray, .agg (trv 0 0 none 0 0 0 0 0 0 0 0 0 0 none 0 0 0 ByteArray.empty 0).toArray], []⟩ 8 (by kernel_rfl) (by kernel_rfl) (by kernel_rfl) (by kernel_rfl)) ?_
  intro W base args ds gs before hval0 hW hcnd _
  have hval : ∀ (j : Nat) t v, Try.f6.params[j]? = some t → args[j]? = some v → Value.okWide Try.prog W .any base t v := hval0
  have hW' := hW
  obtain ⟨p, q, hA0, hV, rfl, hfz, hnd⟩ := hW
  have hA : DataW.TrodAll enc Try.prog W 0 (fun _ => true) true Try.f6.params.toList args.toList ds p := hA0
  rw [Try.params6] at hA hval
  obtain ⟨v0, vs0, d0, ds0, p0, q0, hargs, rfl, rfl, h0, r0⟩ := trodAll_cons hA
  obtain ⟨v1, vs1, d1, ds1, p1, q1, rfl, rfl, rfl, h1, r1⟩ := trodAll_cons r0
  obtain ⟨rfl, rfl, rfl⟩ := trodAll_nil r1
  obtain rfl : args = #[v0, v1] := by cases args; simp_all
  obtain ⟨rfl, rfl⟩ := trodVars_none hV
  have k0 := h0
  have lt0 : ∀ x ∈ p0, x.block < W.heap.size := by obtain ⟨m, hm⟩ := k0; exact DataW.trod_lt m _ _ _ hm
  have k1 := h1
  have lt1 : ∀ x ∈ p1, x.block < W.heap.size := by obtain ⟨m, hm⟩ := k1; exact DataW.trod_lt m _ _ _ hm
  obtain ⟨u, ra, rc, ga, gc, rs, gs, rfl, hrl, hgl, hW, hI⟩ := trust_arg (hval 0 38 v0 rfl rfl) h0
  obtain ⟨ub, rab, rcb, gab, gcb, rsb, gsb, rfl, hrlb, hglb, hWb, hIb⟩ := trust_arg (hval 1 38 v1 rfl rfl) h1
  clear hA0 hval0
  refine (lawTrustSame u.rv u.re u.rn u.t1 u.t2 u.t3 u.s1 u.s2 u.s3 u.gv u.ge u.gn u.hs u.hr u.ht ub.rv ub.re ub.rn ub.t1 ub.t2 ub.t3 ub.s1 ub.s2 ub.s3 ub.gv ub.ge ub.gn ub.hs ub.hr ub.ht ra rab rc rcb rs rsb ga gab gc gcb gs gsb W hW hWb hrl hgl hrlb hglb).mono fun e W' ⟨he, bel⟩ => ?_
  subst he
  exact ⟨_, rfl, _, _, _, [], _, [], hW', trodAll_mk1 (shut_bool Try.underlying4 _), trodAll_cons_mk (Below.trod laidOut (by kernel_rfl) (of_decide_eq_true (by kernel_rfl)) k0 bel lt0) (trodAll_cons_mk (Below.trod laidOut (by kernel_rfl) (of_decide_eq_true (by kernel_rfl)) k1 bel lt1) trodAll_mk0), rfl, bel.frame _, fun h => by cases h⟩

theorem over : Rows.fnExactTrustSameRow.holds Try.pinned (OpenSpec.ofChange Rows.fnExactTrustSameSpec) :=
  OpenClaim.holds_of_wide 6 Try.f6 rfl rfl rfl rfl rfl rfl rfl ⟨rfl, rfl, rfl, rfl, rfl⟩ rfl rfl rfl rfl rfl (by kernel_rfl) Try.func6 (by kernel_rfl)
    (of_decide_eq_true (by kernel_rfl)) (by unfold Func.isWrapper; first | (rw [if_pos (by decide +kernel)]; kernel_rfl) | (rw [if_neg (by decide +kernel)]; exact ⟨rfl, rfl⟩))
    (fun os started H enc _ => lifted os started H enc)
end Go.Proofs.Ytlhdmoinbifjdaa.fnExactTrustSame
namespace Go.Proofs.Ytlhdmoinbifjdaa
theorem fnExactTrustSame_holds : Rows.FnExactTrustSameSaid := fnExactTrustSame.over
end Go.Proofs.Ytlhdmoinbifjdaa
