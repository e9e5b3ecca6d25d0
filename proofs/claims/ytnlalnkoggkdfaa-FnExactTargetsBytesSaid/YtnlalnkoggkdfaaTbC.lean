/- For every Targets the program's TargetsBytes answers as the specification's, and the law FnExactTargetsBytes answers true; no condition. -/
import Derived.Test.YtnlalnkoggkdfaaRows
import Derived.Test.YtnlalnkoggkdfaaTbW
import Derived.Test.YtnlalnkoggkdfaaArg
import Derived.WalkKit
import Derived.ProofKit
import Derived.OpenShut
import Derived.ShutString
import Derived.Below
import Derived.ChangeOld
import Derived.Carry
import Derived.Lib.SmallJoins
namespace Go.Proofs.Ytnlalnkoggkdfaa.fnExactTargetsBytes
open Go.ChangeShapes Go.WideShapes Go.ChangeAt Go.RowKit Go.Joins
open Go.ChangeMaps (open_string shut_string)
set_option linter.unusedVariables false

theorem own : ownKnob Try.prog.godebug = none := by kernel_rfl
theorem laidOut : laidOutB Try.prog = true := by kernel_rfl
theorem tgs_arg {H : Type} {enc : TypeId × Value → H} {w : World} {base : Nat} {spare : Nat → Bool} {held : Bool} {fuel : Nat} {cs : List Value} {x : DataW H × List MemPlace} (h : DataW.trod enc Try.prog w base spare held fuel 34 cs = some x) :
    ∃ (a : Option Addr) (n c : Nat), cs = [.slice a n c] ∧ n ≤ c ∧ c ≤ maxLen ∧ ∃ l : List TarV, l.length = n ∧ TgsAt w a l ∧ ∀ x ∈ l, x.w := by
  obtain ⟨a, n, c, h1, h2, h3, h4⟩ := open_elems (k := 3) Try.underlying34 (by kernel_rfl) (by decide) (fun cs => ∃ x : TarV, cs = tgv x.nm x.im x.sz ∧ x.w) (fun fuel cs y hy => by
    obtain ⟨c0, c1, c2, y0, y1, y2, n, rfl, k0, k1, k2⟩ := cells3 Try.underlying152 (by kernel_rfl) (by kernel_rfl) hy
    obtain ⟨z0, e0, _, w0⟩ := DataW.trod_string Try.underlying9 k0
    obtain ⟨z1, e1, _, w1⟩ := DataW.trod_string Try.underlying9 k1
    obtain ⟨z2, e2, _, w2⟩ := DataW.trod_int Try.underlying2 k2
    injection e0 with e0
    injection e1 with e1
    injection e2 with e2
    subst e0 e1 e2
    exact ⟨⟨z0, z1, z2⟩, rfl, w0, w1, w2⟩) h
  refine ⟨a, n, c, h1, h2, h3, ?_⟩
  obtain ⟨l, hl, hp⟩ := exists_list (P := fun i (x : TarV) => (∃ b o, a = some ⟨b, o, none⟩ ∧ w.cell? ⟨b, o + i * 3, none⟩ = some (.string x.nm) ∧ w.cell? ⟨b, o + i * 3 + 1, none⟩ = some (.string x.im) ∧ w.cell? ⟨b, o + i * 3 + 2, none⟩ = some (.int .i64 x.sz)) ∧ x.w) n (fun i hi => by
    obtain ⟨b, o, cs, ha, hlen, hcs, x, rfl, hx⟩ := h4 i hi
    exact ⟨x, ⟨b, o, ha, hcs 0 (by decide), hcs 1 (by decide), hcs 2 (by decide)⟩, hx⟩)
  refine ⟨l, hl, fun i hi => (hp i hi).1, fun x hx => ?_⟩
  obtain ⟨i, hi, rfl⟩ := List.mem_iff_getElem.1 hx
  exact (hp i hi).2
set_option maxRecDepth 100000 in
theorem lifted (os : Os) (started : os.Started) (H : Type) (enc : TypeId × Value → H) :
    ReturnsInHanded {} Try.checked os 6 .any (Rows.fnExactTargetsBytesSpec.pre6 enc Try.prog Try.f6 Rows.fnExactTargetsBytesRow.domain false) (Rows.fnExactTargetsBytesSpec.post enc Try.prog Try.f6 false true false false) := by
  refine returnsInHanded_of_change (C := Try.checked) own started (by kernel_rfl) Try.func6
    (ChangeSpec.witness6 (enc := enc) (C := Try.checked) false ⟨#[], #[.agg #[.int .i64 0, .int .i64 0, .slice none 0 0]], []⟩ 8 (by kernel_rfl) (by kernel_rfl) (by kernel_rfl) (by kernel_rfl)) ?_
  intro W base args ds gs before hval0 hW hcnd _
  have hval : ∀ (j : Nat) t v, Try.f6.params[j]? = some t → args[j]? = some v → Value.okWide Try.prog W .any base t v := hval0
  have hW' := hW
  obtain ⟨p, q, hA0, hV, rfl, hfz, hnd⟩ := hW
  have hA : DataW.TrodAll enc Try.prog W 0 (fun _ => true) true Try.f6.params.toList args.toList ds p := hA0
  rw [Try.params6] at hA hval
  obtain ⟨v0, vs0, d0, ds0, p0, q0, hargs, rfl, rfl, h0, r0⟩ := trodAll_cons hA
  obtain ⟨rfl, rfl, rfl⟩ := trodAll_nil r0
  obtain rfl : args = #[v0] := by cases args; simp_all
  obtain ⟨rfl, rfl⟩ := trodVars_none hV
  have k0 := h0
  have lt0 : ∀ x ∈ p0, x.block < W.heap.size := by obtain ⟨m, hm⟩ := k0; exact DataW.trod_lt m _ _ _ hm
  obtain ⟨c0, c1, c2, y0, y1, y2, m, rfl, rfl, rfl, hy0, hy1, hy2⟩ := open_agg3 Try.underlying36 (by kernel_rfl) (by kernel_rfl) (hval 0 36 v0 rfl rfl) h0
  obtain ⟨k, hk1, _, hk2⟩ := DataW.trod_int Try.underlying2 hy0
  obtain ⟨x, hx1, _, hx2⟩ := DataW.trod_int Try.underlying2 hy1
  injection hk1 with hk1
  injection hx1 with hx1
  subst hk1 hx1
  obtain ⟨a, n, c, hc1, hnc, hcm, hEA⟩ := tgs_arg hy2
  injection hc1 with hc1
  subst hc1
  obtain ⟨l, hl, hat, hw⟩ := hEA
  clear hA0 hval0
  refine (lawTargetsBytes k x a c n l W hl hat (Nat.le_trans hnc hcm) hw hk2 hx2).mono fun e W' ⟨he, bel⟩ => ?_
  subst he
  exact ⟨_, rfl, _, _, _, [], _, [], hW', trodAll_mk1 (shut_bool Try.underlying4 _), trodAll_cons_mk (Below.trod laidOut (by kernel_rfl) (of_decide_eq_true (by kernel_rfl)) k0 bel lt0) trodAll_mk0, rfl, bel.frame _, fun h => by cases h⟩

theorem over : Rows.fnExactTargetsBytesRow.holds Try.pinned (OpenSpec.ofChange Rows.fnExactTargetsBytesSpec) :=
  OpenClaim.holds_of_wide 6 Try.f6 rfl rfl rfl rfl rfl rfl rfl ⟨rfl, rfl, rfl, rfl, rfl⟩ rfl rfl rfl rfl rfl (by kernel_rfl) Try.func6 (by kernel_rfl)
    (of_decide_eq_true (by kernel_rfl)) (by unfold Func.isWrapper; first | (rw [if_pos (by decide +kernel)]; kernel_rfl) | (rw [if_neg (by decide +kernel)]; exact ⟨rfl, rfl⟩))
    (fun os started H enc _ => lifted os started H enc)
end Go.Proofs.Ytnlalnkoggkdfaa.fnExactTargetsBytes
namespace Go.Proofs.Ytnlalnkoggkdfaa
theorem fnExactTargetsBytes_holds : Rows.FnExactTargetsBytesSaid := fnExactTargetsBytes.over
end Go.Proofs.Ytnlalnkoggkdfaa
