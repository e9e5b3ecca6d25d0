/- For every Root the program's RootBytes answers as the specification's, and the law FnExactRootBytes answers true; no condition. -/
import Derived.Test.YtnlalnkoggkdfaaRows
import Derived.Test.YtnlalnkoggkdfaaRbW
import Derived.Test.YtnlalnkoggkdfaaArg
import Derived.WalkKit
import Derived.ProofKit
import Derived.OpenShut
import Derived.ShutString
import Derived.Below
import Derived.ChangeOld
import Derived.Carry
import Derived.Lib.SmallJoins
namespace Go.Proofs.Ytnlalnkoggkdfaa.fnExactRootBytes
open Go.ChangeShapes Go.WideShapes Go.ChangeAt Go.RowKit Go.Joins
open Go.ChangeMaps (open_string shut_string)
set_option linter.unusedVariables false

theorem own : ownKnob Try.prog.godebug = none := by kernel_rfl
theorem laidOut : laidOutB Try.prog = true := by kernel_rfl
theorem ints_arg {H : Type} {enc : TypeId × Value → H} {w : World} {base : Nat} {spare : Nat → Bool} {held : Bool} {fuel : Nat} {cs : List Value} {x : DataW H × List MemPlace} (h : DataW.trod enc Try.prog w base spare held fuel 91 cs = some x) :
    ∃ (a : Option Addr) (n c : Nat), cs = [.slice a n c] ∧ n ≤ c ∧ c ≤ maxLen ∧ ∃ l : List Int, l.length = n ∧ AI w a l ∧ ∀ x ∈ l, I64 x := by
  obtain ⟨a, n, c, h1, h2, h3, h4⟩ := open_elems (k := 1) Try.underlying91 (by kernel_rfl) (by decide) (fun cs => ∃ x : Int, cs = [.int .i64 x] ∧ I64 x) (fun fuel cs y hy => by
    obtain ⟨z0, e0, _, w0⟩ := DataW.trod_int Try.underlying2 hy
    exact ⟨z0, e0, w0⟩) h
  refine ⟨a, n, c, h1, h2, h3, ?_⟩
  obtain ⟨l, hl, hp⟩ := exists_list (P := fun i (x : Int) => (∃ b o, a = some ⟨b, o, none⟩ ∧ w.cell? ⟨b, o + i, none⟩ = some (.int .i64 x)) ∧ I64 x) n (fun i hi => by
    obtain ⟨b, o, cs, ha, hlen, hcs, x, rfl, hx⟩ := h4 i hi
    have := hcs 0 (by decide)
    rw [Nat.mul_one, Nat.add_zero] at this
    exact ⟨x, ⟨b, o, ha, this⟩, hx⟩)
  refine ⟨l, hl, fun i hi => (hp i hi).1, fun x hx => ?_⟩
  obtain ⟨i, hi, rfl⟩ := List.mem_iff_getElem.1 hx
  exact (hp i hi).2
theorem rls_arg {H : Type} {enc : TypeId × Value → H} {w : World} {base : Nat} {spare : Nat → Bool} {held : Bool} {fuel : Nat} {cs : List Value} {x : DataW H × List MemPlace} (h : DataW.trod enc Try.prog w base spare held fuel 22 cs = some x) :
    ∃ (a : Option Addr) (n c : Nat), cs = [.slice a n c] ∧ n ≤ c ∧ c ≤ maxLen ∧ ∃ l : List RoleV, l.length = n ∧ RlsAt w a l ∧ ∀ x ∈ l, RoleW x := by
  obtain ⟨a, n, c, h1, h2, h3, h4⟩ := open_elems (k := 2) Try.underlying22 (by kernel_rfl) (by decide) (fun cs => ∃ x : RoleV, cs = rlv x.need x.ka x.ks.length x.kc ∧ AI w x.ka x.ks ∧ RoleW x) (fun fuel cs y hy => by
    obtain ⟨c0, c1, y0, y1, n, rfl, k0, k1⟩ := cells2 Try.underlying146 (by kernel_rfl) (by kernel_rfl) hy
    obtain ⟨z0, e0, _, w0⟩ := DataW.trod_int Try.underlying2 k0
    obtain ⟨ka, m, kc, e1, hm1, hm2, ks, hks, hai, hw⟩ := ints_arg k1
    injection e0 with e0
    injection e1 with e1
    subst e0 e1
    subst hks
    exact ⟨⟨z0, ka, kc, ks⟩, rfl, hai, w0, Nat.le_trans hm1 hm2, hw⟩) h
  refine ⟨a, n, c, h1, h2, h3, ?_⟩
  obtain ⟨l, hl, hp⟩ := exists_list (P := fun i (x : RoleV) => (∃ b o, a = some ⟨b, o, none⟩ ∧ w.cell? ⟨b, o + i * 2, none⟩ = some (.int .i64 x.need) ∧ w.cell? ⟨b, o + i * 2 + 1, none⟩ = some (.slice x.ka x.ks.length x.kc) ∧ AI w x.ka x.ks) ∧ RoleW x) n (fun i hi => by
    obtain ⟨b, o, cs, ha, hlen, hcs, x, rfl, hx, hy⟩ := h4 i hi
    exact ⟨x, ⟨b, o, ha, hcs 0 (by decide), hcs 1 (by decide), hx⟩, hy⟩)
  refine ⟨l, hl, fun i hi => (hp i hi).1, fun x hx => ?_⟩
  obtain ⟨i, hi, rfl⟩ := List.mem_iff_getElem.1 hx
  exact (hp i hi).2
set_option maxRecDepth 100000 in
theorem lifted (os : Os) (started : os.Started) (H : Type) (enc : TypeId × Value → H) :
    ReturnsInHanded {} Try.checked os 4 .any (Rows.fnExactRootBytesSpec.pre6 enc Try.prog Try.f4 Rows.fnExactRootBytesRow.domain false) (Rows.fnExactRootBytesSpec.post enc Try.prog Try.f4 false true false false) := by
  refine returnsInHanded_of_change (C := Try.checked) own started (by kernel_rfl) Try.func4
    (ChangeSpec.witness6 (enc := enc) (C := Try.checked) false ⟨#[], #[.agg #[.int .i64 0, .int .i64 0, .slice none 0 0]], []⟩ 8 (by kernel_rfl) (by kernel_rfl) (by kernel_rfl) (by kernel_rfl)) ?_
  intro W base args ds gs before hval0 hW hcnd _
  have hval : ∀ (j : Nat) t v, Try.f4.params[j]? = some t → args[j]? = some v → Value.okWide Try.prog W .any base t v := hval0
  have hW' := hW
  obtain ⟨p, q, hA0, hV, rfl, hfz, hnd⟩ := hW
  have hA : DataW.TrodAll enc Try.prog W 0 (fun _ => true) true Try.f4.params.toList args.toList ds p := hA0
  rw [Try.params4] at hA hval
  obtain ⟨v0, vs0, d0, ds0, p0, q0, hargs, rfl, rfl, h0, r0⟩ := trodAll_cons hA
  obtain ⟨rfl, rfl, rfl⟩ := trodAll_nil r0
  obtain rfl : args = #[v0] := by cases args; simp_all
  obtain ⟨rfl, rfl⟩ := trodVars_none hV
  have k0 := h0
  have lt0 : ∀ x ∈ p0, x.block < W.heap.size := by obtain ⟨m, hm⟩ := k0; exact DataW.trod_lt m _ _ _ hm
  obtain ⟨c0, c1, c2, y0, y1, y2, m, rfl, rfl, rfl, hy0, hy1, hy2⟩ := open_agg3 Try.underlying24 (by kernel_rfl) (by kernel_rfl) (hval 0 24 v0 rfl rfl) h0
  obtain ⟨k, hk1, _, hk2⟩ := DataW.trod_int Try.underlying2 hy0
  obtain ⟨x, hx1, _, hx2⟩ := DataW.trod_int Try.underlying2 hy1
  injection hk1 with hk1
  injection hx1 with hx1
  subst hk1 hx1
  obtain ⟨a, n, c, hc1, hnc, hcm, hEA⟩ := rls_arg hy2
  injection hc1 with hc1
  subst hc1
  obtain ⟨l, hl, hat, hw⟩ := hEA
  clear hA0 hval0
  refine (lawRootBytes k x a c n l W hl hat (Nat.le_trans hnc hcm) hw hk2 hx2).mono fun e W' ⟨he, bel⟩ => ?_
  subst he
  exact ⟨_, rfl, _, _, _, [], _, [], hW', trodAll_mk1 (shut_bool Try.underlying4 _), trodAll_cons_mk (Below.trod laidOut (by kernel_rfl) (of_decide_eq_true (by kernel_rfl)) k0 bel lt0) trodAll_mk0, rfl, bel.frame _, fun h => by cases h⟩

theorem over : Rows.fnExactRootBytesRow.holds Try.pinned (OpenSpec.ofChange Rows.fnExactRootBytesSpec) :=
  OpenClaim.holds_of_wide 4 Try.f4 rfl rfl rfl rfl rfl rfl rfl ⟨rfl, rfl, rfl, rfl, rfl⟩ rfl rfl rfl rfl rfl (by kernel_rfl) Try.func4 (by kernel_rfl)
    (of_decide_eq_true (by kernel_rfl)) (by unfold Func.isWrapper; first | (rw [if_pos (by decide +kernel)]; kernel_rfl) | (rw [if_neg (by decide +kernel)]; exact ⟨rfl, rfl⟩))
    (fun os started H enc _ => lifted os started H enc)
end Go.Proofs.Ytnlalnkoggkdfaa.fnExactRootBytes
namespace Go.Proofs.Ytnlalnkoggkdfaa
theorem fnExactRootBytes_holds : Rows.FnExactRootBytesSaid := fnExactRootBytes.over
end Go.Proofs.Ytnlalnkoggkdfaa
