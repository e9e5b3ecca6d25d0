/- A trust among the arguments of a law, as its statement reads it. For every Root the program's TrustNew answers as the specification's, and the law FnExactTrustNew answers true; no condition. -/
import Derived.Test.YtdfglpbappeoaaaArg
import Derived.Test.YtdfglpbappeoaaaTrA
import Derived.ProofKit
import Derived.OpenShut
import Derived.ShutString
import Derived.ChangeOld
import Derived.Below
import Derived.Lib.SmallJoins
import Derived.Test.YtdfglpbappeoaaaRows
import Derived.Test.YtdfglpbappeoaaaTnL
import Derived.WalkKit
import Derived.Carry
namespace Go.Proofs.Ytdfglpbappeoaaa
open Go.RowKit Go.ChangeShapes Go.WideShapes Go.ChangeAt Go.Joins
open Go.ChangeMaps (open_string shut_string)
set_option linter.unusedVariables false

theorem intsT_arg {H : Type} {enc : TypeId × Value → H} {w : World} {base : Nat} {spare : Nat → Bool} {held : Bool} {fuel : Nat} {cs : List Value} {x : DataW H × List MemPlace} (h : DataW.trod enc Try.prog w base spare held fuel 93 cs = some x) :
    ∃ (a : Option Addr) (n c : Nat), cs = [.slice a n c] ∧ n ≤ c ∧ c ≤ maxLen ∧ ∃ l : List Int, l.length = n ∧ AI w a l ∧ ∀ x ∈ l, I64 x := by
  obtain ⟨a, n, c, h1, h2, h3, h4⟩ := open_elems (k := 1) Try.underlying93 (by kernel_rfl) (by decide) (fun cs => ∃ x : Int, cs = [.int .i64 x] ∧ I64 x) (fun fuel cs y hy => by
    obtain ⟨z0, e0, _, w0⟩ := DataW.trod_int Try.underlying2 hy
    exact ⟨z0, e0, w0⟩) h
  refine ⟨a, n, c, h1, h2, h3, ?_⟩
  obtain ⟨l, hl, hp⟩ := exists_list (P := fun i (x : Int) => (∃ b o, a = some ⟨b, o, none⟩ ∧ w.cell? ⟨b, o + i, none⟩ = some (.int .i64 x)) ∧ I64 x) n (fun i hi => by
    obtain ⟨b, o, cs, ha, hlen, hcs, x, rfl, hx⟩ := h4 i hi
    have := hcs 0 (by decide)
    rw [Nat.mul_one, Nat.add_zero] at this
    exact ⟨x, ⟨b, o, ha, this⟩, hx⟩)
  refine ⟨l, hl, fun i hi => (hp i hi).1, fun x hx => ?_⟩
  obtain ⟨i, hi, rfl⟩ := List.mem_iff_getElem.1 hx
  exact (hp i hi).2
theorem rlsT_arg {H : Type} {enc : TypeId × Value → H} {w : World} {base : Nat} {spare : Nat → Bool} {held : Bool} {fuel : Nat} {cs : List Value} {x : DataW H × List MemPlace} (h : DataW.trod enc Try.prog w base spare held fuel 22 cs = some x) :
    ∃ (a : Option Addr) (n c : Nat), cs = [.slice a n c] ∧ n ≤ c ∧ c ≤ maxLen ∧ ∃ l : List RoleV, l.length = n ∧ RlsAt w a l ∧ ∀ x ∈ l, RoleW x := by
  obtain ⟨a, n, c, h1, h2, h3, h4⟩ := open_elems (k := 2) Try.underlying22 (by kernel_rfl) (by decide) (fun cs => ∃ x : RoleV, cs = rlv x.need x.ka x.ks.length x.kc ∧ AI w x.ka x.ks ∧ RoleW x) (fun fuel cs y hy => by
    obtain ⟨c0, c1, y0, y1, n, rfl, k0, k1⟩ := cells2 Try.underlying122 (by kernel_rfl) (by kernel_rfl) hy
    obtain ⟨z0, e0, _, w0⟩ := DataW.trod_int Try.underlying2 k0
    obtain ⟨ka, m, kc, e1, hm1, hm2, ks, hks, hai, hw⟩ := intsT_arg k1
    injection e0 with e0
    injection e1 with e1
    subst e0 e1
    subst hks
    exact ⟨⟨z0, ka, kc, ks⟩, rfl, hai, w0, Nat.le_trans hm1 hm2, hw⟩) h
  refine ⟨a, n, c, h1, h2, h3, ?_⟩
  obtain ⟨l, hl, hp⟩ := exists_list (P := fun i (x : RoleV) => (∃ b o, a = some ⟨b, o, none⟩ ∧ w.cell? ⟨b, o + i * 2, none⟩ = some (.int .i64 x.need) ∧ w.cell? ⟨b, o + i * 2 + 1, none⟩ = some (.slice x.ka x.ks.length x.kc) ∧ AI w x.ka x.ks) ∧ RoleW x) n (fun i hi => by
    obtain ⟨b, o, cs, ha, hlen, hcs, x, rfl, hx, hy⟩ := h4 i hi
    exact ⟨x, ⟨b, o, ha, hcs 0 (by decide), hcs 1 (by decide), hx⟩, hy⟩)
  refine ⟨l, hl, fun i hi => (hp i hi).1, fun x hx => ?_⟩
  obtain ⟨i, hi, rfl⟩ := List.mem_iff_getElem.1 hx
  exact (hp i hi).2
theorem rt_cells {H : Type} {enc : TypeId × Value → H} {w : World} {base : Nat} {spare : Nat → Bool} {held : Bool} {fuel : Nat} {cs : List Value} {x : DataW H × List MemPlace} (h : DataW.trod enc Try.prog w base spare held fuel 24 cs = some x) :
    ∃ (v e : Int) (a : Option Addr) (n c : Nat), cs = rtv v e a n c ∧ n ≤ c ∧ c ≤ maxLen ∧ I64 v ∧ I64 e ∧ ∃ l : List RoleV, l.length = n ∧ RlsAt w a l ∧ ∀ x ∈ l, RoleW x := by
  obtain ⟨c0, c1, c2, y0, y1, y2, m, rfl, hy0, hy1, hy2⟩ := cells3 Try.underlying24 (by kernel_rfl) (by kernel_rfl) h
  obtain ⟨k, hk1, _, hk2⟩ := DataW.trod_int Try.underlying2 hy0
  obtain ⟨x, hx1, _, hx2⟩ := DataW.trod_int Try.underlying2 hy1
  injection hk1 with hk1
  injection hx1 with hx1
  subst hk1 hx1
  obtain ⟨a, n, c, hc1, hnc, hcm, hEA⟩ := rlsT_arg hy2
  injection hc1 with hc1
  subst hc1
  exact ⟨k, x, a, n, c, rfl, hnc, hcm, hk2, hx2, hEA⟩
theorem hd_cells {H : Type} {enc : TypeId × Value → H} {w : World} {base : Nat} {spare : Nat → Bool} {held : Bool} {fuel : Nat} {cs : List Value} {x : DataW H × List MemPlace} (h : DataW.trod enc Try.prog w base spare held fuel 53 cs = some x) :
    ∃ (v : Int) (e : ByteArray) (y : Int), cs = hdv v e y ∧ I64 v ∧ e.size ≤ maxLen ∧ I64 y := by
  obtain ⟨c0, c1, c2, y0, y1, y2, m, rfl, hy0, hy1, hy2⟩ := cells3 Try.underlying53 (by kernel_rfl) (by kernel_rfl) h
  obtain ⟨k, hk1, _, hk2⟩ := DataW.trod_int Try.underlying2 hy0
  obtain ⟨x, hx1, _, hx2⟩ := DataW.trod_string Try.underlying9 hy1
  obtain ⟨s, hs1, _, hs2⟩ := DataW.trod_int Try.underlying2 hy2
  injection hk1 with hk1
  injection hx1 with hx1
  injection hs1 with hs1
  subst hk1 hx1 hs1
  exact ⟨k, x, s, rfl, hk2, hx2, hs2⟩
theorem Try.trC0 : Try.prog.cellsOf 24 = 3 := by kernel_rfl
theorem Try.trC4 : Try.prog.cellsOf 53 = 3 := by kernel_rfl
structure TruI (u : TruU) : Prop where
  rv : I64 u.rv
  re : I64 u.re
  t1 : I64 u.t1
  t2 : I64 u.t2
  t3 : I64 u.t3
  s1 : I64 u.s1
  s2 : I64 u.s2
  s3 : I64 u.s3
  gv : I64 u.gv
  ge : I64 u.ge
  hs : I64 u.hs
  ht : I64 u.ht
set_option maxRecDepth 100000 in
theorem cut15 {l : List Value} {a b c d e : List Value} (hl : l.length = 15) (h0 : (l.drop 0).take 3 = a) (h1 : (l.drop 3).take 3 = b) (h2 : (l.drop 6).take 3 = c) (h3 : (l.drop 9).take 3 = d) (h4 : (l.drop 12).take 3 = e) : l = a ++ (b ++ (c ++ (d ++ e))) := by
  subst h0 h1 h2 h3 h4
  match l, hl with
  | [_, _, _, _, _, _, _, _, _, _, _, _, _, _, _], _ => rfl
end Go.Proofs.Ytdfglpbappeoaaa
namespace Go.Proofs.Ytdfglpbappeoaaa.fnExactTrustNew
open Go.ChangeShapes Go.WideShapes Go.ChangeAt Go.RowKit Go.Joins
open Go.ChangeMaps (open_string shut_string)
set_option linter.unusedVariables false

theorem own : ownKnob Try.prog.godebug = none := by kernel_rfl
theorem laidOut : laidOutB Try.prog = true := by kernel_rfl
set_option maxRecDepth 100000 in
theorem lifted (os : Os) (started : os.Started) (H : Type) (enc : TypeId × Value → H) :
    ReturnsInHanded {} Try.checked os 3 .any (Rows.fnExactTrustNewSpec.pre6 enc Try.prog Try.f3 Rows.fnExactTrustNewRow.domain false) (Rows.fnExactTrustNewSpec.post enc Try.prog Try.f3 false true false false) := by
  refine returnsInHanded_of_change (C := Try.checked) own started (by kernel_rfl) Try.func3
    (ChangeSpec.witness6 (enc := enc) (C := Try.checked) false ⟨#[], #[.agg #[.int .i64 0, .int .i64 0, .slice none 0 0]], []⟩ 8 (by kernel_rfl) (by kernel_rfl) (by kernel_rfl) (by kernel_rfl)) ?_
  intro W base args ds gs before hval0 hW hcnd _
  have hval : ∀ (j : Nat) t v, Try.f3.params[j]? = some t → args[j]? = some v → Value.okWide Try.prog W .any base t v := hval0
  have hW' := hW
  obtain ⟨p, q, hA0, hV, rfl, hfz, hnd⟩ := hW
  have hA : DataW.TrodAll enc Try.prog W 0 (fun _ => true) true Try.f3.params.toList args.toList ds p := hA0
  rw [Try.params3] at hA hval
  obtain ⟨v0, vs0, d0, ds0, p0, q0, hargs, rfl, rfl, h0, r0⟩ := trodAll_cons hA
  obtain ⟨rfl, rfl, rfl⟩ := trodAll_nil r0
  obtain rfl : args = #[v0] := by cases args; simp_all
  have k0 := h0
  have lt0 : ∀ x ∈ p0, x.block < W.heap.size := by obtain ⟨m, hm⟩ := k0; exact DataW.trod_lt m _ _ _ hm
  obtain ⟨c00, c01, c02, y00, y01, y02, m0, rfl, rfl, rfl, hy00, hy01, hy02⟩ := open_agg3 Try.underlying24 (by kernel_rfl) (by kernel_rfl) (hval 0 24 v0 rfl rfl) h0
  obtain ⟨a00, e00, _, w00⟩ := DataW.trod_int Try.underlying2 hy00
  injection e00 with e00
  obtain ⟨a01, e01, _, w01⟩ := DataW.trod_int Try.underlying2 hy01
  injection e01 with e01
  subst e00 e01
  obtain ⟨ra0, rn0, rc0, hc0, hnc0, hcm0, hEA0⟩ := rlsT_arg hy02
  injection hc0 with hc0
  subst hc0
  obtain ⟨rs0, hl0, hat0, hw0⟩ := hEA0
  obtain ⟨rfl, rfl⟩ := trodVars_none hV
  clear hA0 hval0
  refine (lawTrustNew a00 a01 ra0 rc0 rn0 rs0 W hl0 hat0 (Nat.le_trans hnc0 hcm0) hw0).mono fun e W' ⟨he, bel⟩ => ?_
  subst he
  exact ⟨_, rfl, _, _, _, [], _, [], hW', trodAll_mk1 (shut_bool Try.underlying4 _), (trodAll_cons_mk (Below.trod laidOut (by kernel_rfl) (of_decide_eq_true (by kernel_rfl)) k0 bel lt0) trodAll_mk0), rfl, bel.frame _, fun h => by cases h⟩

theorem over : Rows.fnExactTrustNewRow.holds Try.pinned (OpenSpec.ofChange Rows.fnExactTrustNewSpec) :=
  OpenClaim.holds_of_wide 3 Try.f3 rfl rfl rfl rfl rfl rfl rfl ⟨rfl, rfl, rfl, rfl, rfl⟩ rfl rfl rfl rfl rfl (by kernel_rfl) Try.func3 (by kernel_rfl)
    (of_decide_eq_true (by kernel_rfl)) (by unfold Func.isWrapper; first | (rw [if_pos (by decide +kernel)]; kernel_rfl) | (rw [if_neg (by decide +kernel)]; exact ⟨rfl, rfl⟩))
    (fun os started H enc _ => lifted os started H enc)
end Go.Proofs.Ytdfglpbappeoaaa.fnExactTrustNew
namespace Go.Proofs.Ytdfglpbappeoaaa
theorem fnExactTrustNew_holds : Rows.FnExactTrustNewSaid := fnExactTrustNew.over
end Go.Proofs.Ytdfglpbappeoaaa
