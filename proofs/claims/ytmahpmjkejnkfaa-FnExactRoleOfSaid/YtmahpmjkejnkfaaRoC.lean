/- For every number and every list of numbers the program's RoleOf answers as the specification's, and the law FnExactRoleOf answers true; no condition. -/
import Derived.Test.YtmahpmjkejnkfaaRows
import Derived.Test.YtmahpmjkejnkfaaLawRo
import Derived.Test.YtmahpmjkejnkfaaArg
import Derived.WalkKit
import Derived.ProofKit
import Derived.OpenShut
import Derived.ShutString
import Derived.Below
import Derived.ChangeOld
import Derived.Carry
import Derived.Lib.SmallJoins
namespace Go.Proofs.Ytmahpmjkejnkfaa.fnExactRoleOf
open Go.ChangeShapes Go.WideShapes Go.ChangeAt Go.RowKit Go.Joins
open Go.ChangeMaps (open_string shut_string)
set_option linter.unusedVariables false

theorem own : ownKnob Try.prog.godebug = none := by kernel_rfl
theorem laidOut : laidOutB Try.prog = true := by kernel_rfl
theorem ints_cells {H : Type} {enc : TypeId × Value → H} {w : World} {base : Nat} {spare : Nat → Bool} {held : Bool} {fuel : Nat} {cs : List Value} {x : DataW H × List MemPlace} (h : DataW.trod enc Try.prog w base spare held fuel 50 cs = some x) :
    ∃ (a : Option Addr) (n c : Nat), cs = [.slice a n c] ∧ n ≤ c ∧ c ≤ maxLen ∧ ∃ l : List Int, l.length = n ∧ AI w a l ∧ ∀ x ∈ l, I64 x := by
  obtain ⟨a, n, c, h1, h2, h3, h4⟩ := open_elems (k := 1) Try.underlying50 (by kernel_rfl) (by decide) (fun cs => ∃ x : Int, cs = [.int .i64 x] ∧ I64 x) (fun fuel cs y hy => by
    obtain ⟨z0, e0, _, w0⟩ := DataW.trod_int Try.underlying2 hy
    exact ⟨z0, e0, w0⟩) h
  refine ⟨a, n, c, h1, h2, h3, ?_⟩
  obtain ⟨l, hl, hp⟩ := exists_list (P := fun i (x : Int) => (∃ b o, a = some ⟨b, o, none⟩ ∧ w.cell? ⟨b, o + i, none⟩ = some (.int .i64 x)) ∧ I64 x) n (fun i hi => by
    obtain ⟨b, o, cs, ha, hlen, hcs, x, rfl, hx⟩ := h4 i hi
    have := hcs 0 (by decide)
    rw [Nat.mul_one, Nat.add_zero] at this
    exact ⟨x, ⟨b, o, ha, this⟩, hx⟩)
  refine ⟨l, hl, fun i hi => (hp i hi).1, fun x hx => ?_⟩
  obtain ⟨i, hi, rfl⟩ := List.mem_iff_getElem.1 hx
  exact (hp i hi).2
set_option maxRecDepth 100000 in
theorem ints_arg {H : Type} {enc : TypeId × Value → H} {W : World} {base : Nat} {v : Value} {d : DataW H} {p : List MemPlace} (hv : Value.okWide Try.prog W .any base 50 v)
    (h : DataW.Trod enc Try.prog W 0 (fun _ => true) true 50 v d p) :
    ∃ (a : Option Addr) (c n : Nat) (l : List Int), v = .slice a n c ∧ l.length = n ∧ AI W a l ∧ n ≤ maxLen ∧ ∀ x ∈ l, I64 x := by
  obtain ⟨a, nn, cc, rfl⟩ := okWide_slice Try.underlying50 hv
  obtain ⟨fuel, hf⟩ := h
  obtain ⟨a', n', c', hcs, h1, h2, l, hl, hai, hw⟩ := ints_cells hf
  simp [Value.cells] at hcs
  obtain ⟨rfl, rfl, rfl⟩ := hcs
  exact ⟨_, _, _, l, rfl, hl, hai, Nat.le_trans h1 h2, hw⟩
set_option maxRecDepth 100000 in
theorem lifted (os : Os) (started : os.Started) (H : Type) (enc : TypeId × Value → H) :
    ReturnsInHanded {} Try.checked os 6 .any (Rows.fnExactRoleOfSpec.pre6 enc Try.prog Try.f6 Rows.fnExactRoleOfRow.domain false) (Rows.fnExactRoleOfSpec.post enc Try.prog Try.f6 false true false false) := by
  refine returnsInHanded_of_change (C := Try.checked) own started (by kernel_rfl) Try.func6
    (ChangeSpec.witness6 (enc := enc) (C := Try.checked) false ⟨#[], #[.int .i64 0, .slice none 0 0], []⟩ 8 (by kernel_rfl) (by kernel_rfl) (by kernel_rfl) (by kernel_rfl)) ?_
  intro W base args ds gs before hval0 hW hcnd _
  have hval : ∀ (j : Nat) t v, Try.f6.params[j]? = some t → args[j]? = some v → Value.okWide Try.prog W .any base t v := hval0
  have hW' := hW
  obtain ⟨p, q, hA0, hV, rfl, hfz, hnd⟩ := hW
  have hA : DataW.TrodAll enc Try.prog W 0 (fun _ => true) true Try.f6.params.toList args.toList ds p := hA0
  rw [Try.params6] at hA hval
  obtain ⟨v0, vs0, d0, ds0, p0, q0, hargs, rfl, rfl, h0, r0⟩ := trodAll_cons hA
  obtain ⟨v1, vs1, d1, ds1, p1, q1, rfl, rfl, rfl, h1, r1⟩ := trodAll_cons r0
  obtain ⟨rfl, rfl, rfl⟩ := trodAll_nil r1
  obtain rfl : args = #[v0, v1] := by cases args; simp_all
  obtain ⟨rfl, rfl⟩ := trodVars_none hV
  obtain ⟨a0, rfl, rfl, rfl, w0⟩ := open_int Try.underlying2 (hval 0 2 v0 rfl rfl) h0
  have k1 := h1
  have lt1 : ∀ x ∈ p1, x.block < W.heap.size := by obtain ⟨m, hm⟩ := k1; exact DataW.trod_lt m _ _ _ hm
  obtain ⟨ia, ic, inn, il, rfl, he, hai, hm, hx⟩ := ints_arg (hval 1 50 v1 rfl rfl) h1
  clear hA0 hval0
  refine (lawRoleOf a0 ia ic inn il W w0 he hai hm hx).mono fun e W' ⟨he, bel⟩ => ?_
  subst he
  exact ⟨_, rfl, _, _, _, [], _, [], hW', trodAll_mk1 (shut_bool Try.underlying4 _), trodAll_cons_mk (shut_int Try.underlying2 w0) (trodAll_cons_mk (Below.trod laidOut (by kernel_rfl) (of_decide_eq_true (by kernel_rfl)) k1 bel lt1) trodAll_mk0), rfl, bel.frame _, fun h => by cases h⟩

theorem over : Rows.fnExactRoleOfRow.holds Try.pinned (OpenSpec.ofChange Rows.fnExactRoleOfSpec) :=
  OpenClaim.holds_of_wide 6 Try.f6 rfl rfl rfl rfl rfl rfl rfl ⟨rfl, rfl, rfl, rfl, rfl⟩ rfl rfl rfl rfl rfl (by kernel_rfl) Try.func6 (by kernel_rfl)
    (of_decide_eq_true (by kernel_rfl)) (by unfold Func.isWrapper; first | (rw [if_pos (by decide +kernel)]; kernel_rfl) | (rw [if_neg (by decide +kernel)]; exact ⟨rfl, rfl⟩))
    (fun os started H enc _ => lifted os started H enc)
end Go.Proofs.Ytmahpmjkejnkfaa.fnExactRoleOf
namespace Go.Proofs.Ytmahpmjkejnkfaa
theorem fnExactRoleOf_holds : Rows.FnExactRoleOfSaid := fnExactRoleOf.over
end Go.Proofs.Ytmahpmjkejnkfaa
