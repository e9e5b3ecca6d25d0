/- For every Hash the program's HashRight answers as the specification's, and the law FnExactHashRight answers true; no condition. -/
import Derived.Test.YtdajddaifmgghaaRows
import Derived.Test.YtdajddaifmgghaaRightL
import Derived.WalkKit
import Derived.ProofKit
import Derived.OpenShut
import Derived.ShutString
import Derived.Below
import Derived.ChangeOld
import Derived.Carry
import Derived.Lib.SmallJoins
namespace Go.Proofs.Ytdajddaifmgghaa.fnExactHashRight
open Go.ChangeShapes Go.WideShapes Go.ChangeAt Go.RowKit Go.Joins
open Go.ChangeMaps (open_string shut_string)
set_option linter.unusedVariables false

theorem own : ownKnob Try.prog.godebug = none := by kernel_rfl
theorem laidOut : laidOutB Try.prog = true := by kernel_rfl
theorem ai_of_row {W : World} {x : Addr} {len c : Nat} {zs : List Int} (hl : len ≤ c) (hz : zs.length = c) (hcell : ∀ i, i < zs.length → W.cell? (x.add i) = some (.int .i64 (zs.getD i 0))) : AI W (some x) (zs.take len) := by
  intro k hk
  have hk' : k < zs.length := by rw [List.length_take] at hk; omega
  have hc := hcell k hk'
  obtain ⟨b, o, sp⟩ := x
  have hsp : sp = none := by
    have h0 := World.cell?_spot (hcell 0 (by omega))
    simpa [Addr.add] using h0
  subst hsp
  have he : (⟨b, o, none⟩ : Addr).add k = ⟨b, o + k, none⟩ := by unfold Addr.add; split <;> simp_all
  rw [he] at hc
  refine ⟨b, o, rfl, ?_⟩
  rw [hc, List.getD_eq_getElem?_getD, List.getElem?_eq_getElem hk', Option.getD_some, List.getElem_take]

set_option maxRecDepth 100000 in
theorem lifted (os : Os) (started : os.Started) (H : Type) (enc : TypeId × Value → H) :
    ReturnsInHanded {} Try.checked os 4 .any (Rows.fnExactHashRightSpec.pre6 enc Try.prog Try.f4 Rows.fnExactHashRightRow.domain false) (Rows.fnExactHashRightSpec.post enc Try.prog Try.f4 false true false false) := by
  refine returnsInHanded_of_change (C := Try.checked) own started (by kernel_rfl) Try.func4
    (ChangeSpec.witness6 (enc := enc) (C := Try.checked) false ⟨#[], #[.agg #[.slice none 0 0, .string ByteArray.empty, .int .i64 0]], []⟩ 8 (by kernel_rfl) (by kernel_rfl) (by kernel_rfl) (by kernel_rfl)) ?_
  intro W base args ds gs before hval0 hW hcnd _
  have hval : ∀ (j : Nat) t v, Try.f4.params[j]? = some t → args[j]? = some v → Value.okWide Try.prog W .any base t v := hval0
  have hW' := hW
  obtain ⟨p, q, hA0, hV, rfl, hfz, hnd⟩ := hW
  have hA : DataW.TrodAll enc Try.prog W 0 (fun _ => true) true Try.f4.params.toList args.toList ds p := hA0
  rw [Try.params4] at hA hval
  obtain ⟨v0, vs0, d0, ds0, p0, q0, hargs, rfl, rfl, h0, r0⟩ := trodAll_cons hA
  obtain ⟨rfl, rfl, rfl⟩ := trodAll_nil r0
  obtain rfl : args = #[v0] := by cases args; simp_all
  obtain ⟨rfl, rfl⟩ := trodVars_none hV
  have k0 := h0
  have lt0 : ∀ x ∈ p0, x.block < W.heap.size := by obtain ⟨m, hm⟩ := k0; exact DataW.trod_lt m _ _ _ hm
  obtain ⟨c0, c1, c2, y0, y1, y2, m, rfl, rfl, rfl, hy0, hy1, hy2⟩ := open_agg3 Try.underlying29 (by kernel_rfl) (by kernel_rfl) (hval 0 29 v0 rfl rfl) h0
  obtain ⟨s, hs1, _, hs2⟩ := DataW.trod_string Try.underlying9 hy1
  obtain ⟨z, hz1, _, hz2⟩ := DataW.trod_int Try.underlying2 hy2
  injection hs1 with hs1
  injection hz1 with hz1
  subst hs1 hz1
  have key : ∃ (a : Option Addr) (n c : Nat) (l : List Int), c0 = .slice a n c ∧ l.length = n ∧ AI W a l ∧ n ≤ maxLen := by
    rcases open_ints Try.underlying22 Try.underlying2 (by kernel_rfl) hy0 with ⟨hcs, _⟩ | ⟨x, len, c, zs, hcs, _, hl, hm, hz, _, hcell, hwz⟩
    · injection hcs with hcs
      exact ⟨none, 0, 0, [], hcs, rfl, fun k hk => absurd hk (Nat.not_lt_zero _), Nat.zero_le _⟩
    · injection hcs with hcs
      have hz' : zs.length = c := by simpa using hz
      exact ⟨some x, len, c, zs.take len, hcs, by rw [List.length_take]; omega, ai_of_row hl hz' hcell, Nat.le_trans hl hm⟩
  obtain ⟨a, n, c, l, rfl, hn, hai, hmx⟩ := key
  clear hA0 hval0
  refine (lawHashRight a c n l s z W hn hai hmx hs2).mono fun e W' ⟨he, bel⟩ => ?_
  subst he
  exact ⟨_, rfl, _, _, _, [], _, [], hW', trodAll_mk1 (shut_bool Try.underlying4 _), trodAll_cons_mk (Below.trod laidOut (by kernel_rfl) (of_decide_eq_true (by kernel_rfl)) k0 bel lt0) trodAll_mk0, rfl, bel.frame _, fun h => by cases h⟩

theorem over : Rows.fnExactHashRightRow.holds Try.pinned (OpenSpec.ofChange Rows.fnExactHashRightSpec) :=
  OpenClaim.holds_of_wide 4 Try.f4 rfl rfl rfl rfl rfl rfl rfl ⟨rfl, rfl, rfl, rfl, rfl⟩ rfl rfl rfl rfl rfl (by kernel_rfl) Try.func4 (by kernel_rfl)
    (of_decide_eq_true (by kernel_rfl)) (by unfold Func.isWrapper; first | (rw [if_pos (by decide +kernel)]; kernel_rfl) | (rw [if_neg (by decide +kernel)]; exact ⟨rfl, rfl⟩))
    (fun os started H enc _ => lifted os started H enc)
end Go.Proofs.Ytdajddaifmgghaa.fnExactHashRight
namespace Go.Proofs.Ytdajddaifmgghaa
theorem fnExactHashRight_holds : Rows.FnExactHashRightSaid := fnExactHashRight.over
end Go.Proofs.Ytdajddaifmgghaa
