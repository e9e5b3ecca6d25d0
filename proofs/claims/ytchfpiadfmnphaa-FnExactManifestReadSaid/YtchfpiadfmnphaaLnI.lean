/- The program's reader of a link. -/
import Derived.Test.YtchfpiadfmnphaaJn7
import Derived.Test.YtchfpiadfmnphaaMetI
namespace Go.Proofs.Ytchfpiadfmnphaa
open Go.RowKit
set_option linter.unusedVariables false

theorem i64n {n : Nat} (h : n ≤ 9223372036854775807) : I64 (n : Int) := by
  unfold I64
  simp [Lit.wf, IntKind.min, IntKind.max, IntKind.signed, IntKind.bits]
  omega
def numO (t : ByteArray) (p : Nat) : Option (Int × Nat) := if (getN t p).code = 0 then some ((getN t p).n, (getN t p).behind.toNat) else none
theorem numO_some {t : ByteArray} {p b : Nat} {n : Int} (h : numO t p = some (n, b)) : getN t p = ⟨n, b, 0⟩ ∧ b ≤ t.size ∧ t.size ≤ 20000 := by
  unfold numO at h
  rcases getN_ways t p with ⟨c, hc, hg⟩ | ⟨m, d, hg, h1, h2⟩
  · rw [hg, if_neg hc] at h; cases h
  · rw [hg, if_pos rfl] at h
    have := Option.some.inj h
    injection this with e1 e2
    simp at e1 e2
    subst e1 e2
    exact ⟨hg, h1, h2⟩
theorem numO_none {t : ByteArray} {p : Nat} (h : numO t p = none) : ∃ c, c ≠ 0 ∧ getN t p = ⟨0, 0, c⟩ := by
  unfold numO at h
  rcases getN_ways t p with ⟨c, hc, hg⟩ | ⟨m, d, hg, h1, h2⟩
  · exact ⟨c, hc, hg⟩
  · rw [hg, if_pos rfl] at h; cases h
theorem numYes (g p b : Nat) (t : ByteArray) (n : Int) (w : World) (hs : t.size ≤ maxLen) (hn : numO t p = some (n, b) ∧ p ≤ t.size) (h : RowV w g (cuv t p)) :
    Calls Try.prog 112 #[.pointer (some ⟨g, 0, none⟩)] w fun e w' => e = .returned (.int .i64 n) ∧ RowV w' g (cuv t b) ∧ Only g w w' :=
  numberYes g b t p n w (i64n (by unfold maxLen at hs; omega)) hs (numO_some hn.1).1 h
theorem numNo (g p : Nat) (t : ByteArray) (w : World) (hs : t.size ≤ maxLen) (hn : numO t p = none) (hp : p ≤ t.size) (h : RowV w g (cuv t p)) :
    Calls Try.prog 112 #[.pointer (some ⟨g, 0, none⟩)] w fun e w' => e = .panicked [{ v := faultV, recovered := false }] ∧ Only g w w' := by
  obtain ⟨c, hc, hg⟩ := numO_none hn
  exact numberNo g t p c w (i64n (by unfold maxLen at hs; omega)) hs hc hg h
theorem lkv_one (v e x : Int) : ∀ y ∈ lkv v e x, y.oneCell' = true := by
  intro y hy
  simp [lkv] at hy
  rcases hy with h | h | h <;> (rw [h]; rfl)
theorem KpM.apartN {g b : Nat} {r l : List Value} {w w' : World} (h : Hid (KpM g r [(b, l)] w w')) : b < w'.heap.size := (h.out.own _ (List.mem_cons_self ..)).2.2.lt (h.out.own _ (List.mem_cons_self ..)).2.1
theorem one_apart {b c : Nat} {l : List Value} (h : b < c) : ∀ x ∈ [(b, l)], x.1 ≠ c := fun x hx => by
  obtain rfl := List.mem_singleton.1 hx
  exact Nat.ne_of_lt h
/- The last store goes into the call's own variable: what a caller knows. -/
theorem KpM.putOf {g b : Nat} {r l l' : List Value} {rows : List (Nat × List Value)} {w w' w2 : World} (h : Hid (KpM g r ((b, l) :: rows) w w')) (hr : RowV w2 b l') (hn : l' ≠ []) (ho : Only b w' w2) : RowV w2 g r ∧ Only g w w2 := by
  have h1 := h.out.own (b, l) (List.mem_cons_self ..)
  have hb : w.heap.size ≤ b := h1.1
  have hg := h.out.lt
  refine ⟨ho.row h.out.row h.out.ne (by omega), ⟨h.out.only.below.trans (ho.below.mono (by omega)), fun x hx hl => ?_, Nat.le_trans h.out.only.size ho.size⟩⟩
  have h2 := h.out.only.blk x hx hl
  have h3 := ho.blk x (by omega) (Nat.lt_of_lt_of_le hl h.out.only.size)
  exact h3.trans h2
end Go.Proofs.Ytchfpiadfmnphaa
