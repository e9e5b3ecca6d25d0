/- Numbers that an int64 holds. The number that stands at a place of a text, said once: what both GetNum functions answer. Plain mathematics: no program. A scope with three labels: of two of them the run, once there, jumps on to labels that stand nearer the end, the third one is jumped back to; a number falls by each jump back. -/
import Derived.Test.YtchfpiadfmnphaaDoorRows
import Derived.WalkKit
import Derived.ProofKit
import Derived.WalkMore
import Derived.ScopeJumps
namespace Go.Proofs.YtchfpiadfmnphaaDoor
open Go.RowKit
set_option linter.unusedVariables false

def I64 (n : Int) : Prop := (Lit.int .i64 n).wf = true
theorem I64.bd {n : Int} (h : I64 n) : -9223372036854775808 ≤ n ∧ n ≤ 9223372036854775807 := by
  unfold I64 at h
  simpa [Lit.wf, IntKind.min, IntKind.max, IntKind.signed, IntKind.bits] using h
end Go.Proofs.YtchfpiadfmnphaaDoor
namespace Go.Proofs.YtchfpiadfmnphaaDoor
open Go.RowKit
set_option linter.unusedVariables false

structure G where
  n : Int
  behind : Int
  code : Int
def unf (u : Nat) : Int := if u % 2 = 0 then ((u / 2 : Nat) : Int) else -((u / 2 : Nat) : Int) - 1
/- The byte c at place a + i is the number's last one, u what stands ahead of it. -/
def fin (a i u c : Nat) : G := if (i = 9 ∧ 1 < c) ∨ (c = 0 ∧ 0 < i) then ⟨0, 0, 3⟩ else ⟨unf (u + c * 128 ^ i), ((a + i + 1 : Nat) : Int), 0⟩
def scan (s : ByteArray) (a : Nat) : Nat → Nat → Nat → G
  | 0, _, _ => ⟨0, 0, 3⟩
  | f + 1, i, u => if h : a + i < s.size then (if s[a + i].toNat < 128 ∨ i = 9 then fin a i u s[a + i].toNat else scan s a f (i + 1) (u + (s[a + i].toNat - 128) * 128 ^ i)) else ⟨0, 0, 4⟩
def getN (s : ByteArray) (p : Int) : G := if 20000 < s.size then ⟨0, 0, 2⟩ else if p < 0 then ⟨0, 0, 1⟩ else scan s p.toNat 10 0 0
def Rd (s : ByteArray) (a : Nat) (R : G) (i u : Nat) : Prop := i ≤ 9 ∧ u < 128 ^ i ∧ ∃ f, f + i = 9 ∧ scan s a (f + 1) i u = R
theorem Rd.start (s : ByteArray) (a : Nat) : Rd s a (scan s a 10 0 0) 0 0 := ⟨by omega, by simp, 9, rfl, rfl⟩
theorem Rd.short {s : ByteArray} {a i u : Nat} {R : G} (h : Rd s a R i u) (hn : ¬ a + i < s.size) : R = ⟨0, 0, 4⟩ := by
  obtain ⟨_, _, f, _, h⟩ := h
  rw [← h, scan, dif_neg hn]
theorem Rd.last {s : ByteArray} {a i u c : Nat} {R : G} (h : Rd s a R i u) (hlt : a + i < s.size) (hc : s[a + i].toNat = c) (hl : c < 128 ∨ i = 9) : R = fin a i u c := by
  obtain ⟨_, _, f, _, h⟩ := h
  rw [← h, scan, dif_pos hlt, hc, if_pos hl]
theorem Rd.more {s : ByteArray} {a i u c : Nat} {R : G} (h : Rd s a R i u) (hlt : a + i < s.size) (hc : s[a + i].toNat = c) (h1 : 128 ≤ c) (h2 : i ≠ 9) : Rd s a R (i + 1) (u + (c - 128) * 128 ^ i) := by
  obtain ⟨h9, hu, f, hf, h⟩ := h
  rw [scan, dif_pos hlt, hc, if_neg (by omega)] at h
  have hb : c < 256 := by rw [← hc]; exact s[a + i].toNat_lt
  cases f with
  | zero => omega
  | succ f =>
    refine ⟨by omega, ?_, f, by omega, h⟩
    rw [Nat.pow_succ]
    have : (c - 128) * 128 ^ i ≤ 127 * 128 ^ i := Nat.mul_le_mul_right _ (by omega)
    omega
theorem pow_seven (k : Nat) : (2 : Int) ^ (7 * k) = ((128 ^ k : Nat) : Int) := by
  rw [Int.pow_mul]; norm_cast
/- A byte shifted by seven times its place, as the walk spells it. -/
theorem shl_z {d k : Nat} (h : d * 128 ^ k < 18446744073709551616) : IntKind.u64.wrap ((d : Int) * 2 ^ (7 * k)) = ((d * 128 ^ k : Nat) : Int) := by
  rw [pow_seven, ← Int.natCast_mul]
  generalize d * 128 ^ k = z at *
  simp [IntKind.wrap, IntKind.signed, IntKind.bits]
  omega
theorem Rd.sum {s : ByteArray} {a i u d : Nat} {R : G} (h : Rd s a R i u) (hd : d ≤ 127) (h9 : i = 9 → d ≤ 1) : u + d * 128 ^ i ≤ 18446744073709551615 := by
  obtain ⟨h1, h2, _⟩ := h
  by_cases e : i = 9
  · have := h9 e
    subst e
    have : d * 128 ^ 9 ≤ 1 * 128 ^ 9 := Nat.mul_le_mul_right _ this
    omega
  · have h3 : 128 ^ i ≤ 128 ^ 8 := Nat.pow_le_pow_right (by omega) (by omega)
    have : d * 128 ^ i ≤ 127 * 128 ^ i := Nat.mul_le_mul_right _ hd
    omega
theorem unf_odd {u : Nat} (h : u % 2 = 1) : unf u = -((u / 2 : Nat) : Int) - 1 := by unfold unf; rw [if_neg (by omega)]
theorem unf_even {u : Nat} (h : u % 2 = 0) : unf u = ((u / 2 : Nat) : Int) := by unfold unf; rw [if_pos h]
theorem fin_bad {a i u c : Nat} (h : (i = 9 ∧ 1 < c) ∨ (c = 0 ∧ 0 < i)) : fin a i u c = ⟨0, 0, 3⟩ := by unfold fin; rw [if_pos h]
theorem fin_good {a i u c : Nat} (h : ¬ ((i = 9 ∧ 1 < c) ∨ (c = 0 ∧ 0 < i))) : fin a i u c = ⟨unf (u + c * 128 ^ i), ((a + i + 1 : Nat) : Int), 0⟩ := by unfold fin; rw [if_neg h]
def gv (g : G) : Value := .agg #[.int .i64 g.n, .int .i64 g.behind, .int .i64 g.code]
theorem gv_eq {n b c : Int} {g : G} (h1 : n = g.n) (h2 : b = g.behind) (h3 : c = g.code) : Ending.returned (.agg #[.int .i64 n, .int .i64 b, .int .i64 c]) = .returned (gv g) := by subst h1 h2 h3; rfl
end Go.Proofs.YtchfpiadfmnphaaDoor
namespace Go.Proofs.YtchfpiadfmnphaaDoor
open Go.RowKit
set_option linter.unusedVariables false

/- Where a run leaves the scope's code: by a jump to label l with what J says there, or as Q says. -/
def ExitBy (J : Nat → Act → World → Prop) (Q : Exit → Act → World → Prop) : Exit → Act → World → Prop
  | .goto l, a, w => J l a w
  | e, a, w => Q e a w

theorem wp_scope_by {P : Program} {a : Act} {w : World} {Q : Exit → Act → World → Prop} {c : Code} (J : Nat → Act → World → Prop) (μ : Nat → Act → World → Nat)
    (first : c.wp P (ExitBy J Q) a w)
    (pass : ∀ l a w, J l a w → ∃ rest, findLabel c l = some rest ∧ rest.wp P (ExitBy (fun l' a' w' => J l' a' w' ∧ μ l' a' w' < μ l a w) Q) a w) : (Code.scope c).wp P Q a w := by
  intro b k cs
  have onward : ∀ n l a w, μ l a w ≤ n → J l a w → ∃ rest, findLabel c l = some rest ∧ ∃ e a' w', Q e a' w' ∧ Arrives P (lone (b.at a (.code rest :: .inScope c :: k)) cs w) b k cs e a' w' := by
    intro n
    induction n with
    | zero =>
      intro l a w hn hJ
      obtain ⟨rest, hf, hp⟩ := pass l a w hJ
      refine ⟨rest, hf, ?_⟩
      obtain ⟨e, a₁, w₁, hq, harr⟩ := hp b (.inScope c :: k) cs
      cases e with
      | goto l' => obtain ⟨_, hlt⟩ := hq; omega
      | normal => exact ⟨.normal, a₁, w₁, hq, Steps.trans harr (.one step_inScope)⟩
      | exit id => exact ⟨.exit id, a₁, w₁, hq, fun k' hk => harr k' (by simp [exitTo, hk])⟩
      | ret => exact ⟨_, a₁, w₁, hq, harr⟩
      | panic ch => exact ⟨_, a₁, w₁, hq, harr⟩
      | outgrown => exact ⟨_, a₁, w₁, hq, harr⟩
    | succ n ih =>
      intro l a w hn hJ
      obtain ⟨rest, hf, hp⟩ := pass l a w hJ
      refine ⟨rest, hf, ?_⟩
      obtain ⟨e, a₁, w₁, hq, harr⟩ := hp b (.inScope c :: k) cs
      cases e with
      | goto l' =>
        obtain ⟨hJ', hlt⟩ := hq
        obtain ⟨rest', hf', e₂, a₂, w₂, hq₂, harr₂⟩ := ih l' a₁ w₁ (by omega) hJ'
        exact ⟨e₂, a₂, w₂, hq₂, .of_steps (harr _ (by simp [gotoIn, hf'])) harr₂⟩
      | normal => exact ⟨.normal, a₁, w₁, hq, Steps.trans harr (.one step_inScope)⟩
      | exit id => exact ⟨.exit id, a₁, w₁, hq, fun k' hk => harr k' (by simp [exitTo, hk])⟩
      | ret => exact ⟨_, a₁, w₁, hq, harr⟩
      | panic ch => exact ⟨_, a₁, w₁, hq, harr⟩
      | outgrown => exact ⟨_, a₁, w₁, hq, harr⟩
  obtain ⟨e, a₁, w₁, hq, harr⟩ := first b (.inScope c :: k) cs
  cases e with
  | goto l =>
    obtain ⟨rest, hf, e₂, a₂, w₂, hq₂, harr₂⟩ := onward _ l a₁ w₁ (Nat.le_refl _) hq
    exact ⟨e₂, a₂, w₂, hq₂, .of_steps (.head step_scope (harr _ (by simp [gotoIn, hf]))) harr₂⟩
  | normal => exact ⟨.normal, a₁, w₁, hq, .head step_scope (Steps.trans harr (.one step_inScope))⟩
  | exit id => exact ⟨.exit id, a₁, w₁, hq, fun k' hk => .head step_scope (harr k' (by simp [exitTo, hk]))⟩
  | ret => exact ⟨_, a₁, w₁, hq, .of_steps (.one step_scope) harr⟩
  | panic ch => exact ⟨_, a₁, w₁, hq, .of_steps (.one step_scope) harr⟩
  | outgrown => exact ⟨_, a₁, w₁, hq, .of_steps (.one step_scope) harr⟩

/- Three labels: 1 is jumped back to, from 1 the run may go on to 2 and 0, from 2 to 0. -/
def ExitThree (J0 J1 J2 : Act → World → Prop) (Q : Exit → Act → World → Prop) : Exit → Act → World → Prop
  | .goto 0, a, w => J0 a w
  | .goto 1, a, w => J1 a w
  | .goto 2, a, w => J2 a w
  | .goto _, _, _ => False
  | e, a, w => Q e a w
theorem exitThree_of {J0 J1 J2 : Act → World → Prop} {Q : Exit → Act → World → Prop} {J : Nat → Act → World → Prop} (h0 : ∀ a w, J0 a w → J 0 a w) (h1 : ∀ a w, J1 a w → J 1 a w) (h2 : ∀ a w, J2 a w → J 2 a w) :
    ∀ e a w, ExitThree J0 J1 J2 Q e a w → ExitBy J Q e a w := by
  intro e a w h
  cases e with
  | goto l =>
    match l, h with
    | 0, h => exact h0 a w h
    | 1, h => exact h1 a w h
    | 2, h => exact h2 a w h
    | _ + 3, h => exact h.elim
  | normal => exact h
  | exit id => exact h
  | ret => exact h
  | panic ch => exact h
  | outgrown => exact h
theorem exitThree_drop {J0 J1 J2 X : Act → World → Prop} {Q : Exit → Act → World → Prop} : ∀ e a w, ExitThree J0 (fun a' w' => J1 a' w' ∧ X a' w') J2 Q e a w → ExitThree J0 J1 J2 Q e a w := by
  intro e a w h
  cases e with
  | goto l =>
    match l, h with
    | 0, h => exact h
    | 1, h => exact h.1
    | 2, h => exact h
    | _ + 3, h => exact h
  | normal => exact h
  | exit id => exact h
  | ret => exact h
  | panic ch => exact h
  | outgrown => exact h
theorem wp_weaken {P : Program} {c : Code} {Q Q' : Exit → Act → World → Prop} {a : Act} {w : World} (h : c.wp P Q a w) (hq : ∀ e a w, Q e a w → Q' e a w) : c.wp P Q' a w := by
  intro b k cs
  obtain ⟨e, a', w', h1, h2⟩ := h b k cs
  exact ⟨e, a', w', hq _ _ _ h1, h2⟩
def jThree (J0 J1 J2 : Act → World → Prop) : Nat → Act → World → Prop
  | 0, a, w => J0 a w
  | 1, a, w => J1 a w
  | 2, a, w => J2 a w
  | _, _, _ => False
def mThree (μ : Act → World → Nat) : Nat → Act → World → Nat
  | 0, _, _ => 0
  | 2, _, _ => 1
  | _, a, w => μ a w + 2
theorem wp_scope_three {P : Program} {a : Act} {w : World} {Q : Exit → Act → World → Prop} {c r0 r1 r2 : Code} (J0 J1 J2 : Act → World → Prop) (μ : Act → World → Nat)
    (h0 : findLabel c 0 = some r0) (h1 : findLabel c 1 = some (.seq .skip r1)) (h2 : findLabel c 2 = some r2)
    (first : (∀ a w, J1 a w → r1.wp P (ExitThree J0 J1 J2 Q) a w) → c.wp P (ExitThree J0 J1 J2 Q) a w)
    (p1 : ∀ a w, J1 a w → r1.wp P (ExitThree J0 (fun a' w' => J1 a' w' ∧ μ a' w' < μ a w) J2 Q) a w)
    (p2 : ∀ a w, J2 a w → r2.wp P (ExitThree J0 (fun _ _ => False) (fun _ _ => False) Q) a w)
    (p0 : ∀ a w, J0 a w → r0.wp P (ExitThree (fun _ _ => False) (fun _ _ => False) (fun _ _ => False) Q) a w) : (Code.scope c).wp P Q a w := by
  have first := first fun a w hJ => wp_weaken (p1 a w hJ) exitThree_drop
  refine wp_scope_by (jThree J0 J1 J2) (mThree μ) (wp_weaken first (exitThree_of (fun _ _ h => h) (fun _ _ h => h) (fun _ _ h => h))) ?_
  intro l a w hJ
  match l, hJ with
  | 0, hJ => exact ⟨r0, h0, wp_weaken (p0 a w hJ) (exitThree_of (fun _ _ h => h.elim) (fun _ _ h => h.elim) (fun _ _ h => h.elim))⟩
  | 1, hJ => exact ⟨_, h1, wp_weaken (wp_seq (wp_skip (p1 a w hJ))) (exitThree_of (fun _ _ h => ⟨h, by simp [mThree]⟩) (fun _ _ h => ⟨h.1, by have := h.2; simp [mThree]; omega⟩) (fun _ _ h => ⟨h, by simp [mThree]⟩))⟩
  | 2, hJ => exact ⟨r2, h2, wp_weaken (p2 a w hJ) (exitThree_of (fun _ _ h => ⟨h, by simp [mThree]⟩) (fun _ _ h => h.elim) (fun _ _ h => h.elim))⟩
  | _ + 3, hJ => exact hJ.elim
end Go.Proofs.YtchfpiadfmnphaaDoor
