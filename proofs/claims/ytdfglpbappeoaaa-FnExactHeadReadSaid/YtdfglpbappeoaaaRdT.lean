/- TargetsRead of the program: what it answers, whatever the text. -/
import Derived.Test.YtdfglpbappeoaaaJn1
import Derived.Test.YtdfglpbappeoaaaRdL
namespace Go.Proofs.Ytdfglpbappeoaaa
open Go.RowKit
set_option linter.unusedVariables false

theorem countO_le {t : ByteArray} {p m k b : Nat} (h : countO t p m = some (k, b)) : k ≤ m ∧ b ≤ t.size := by
  unfold countO at h
  cases hn : numO t p with
  | none => rw [hn] at h; cases h
  | some u =>
    obtain ⟨n, c⟩ := u
    rw [hn] at h
    simp only at h
    split at h
    · have := Option.some.inj h
      injection this with e1 e2
      subst e2
      exact ⟨by omega, (numO_some hn).2.1⟩
    · cases h
theorem tgsO_le {t : ByteArray} : ∀ (m p : Nat) {l : List TarV} {q : Nat}, tgsO t m p = some (l, q) → p ≤ t.size → q ≤ t.size
  | 0, p, l, q, h, hp => by
    unfold tgsO at h
    injection h with h
    injection h with _ e
    omega
  | m + 1, p, l, q, h, hp => by
    rw [tgsO] at h
    cases h1 : textO t p with
    | none => rw [h1] at h; cases h
    | some y1 =>
    rw [h1] at h
    simp only at h
    cases h2 : bytesO t y1.2 32 with
    | none => rw [h2] at h; cases h
    | some y2 =>
    rw [h2] at h
    simp only at h
    cases h3 : numO t y2.2 with
    | none => rw [h3] at h; cases h
    | some y3 =>
    rw [h3] at h
    simp only at h
    cases h4 : tgsO t m y3.2 with
    | none => rw [h4] at h; cases h
    | some y4 =>
    rw [h4] at h
    simp only at h
    injection h with h
    injection h with _ e
    subst e
    exact tgsO_le m y3.2 h4 (numO_some (n := y3.1) (b := y3.2) h3).2.1
theorem targetsO_le {t : ByteArray} {v e : Int} {l : List TarV} {q : Nat} (h : targetsO t 1 = some (v, e, l, q)) : q ≤ t.size := by
  unfold targetsO at h
  cases h1 : numO t 1 with
  | none => rw [h1] at h; cases h
  | some y1 =>
  rw [h1] at h
  simp only at h
  cases h2 : numO t y1.2 with
  | none => rw [h2] at h; cases h
  | some y2 =>
  rw [h2] at h
  simp only at h
  cases h3 : countO t y2.2 20 with
  | none => rw [h3] at h; cases h
  | some y3 =>
  rw [h3] at h
  simp only at h
  unfold restT at h
  cases h4 : tgsO t y3.1 y3.2 with
  | none => rw [h4] at h; cases h
  | some y4 =>
  rw [h4] at h
  simp only at h
  split at h
  · injection h with h
    injection h with _ h
    injection h with _ h
    injection h with _ e
    subst e
    exact tgsO_le _ _ h4 (countO_le (k := y3.1) (b := y3.2) h3).2
  · cases h
theorem OwnTg.keep {w w' : World} {base : Nat} {v : Value} {l : List TarV} (h : OwnTg w base v l) (hb : Below w.heap.size w w') : OwnTg w' base v l := own_same h (fun k _ hl => hb.block k hl)
theorem OwnTg.new {w w3 w4 : World} {base : Nat} {v : Value} {l : List TarV} (h0 : OwnTg w base v l) (h : OwnTg w3 base v l) (hF : ∀ k, k ≠ w.heap.size → w4.heap[k]? = w3.heap[k]?) : OwnTg w4 base v l := own_same h (fun k hk _ => hF k (by have := (own_ge h0 hk).2; omega))
def TargetsOk (t : ByteArray) (v e : Int) (l : List TarV) : Prop := FirstB t 84 ∧ ∃ q, targetsO t 1 = some (v, e, l, q) ∧ q = t.size
def TgAns (t : ByteArray) (v e : Int) (l : List TarV) (c : Int) : Prop := (20000 < t.size ∧ v = 0 ∧ e = 0 ∧ l = [] ∧ c = 2) ∨ (t.size ≤ 20000 ∧ TargetsOk t v e l ∧ c = 0) ∨ (t.size ≤ 20000 ∧ (¬ ∃ v e l, TargetsOk t v e l) ∧ v = 0 ∧ e = 0 ∧ l = [] ∧ c = 3)
theorem tgAns_one {t : ByteArray} {v v' e e' : Int} {l l' : List TarV} {c c' : Int} (h : TgAns t v e l c) (h' : TgAns t v' e' l' c') : v = v' ∧ e = e' ∧ l = l' ∧ c = c' := by
  rcases h with ⟨h0, rfl, rfl, rfl, rfl⟩ | ⟨h0, h1, rfl⟩ | ⟨h0, h1, rfl, rfl, rfl, rfl⟩
  · rcases h' with ⟨_, rfl, rfl, rfl, rfl⟩ | ⟨k0, _⟩ | ⟨k0, _⟩
    · exact ⟨rfl, rfl, rfl, rfl⟩
    · omega
    · omega
  · rcases h' with ⟨k0, _⟩ | ⟨k0, k1, rfl⟩ | ⟨k0, k1, _⟩
    · omega
    · obtain ⟨_, q, a1, _⟩ := h1
      obtain ⟨_, q', a2, _⟩ := k1
      rw [a1] at a2
      injection a2 with a2
      injection a2 with e1 a2
      injection a2 with e2 a2
      injection a2 with e3 e4
      exact ⟨e1, e2, e3, rfl⟩
    · exact absurd ⟨_, _, _, h1⟩ k1
  · rcases h' with ⟨k0, _⟩ | ⟨k0, k1, rfl⟩ | ⟨k0, k1, rfl, rfl, rfl, rfl⟩
    · omega
    · exact absurd ⟨_, _, _, k1⟩ h1
    · exact ⟨rfl, rfl, rfl, rfl⟩
theorem ownTg_nil (w : World) (base : Nat) : OwnTg w base (.slice none 0 0) [] := ⟨rfl, .inl ⟨rfl, rfl⟩⟩
def tov (v e : Int) (a : Option Addr) (n cp : Nat) (c : Int) : List Value := [.int .i64 v, .int .i64 e, .slice a n cp, .int .i64 c]
theorem tov_ne (v e : Int) (a : Option Addr) (n cp : Nat) (c : Int) : tov v e a n cp c ≠ [] := by simp [tov]
theorem tov_one (v e : Int) (a : Option Addr) (n cp : Nat) (c : Int) : ∀ y ∈ tov v e a n cp c, y.oneCell' = true := by
  intro y hy
  simp [tov] at hy
  rcases hy with h | h | h | h <;> (rw [h]; rfl)
theorem RowV.to4 {w : World} {g : Nat} {v e : Int} {a : Option Addr} {n cp : Nat} {c : Int} (h : RowV w g (tov v e a n cp c)) : w.cell? ⟨g, 0, none⟩ = some (.int .i64 v) ∧ w.cell? ⟨g, 1, none⟩ = some (.int .i64 e) ∧ w.cell? ⟨g, 2, none⟩ = some (.slice a n cp) ∧ w.cell? ⟨g, 3, none⟩ = some (.int .i64 c) := ⟨h.cell (k := 0) rfl, h.cell (k := 1) rfl, h.cell (k := 2) rfl, h.cell (k := 3) rfl⟩
end Go.Proofs.Ytdfglpbappeoaaa
