/- The laws' markText: what it tells of a number; all blocks but one. -/
import Derived.Test.YtaalegjhhpfhbaaJn2
import Derived.Test.YtaalegjhhpfhbaaRowV
namespace Go.Proofs.Ytaalegjhhpfhbaa
open Go.RowKit
set_option linter.unusedVariables false

/- The digits of a number ahead of a text. -/
def decF : Nat → Nat → ByteArray → ByteArray
  | 0, _, out => out
  | f + 1, k, out => if k = 0 then out else decF f (k / 10) (⟨#[UInt8.ofNat (48 + k % 10)]⟩ ++ out)
def decT (k : Nat) (out : ByteArray) : ByteArray := decF k k out
theorem decF_fuel : ∀ (n m k : Nat) (out : ByteArray), k ≤ n → k ≤ m → decF n k out = decF m k out
  | 0, m, k, out, h1, h2 => by
    have : k = 0 := by omega
    subst this
    cases m <;> simp [decF]
  | n + 1, 0, k, out, h1, h2 => by
    have : k = 0 := by omega
    subst this
    simp [decF]
  | n + 1, m + 1, k, out, h1, h2 => by
    rw [decF, decF]
    by_cases h : k = 0
    · rw [if_pos h, if_pos h]
    · rw [if_neg h, if_neg h]
      exact decF_fuel n m _ _ (by omega) (by omega)
theorem decT_go {k : Nat} (h : k ≠ 0) (out : ByteArray) : decT k out = decT (k / 10) (⟨#[UInt8.ofNat (48 + k % 10)]⟩ ++ out) := by
  unfold decT
  obtain ⟨n, hn⟩ : ∃ n, k = n + 1 := ⟨k - 1, by omega⟩
  conv => lhs; rw [hn, decF]
  rw [← hn, if_neg h]
  exact decF_fuel _ _ _ _ (by omega) (Nat.le_refl _)
theorem decT_zero (out : ByteArray) : decT 0 out = out := rfl
def mkT (k : Nat) : ByteArray := ⟨#[109]⟩ ++ decT k ⟨#[]⟩
theorem conv_one (w : World) (b : UInt8) : ∀ dst, Try.prog.underlying dst = some .string → (convert 37 dst (.slice (some ⟨w.heap.size, 0, none⟩) 1 1)).run Try.prog (w.alloc (.cells #[BV b] 5)) = .ok (.string ⟨#[b]⟩) (w.alloc (.cells #[BV b] 5)) :=
  run_conv_own 37 Try.underlying37 Try.underlying5 (World.ownsRow_lit (base := w.heap.size) w #[BV b] 1 (Nat.le_refl _) (by unfold maxLen; omega) rfl)
/- All but one block stands. -/
def But (g : Nat) (w w' : World) : Prop := Below 0 w w' ∧ ∀ k, k ≠ g → k < w.heap.size → w'.heap[k]? = w.heap[k]?
theorem But.refl (g : Nat) (w : World) : But g w w := ⟨Below.refl _ _, fun _ _ _ => rfl⟩
theorem But.size {g : Nat} {w w' : World} (h : But g w w') : w.heap.size ≤ w'.heap.size := h.1.size
theorem But.trans {g : Nat} {a b c : World} (h : But g a b) (k : But g b c) : But g a c :=
  ⟨h.1.trans k.1, fun j hj hl => (k.2 j hj (Nat.lt_of_lt_of_le hl h.size)).trans (h.2 j hj hl)⟩
theorem But.of {g : Nat} {w w' : World} (h : Below w.heap.size w w') : But g w w' := ⟨h.mono (Nat.zero_le _), fun j _ hl => h.block j hl⟩
theorem But.set (g k : Nat) (w : World) (u : Value) : But g w (w.setCell ⟨g, k, none⟩ u) := ⟨(Below.refl _ _).setCell (Nat.zero_le _) u, fun j hj _ => Below.heap_setCell w ⟨g, k, none⟩ u j hj⟩
theorem But.below {g B : Nat} {w w' : World} (h : But g w w') (hg : B ≤ g) (hB : B ≤ w.heap.size) : Below B w w' :=
  ⟨h.1.os, h.1.tape, h.1.output, h.1.size, fun k hk => h.2 k (by omega) (by omega)⟩
theorem But.row {g j : Nat} {w w' : World} {l : List Value} (h : But g w w') (hr : RowV w j l) (hj : j ≠ g) (hl : j < w.heap.size) : RowV w' j l :=
  hr.same fun k => ⟨World.cell?_of_block (w := w) (h.2 j hj hl), World.frozen?_of_block (w := w) (h.2 j hj hl)⟩

/- The marks from a number on. -/
end Go.Proofs.Ytaalegjhhpfhbaa
