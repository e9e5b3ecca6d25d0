/- What the two Go functions PutNum (the specification's and the program's) answer, for every number: one text. A number's bytes are ten at most. What the two Go functions PutText (the specification's and the program's) answer, for every text: one text. -/
import Derived.Test.YtchfpiadfmnphaaDoorOwn
import Derived.Test.YtchfpiadfmnphaaDoorJn5
import Derived.WalkKit
import Derived.ProofKit
namespace Go.Proofs.YtchfpiadfmnphaaDoor
open Go.RowKit
set_option linter.unusedVariables false

def foldN (n : Int) : Nat := if n < 0 then (-2 * n - 1).toNat else (2 * n).toNat
theorem I64.foldLt {n : Int} (h : I64 n) : foldN n < 2 * 128 ^ 9 := by
  have := h.bd
  unfold foldN
  split <;> omega
theorem fold_neg {n : Int} (hn : I64 n) (h : n < 0) : IntKind.u64.wrap (IntKind.u64.wrap (2 * IntKind.u64.wrap (wrap64 (-wrap64 (n + 1)))) + 1) = (foldN n : Int) := by
  have := hn.bd
  unfold foldN
  rw [if_pos h]
  simp [wrap64, IntKind.wrap, IntKind.signed, IntKind.bits]
  omega
theorem fold_pos {n : Int} (hn : I64 n) (h : ¬ n < 0) : IntKind.u64.wrap (2 * IntKind.u64.wrap n) = (foldN n : Int) := by
  have := hn.bd
  unfold foldN
  rw [if_neg h]
  simp [IntKind.wrap, IntKind.signed, IntKind.bits]
  omega

/- The bytes of a number: seven bits a byte, the lowest first. -/
def enc : Nat → Nat → List UInt8
  | 0, u => [UInt8.ofNat u]
  | f + 1, u => if u < 128 then [UInt8.ofNat u] else UInt8.ofNat (u % 128 + 128) :: enc f (u / 128)
theorem enc_last (f u : Nat) (h : u < 128) : enc f u = [UInt8.ofNat u] := by
  cases f <;> simp [enc, h]
def putS (n : Int) : ByteArray := ⟨(enc 9 (foldN n)).toArray⟩
/- What stands at the head of a round: the bytes that are out, and the number that is left. -/
def Left (u0 : Nat) (bs : List UInt8) (f u : Nat) : Prop := u < 2 * 128 ^ f ∧ bs.length + f = 9 ∧ bs ++ enc f u = enc 9 u0
theorem Left.start {u0 : Nat} (h : u0 < 2 * 128 ^ 9) : Left u0 [] 9 u0 := ⟨h, rfl, rfl⟩
theorem Left.bound {u0 f u : Nat} {bs : List UInt8} (h : Left u0 bs f u) : (u : Int) ≤ 18446744073709551615 := by
  have h1 := h.1
  have h2 : f ≤ 9 := by have := h.2.1; omega
  have h3 : 128 ^ f ≤ 128 ^ 9 := Nat.pow_le_pow_right (by omega) h2
  omega
theorem Left.step {u0 f u : Nat} {bs : List UInt8} (h : Left u0 bs f u) (hu : 128 ≤ u) : ∃ f', f = f' + 1 ∧ Left u0 (bs ++ [UInt8.ofNat (u % 128 + 128)]) f' (u / 128) := by
  obtain ⟨h1, h2, h3⟩ := h
  cases f with
  | zero => simp at h1; omega
  | succ f' =>
    refine ⟨f', rfl, ?_, by simp; omega, ?_⟩
    · rw [Nat.pow_succ] at h1; omega
    · rw [← h3]; simp [enc, show ¬ u < 128 by omega]
theorem Left.done {u0 f u : Nat} {bs : List UInt8} (h : Left u0 bs f u) (hu : u < 128) : bs ++ [UInt8.ofNat u] = enc 9 u0 := by
  rw [← h.2.2, enc_last f u hu]

end Go.Proofs.YtchfpiadfmnphaaDoor
namespace Go.Proofs.YtchfpiadfmnphaaDoor
open Go.RowKit
set_option linter.unusedVariables false

theorem enc_len (f u : Nat) : (enc f u).length ≤ f + 1 := by
  induction f generalizing u with
  | zero => simp [enc]
  | succ f ih =>
    unfold enc
    split
    · simp
    · have := ih (u / 128); simp; omega
theorem putS_size (n : Int) : (putS n).size ≤ 10 := by
  have := enc_len 9 (foldN n)
  simpa [putS, ByteArray.size] using this
end Go.Proofs.YtchfpiadfmnphaaDoor
namespace Go.Proofs.YtchfpiadfmnphaaDoor
open Go.RowKit
set_option linter.unusedVariables false

theorem I64.ofNat {k : Nat} (h : k ≤ 20000) : I64 (k : Int) := by
  unfold I64
  exact WalkArith.wf_i64 (by omega)
def putT (s : ByteArray) : ByteArray := if 20000 < s.size then ⟨#[]⟩ else putS s.size ++ s

end Go.Proofs.YtchfpiadfmnphaaDoor
