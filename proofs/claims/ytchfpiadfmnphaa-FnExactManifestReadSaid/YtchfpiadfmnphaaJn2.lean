/- What the two Go functions PutNum (the specification's and the program's) answer, for every number: one text. A number's bytes are ten at most. What the two Go functions PutText (the specification's and the program's) answer, for every text: one text. -/
import Derived.Test.YtchfpiadfmnphaaOwn
import Derived.Test.YtchfpiadfmnphaaInts
import Derived.WalkKit
import Derived.ProofKit
namespace Go.Proofs.Ytchfpiadfmnphaa
open Go.RowKit
set_option linter.unusedVariables false

def foldN (n : Int) : Nat := if n < 0 then (-2 * n - 1).toNat else (2 * n).toNat
theorem I64.foldLt {n : Int} (h : I64 n) : foldN n < 2 * 128 ^ 9 := by
  have := h.bd
  unfold foldN
  split <;> omega
theorem fold_neg {n : Int} (hn : I64 n) (h : n < 0) : IntKind.u64.wrap (IntKind.u64.wrap (2 * IntKind.u64.wrap (wrap64 (-wrap64 (n + 1)))) + 1) = (foldN n : Int) := by
  have := hn.bd
  unfold foldN
  rw [if_pos h]
  simp [wrap64, IntKind.wrap, IntKind.signed, IntKind.bits]
  omega
theorem fold_pos {n : Int} (hn : I64 n) (h : ¬ n < 0) : IntKind.u64.wrap (2 * IntKind.u64.wrap n) = (foldN n : Int) := by
  have := hn.bd
  unfold foldN
  rw [if_neg h]
  simp [IntKind.wrap, IntKind.signed, IntKind.bits]
  omega

theorem specFold (n : Int) (w : World) (hn : I64 n) :
    Calls Try.prog 98 #[.int .i64 n] w fun e w' => e = .returned (.int .u64 (foldN n)) ∧ w' = w := by
  by_cases h : n < 0
  all_goals
    go_enter Try.func98, Try.ntmps98
    go_wp2
    go_ret
    first
      | exact ⟨ret_int (fold_neg hn h), rfl⟩
      | exact ⟨ret_int (fold_pos hn (by omega)), rfl⟩

theorem implFold (n : Int) (w : World) (hn : I64 n) :
    Calls Try.prog 99 #[.int .i64 n] w fun e w' => e = .returned (.int .u64 (foldN n)) ∧ w' = w := by
  by_cases h : n < 0
  all_goals
    go_enter Try.func99, Try.ntmps99
    go_wp2
    go_ret
    first
      | exact ⟨ret_int (fold_neg hn h), rfl⟩
      | exact ⟨ret_int (fold_pos hn (by omega)), rfl⟩

/- The bytes of a number: seven bits a byte, the lowest first. -/
def enc : Nat → Nat → List UInt8
  | 0, u => [UInt8.ofNat u]
  | f + 1, u => if u < 128 then [UInt8.ofNat u] else UInt8.ofNat (u % 128 + 128) :: enc f (u / 128)
theorem enc_last (f u : Nat) (h : u < 128) : enc f u = [UInt8.ofNat u] := by
  cases f <;> simp [enc, h]
def putS (n : Int) : ByteArray := ⟨(enc 9 (foldN n)).toArray⟩
/- What stands at the head of a round: the bytes that are out, and the number that is left. -/
def Left (u0 : Nat) (bs : List UInt8) (f u : Nat) : Prop := u < 2 * 128 ^ f ∧ bs.length + f = 9 ∧ bs ++ enc f u = enc 9 u0
theorem Left.start {u0 : Nat} (h : u0 < 2 * 128 ^ 9) : Left u0 [] 9 u0 := ⟨h, rfl, rfl⟩
theorem Left.bound {u0 f u : Nat} {bs : List UInt8} (h : Left u0 bs f u) : (u : Int) ≤ 18446744073709551615 := by
  have h1 := h.1
  have h2 : f ≤ 9 := by have := h.2.1; omega
  have h3 : 128 ^ f ≤ 128 ^ 9 := Nat.pow_le_pow_right (by omega) h2
  omega
theorem Left.step {u0 f u : Nat} {bs : List UInt8} (h : Left u0 bs f u) (hu : 128 ≤ u) : ∃ f', f = f' + 1 ∧ Left u0 (bs ++ [UInt8.ofNat (u % 128 + 128)]) f' (u / 128) := by
  obtain ⟨h1, h2, h3⟩ := h
  cases f with
  | zero => simp at h1; omega
  | succ f' =>
    refine ⟨f', rfl, ?_, by simp; omega, ?_⟩
    · rw [Nat.pow_succ] at h1; omega
    · rw [← h3]; simp [enc, show ¬ u < 128 by omega]
theorem Left.done {u0 f u : Nat} {bs : List UInt8} (h : Left u0 bs f u) (hu : u < 128) : bs ++ [UInt8.ofNat u] = enc 9 u0 := by
  rw [← h.2.2, enc_last f u hu]

set_option maxRecDepth 100000 in
set_option maxHeartbeats 400000 in
theorem specPut (n : Int) (w : World) (hn : I64 n) :
    Calls Try.prog 52 #[.int .i64 n] w fun e w' => e = .returned (.string (putS n)) ∧ Below w.heap.size w w' := by
  have hlt := hn.foldLt
  have hfin : Hid (∀ bs : List UInt8, bs = enc 9 (foldN n) → (⟨bs.toArray⟩ : ByteArray) = putS n) := by intro bs h; rw [h]; rfl
  go_enter Try.func52, Try.ntmps52
  go_wp2_with fail
  refine (specFold n _ hn).mono ?_
  rintro e w1 ⟨rfl, rfl⟩
  have hst := Left.start hlt
  clear hlt
  generalize foldN n = u0 at *
  go_wp2_with fail
  go_loopw [3, 4] (fun u v wr => ∃ (bs : List UInt8) (f k : Nat), u = .int .u64 k ∧ Left u0 bs f k ∧ wr.ownsRow w1.heap.size 5 1 v bs.length (bvs bs) ∧ Below w1.heap.size w1 wr)
    (fun u _ _ => (intOf u).toNat)
  case atStart => exact ⟨[], 9, u0, rfl, hst, World.ownsRow_made w1 #[] 0 (Nat.le_refl _) (Nat.zero_le _) rfl, (Below.refl _ _).alloc (Nat.le_refl _) _⟩
  case round =>
    obtain ⟨bs, f, k, rfl, hl, hown, hnx⟩ := hrel
    have HL : Hid (Left u0 bs f k) := hl
    have hk64 := hl.bound
    have hbs : bs.length ≤ 9 := by have := hl.2.1; omega
    clear hl
    have hsz := hnx.size
    by_cases h128 : 128 ≤ k
    · obtain ⟨f', rfl, hl'⟩ := HL.out.step h128
      obtain ⟨b, hb⟩ : ∃ b, b = UInt8.ofNat (k % 128 + 128) := ⟨_, rfl⟩
      have HB : Hid (BV b = .int .u8 ((k : Int) % 128 + 128)) := by show BV b = _; rw [hb, BV_ofNat _ (by omega)]; rfl
      rw [← hb] at hl'
      have HL' : Hid (Left u0 (bs ++ [b]) f' (k / 128)) := hl'
      clear hb hl' HL hst
      go_wp2_with (first
        | (at_builtin; refine wpList_append_byte rfl _ _ 50 rfl w1.heap.size 5 Try.underlying50 Try.infoU8 _ bs _ rfl hown b _ HB.out 1 rfl (by omega) hsz ?_))
      intro v' w2 hown' hb2
      clear hown
      go_wp2
      go_roundw
      case rel => exact ⟨bs ++ [b], f', k / 128, by go_num, HL'.out, by simpa using hown', hnx.trans hb2⟩
      case measure => simp [intOf]; omega
    · obtain ⟨b, hb⟩ : ∃ b, b = UInt8.ofNat k := ⟨_, rfl⟩
      have HB : Hid (BV b = .int .u8 (k : Int)) := by show BV b = _; rw [hb, BV_ofNat _ (by omega)]
      have HD : Hid (bs ++ [b] = enc 9 u0) := by show bs ++ [b] = _; rw [hb]; exact HL.out.done (by omega)
      clear hb HL hst
      go_wp2_with (first
        | (at_builtin; refine wpList_append_byte rfl _ _ 50 rfl w1.heap.size 5 Try.underlying50 Try.infoU8 _ bs _ rfl hown b _ HB.out 1 rfl (by omega) hsz ?_))
      intro v' w2 hown' hb2
      clear hown
      have hconv := run_conv_own 50 Try.underlying50 Try.underlying5 hown' 9 Try.underlying9
      clear hown'
      go_wp2
      go_ret
      exact ⟨ret_str (hfin.out _ HD.out), hnx.trans hb2⟩
set_option maxRecDepth 100000 in
set_option maxHeartbeats 400000 in
theorem implPut (n : Int) (w : World) (hn : I64 n) :
    Calls Try.prog 54 #[.int .i64 n] w fun e w' => e = .returned (.string (putS n)) ∧ Below w.heap.size w w' := by
  have hlt := hn.foldLt
  have hfin : Hid (∀ bs : List UInt8, bs = enc 9 (foldN n) → (⟨bs.toArray⟩ : ByteArray) = putS n) := by intro bs h; rw [h]; rfl
  go_enter Try.func54, Try.ntmps54
  have hmk : ∀ w, (Instr.makeSlice 50 (.int .i64 0) (.int .i64 10)).run Try.prog w = .ok (.slice (some ⟨w.heap.size, 0, none⟩) 0 10) (w.alloc (.cells (Array.replicate 10 (.int .u8 0)) 5)) := fun _ => by kernel_rfl
  go_wp2_with fail
  refine (implFold n _ hn).mono ?_
  rintro e wx ⟨rfl, rfl⟩
  have hst := Left.start hlt
  clear hlt
  generalize foldN n = u0 at *
  go_wp2_with fail
  go_loopw [3, 4] (fun v u wr => ∃ (bs : List UInt8) (f k : Nat), u = .int .u64 k ∧ Left u0 bs f k ∧ wr.ownsRow w.heap.size 5 1 v bs.length (bvs bs) ∧ Below w.heap.size w wr)
    (fun _ u _ => (intOf u).toNat)
  case atStart => exact ⟨[], 9, u0, rfl, hst, World.ownsRow_made w (Array.replicate 10 (.int .u8 0)) 10 (Nat.le_refl _) (by unfold maxLen; omega) rfl, (Below.refl _ _).alloc (Nat.le_refl _) _⟩
  case round =>
    obtain ⟨bs, f, k, rfl, hl, hown, hnx⟩ := hrel
    have HL : Hid (Left u0 bs f k) := hl
    have hk64 := hl.bound
    have hbs : bs.length ≤ 9 := by have := hl.2.1; omega
    clear hl
    have hsz := hnx.size
    by_cases h128 : 128 ≤ k
    · obtain ⟨f', rfl, hl'⟩ := HL.out.step h128
      obtain ⟨b, hb⟩ : ∃ b, b = UInt8.ofNat (k % 128 + 128) := ⟨_, rfl⟩
      have HB : Hid (BV b = .int .u8 ((k : Int) % 128 + 128)) := by show BV b = _; rw [hb, BV_ofNat _ (by omega)]; rfl
      rw [← hb] at hl'
      have HL' : Hid (Left u0 (bs ++ [b]) f' (k / 128)) := hl'
      clear hb hl' HL hst
      go_wp2_with (first
        | (at_builtin; refine wpList_append_byte rfl _ _ 50 rfl w.heap.size 5 Try.underlying50 Try.infoU8 _ bs _ rfl hown b _ HB.out 1 rfl (by omega) hsz ?_))
      intro v' w2 hown' hb2
      clear hown
      go_wp2
      go_roundw
      case rel => exact ⟨bs ++ [b], f', k / 128, by go_num, HL'.out, by simpa using hown', hnx.trans hb2⟩
      case measure => simp [intOf]; omega
    · obtain ⟨b, hb⟩ : ∃ b, b = UInt8.ofNat k := ⟨_, rfl⟩
      have HB : Hid (BV b = .int .u8 (k : Int)) := by show BV b = _; rw [hb, BV_ofNat _ (by omega)]
      have HD : Hid (bs ++ [b] = enc 9 u0) := by show bs ++ [b] = _; rw [hb]; exact HL.out.done (by omega)
      clear hb HL hst
      go_wp2_with (first
        | (at_builtin; refine wpList_append_byte rfl _ _ 50 rfl w.heap.size 5 Try.underlying50 Try.infoU8 _ bs _ rfl hown b _ HB.out 1 rfl (by omega) hsz ?_))
      intro v' w2 hown' hb2
      clear hown
      have hconv := run_conv_own 50 Try.underlying50 Try.underlying5 hown' 9 Try.underlying9
      clear hown'
      go_wp2
      go_ret
      exact ⟨ret_str (hfin.out _ HD.out), hnx.trans hb2⟩
end Go.Proofs.Ytchfpiadfmnphaa
namespace Go.Proofs.Ytchfpiadfmnphaa
open Go.RowKit
set_option linter.unusedVariables false

theorem enc_len (f u : Nat) : (enc f u).length ≤ f + 1 := by
  induction f generalizing u with
  | zero => simp [enc]
  | succ f ih =>
    unfold enc
    split
    · simp
    · have := ih (u / 128); simp; omega
theorem putS_size (n : Int) : (putS n).size ≤ 10 := by
  have := enc_len 9 (foldN n)
  simpa [putS, ByteArray.size] using this
end Go.Proofs.Ytchfpiadfmnphaa
namespace Go.Proofs.Ytchfpiadfmnphaa
open Go.RowKit
set_option linter.unusedVariables false

theorem I64.ofNat {k : Nat} (h : k ≤ 20000) : I64 (k : Int) := by
  unfold I64
  exact WalkArith.wf_i64 (by omega)
def putT (s : ByteArray) : ByteArray := if 20000 < s.size then ⟨#[]⟩ else putS s.size ++ s

theorem specPutT (s : ByteArray) (w : World) (hs : s.size ≤ maxLen) :
    Calls Try.prog 51 #[.string s] w fun e w' => e = .returned (.string (putT s)) ∧ Below w.heap.size w w' := by
  unfold maxLen at hs
  by_cases hbig : 20000 < s.size
  · have HR : Hid (putT s = ⟨#[]⟩) := by show putT s = _; unfold putT; rw [if_pos hbig]
    go_enter Try.func51, Try.ntmps51
    go_wp2_with fail
    go_ret
    exact ⟨ret_str HR.out.symm, Below.refl _ _⟩
  · have HR : Hid (putT s = putS s.size ++ s) := by show putT s = _; unfold putT; rw [if_neg hbig]
    go_enter Try.func51, Try.ntmps51
    go_wp2_with fail
    refine (specPut _ _ (I64.ofNat (by omega))).mono ?_
    rintro e w1 ⟨rfl, hb1⟩
    have hz := putS_size s.size
    generalize putS s.size = p at *
    go_wp2_with fail
    go_ret
    exact ⟨ret_str HR.out.symm, hb1⟩

theorem implPutT (s : ByteArray) (w : World) (hs : s.size ≤ maxLen) :
    Calls Try.prog 53 #[.string s] w fun e w' => e = .returned (.string (putT s)) ∧ Below w.heap.size w w' := by
  unfold maxLen at hs
  by_cases hbig : 20000 < s.size
  · have HR : Hid (putT s = ⟨#[]⟩) := by show putT s = _; unfold putT; rw [if_pos hbig]
    go_enter Try.func53, Try.ntmps53
    go_wp2_with fail
    go_ret
    exact ⟨ret_str HR.out.symm, Below.refl _ _⟩
  · have HR : Hid (putT s = putS s.size ++ s) := by show putT s = _; unfold putT; rw [if_neg hbig]
    go_enter Try.func53, Try.ntmps53
    go_wp2_with fail
    refine (implPut _ _ (I64.ofNat (by omega))).mono ?_
    rintro e w1 ⟨rfl, hb1⟩
    have hz := putS_size s.size
    generalize putS s.size = p at *
    go_wp2_with fail
    go_ret
    exact ⟨ret_str HR.out.symm, hb1⟩
end Go.Proofs.Ytchfpiadfmnphaa
