/- The number of a text's digest, its first seven bytes, on both sides: one number. -/
import Derived.Test.YtmahpmjkejnkfaaDoorDig
import Derived.Test.YtmahpmjkejnkfaaDoorMod
import Derived.Laws.BitsLemmas
namespace Go.Proofs.YtmahpmjkejnkfaaDoor
open Go.RowKit
set_option linter.unusedVariables false

def byteAt (d : ByteArray) (k : Nat) : Nat := (d.data.getD k 0).toNat
theorem byteAt_lt (d : ByteArray) (k : Nat) : byteAt d k < 256 := UInt8.toNat_lt _
def numK (d : ByteArray) : Nat → Nat
  | 0 => 0
  | k + 1 => 256 * numK d k + byteAt d k
theorem numK_lt (d : ByteArray) : ∀ k, numK d k < 256 ^ k
  | 0 => by simp [numK]
  | k + 1 => by
    have h1 := numK_lt d k
    have h2 := byteAt_lt d k
    rw [numK, Nat.pow_succ]
    omega
theorem numK_le (d : ByteArray) {k : Nat} (h : k < 7) : numK d k ≤ 281474976710655 := by
  have h1 := numK_lt d k
  have h2 : 256 ^ k ≤ 256 ^ 6 := Nat.pow_le_pow_right (by omega) (by omega)
  omega
def num7 (t : ByteArray) : Int := (numK (digN t) 7 : Int)
theorem num7_bd (t : ByteArray) : 0 ≤ num7 t ∧ num7 t ≤ 72057594037927935 := by
  unfold num7
  have h1 := numK_lt (digN t) 7
  omega
theorem or_byte {n b : Nat} (hn : n ≤ 281474976710655) (hb : b < 256) : bits .or .i64 ((n : Int) * 256) (b : Int) = 256 * (n : Int) + (b : Int) := by
  rw [bits_join .i64 62 (by decide) (fun z h0 h1 => by rw [IntKind.wrap_i64]; omega) 8 _ _ (by omega) (by omega) (by omega) (by omega) (by omega) (by omega)]
  omega
theorem digs8_len (r : R8) : (digs8 r 8).length = 32 := rfl
theorem digN_size (t : ByteArray) : (digN t).size = 32 := by
  show (digs8 _ 8).toArray.size = 32
  rw [List.size_toArray, digs8_len]
theorem run_at7 {P : Program} (t : TypeId) (s : ByteArray) (k : Nat) (h : P.underlying t = some .string) (hk : k < s.size) :
    ∀ w, (Instr.index t (.string s) (.int .i64 (k : Int))).run P w = .ok (.int .u8 (byteAt s k : Int)) w := by
  intro w
  rw [run_index_string (P := P) w t s .i64 k h, dif_pos ⟨by omega, by omega⟩]
  congr 3
  unfold byteAt
  rw [Array.getD_eq_getD_getElem?, Array.getElem?_eq_getElem (show k < s.data.size from hk), Option.getD_some]
  rfl

set_option maxRecDepth 100000 in
set_option maxHeartbeats 1000000 in
theorem specNum (t : ByteArray) (w : World) (ht : t.size ≤ 1048576) :
    Calls Tryd.prog 46 #[.string t] w fun e w' => e = .returned (.int .i64 (num7 t)) ∧ Below w.heap.size w w' := by
  have hM : ∀ g c w0, IAt w0 (some ⟨g, 0, none⟩) iv → Calls Tryd.prog 62 #[HVal (some ⟨g, 0, none⟩) 8 c ⟨#[]⟩ 0, .string t] w0 fun e w' => ∃ g2 c2, e = .returned (HVal (some ⟨g2, 0, none⟩) 8 c2 (mlf ⟨#[]⟩ t) (t.size : Int)) ∧ w0.heap.size ≤ g2 ∧ g2 < w'.heap.size ∧ IAt w' (some ⟨g2, 0, none⟩) (mst ivR ⟨#[]⟩ t).ints ∧ Below w0.heap.size w0 w' := fun g c w0 h => by
    have := moreS_m g c ivR ⟨#[]⟩ t 0 w0 (by rw [ivR_ints]; exact h) (by decide) (by omega) (by omega)
    rw [Nat.zero_add] at this
    exact this
  have hE : ∀ g c w0, IAt w0 (some ⟨g, 0, none⟩) (mst ivR ⟨#[]⟩ t).ints → Calls Tryd.prog 61 #[HVal (some ⟨g, 0, none⟩) 8 c (mlf ⟨#[]⟩ t) (t.size : Int)] w0 fun e w' => e = .returned (.string (digN t)) ∧ Below w0.heap.size w0 w' := fun g c w0 h =>
    endS_m g c _ _ t.size w0 h (by rw [mlf_size]; omega) (by omega)
  have HD : Hid ((digN t).size = 32) := digN_size t
  have HN : Hid ((numK (digN t) 7 : Int) = num7 t) := rfl
  generalize num7 t = N at *
  generalize digN t = D at *
  generalize mlf ⟨#[]⟩ t = lf at *
  generalize (mst ivR ⟨#[]⟩ t).ints = l at *
  go_enter Tryd.func46, Tryd.ntmps46
  go_wp2_with (first
    | (go_at_call 63; refine (beginS_any _).mono ?_; rintro e w1 ⟨g1, rfl, hg1, hl1, hI1, hB1⟩)
    | (go_at_call 62; refine (hM g1 8 _ hI1).mono ?_; rintro e w2 ⟨g2, c2, rfl, hg2, hl2, hI2, hB2⟩)
    | (go_at_call 61; refine (hE g2 c2 _ hI2).mono ?_; rintro e w3 ⟨rfl, hB3⟩))
  have HB : Hid (Below w.heap.size w w3) := (hB1.trans (hB2.mono hB1.size)).trans (hB3.mono (Nat.le_trans hB1.size hB2.size))
  clear hB1 hB2 hB3 hI1 hI2 hM hE
  go_loop [4, 5] (fun vn vi => ∃ k : Nat, vi = .int .i64 (k : Int) ∧ vn = .int .i64 (numK D k : Int) ∧ k ≤ 7) (fun _ vi => 7 - (intOf vi).toNat)
  case atStart => exact ⟨0, rfl, rfl, by omega⟩
  case round =>
    obtain ⟨k, rfl, rfl, hk⟩ := hrel
    by_cases hlt : k < 7
    · have hle := numK_le D hlt
      have hb := byteAt_lt D k
      have hat := run_at7 (P := Tryd.prog) 9 D k Tryd.underlying9 (by have := HD.out; omega)
      have HS : Hid ((numK D (k + 1) : Int) = 256 * (numK D k : Int) + (byteAt D k : Int)) := by show _ = _; rw [numK]; omega
      generalize numK D k = n at *
      generalize byteAt D k = b at *
      have lk : (k : Int) < 7 := by omega
      go_wp2
      exact ⟨⟨k + 1, by go_num, by rw [HS.out], by omega⟩, by simp [intOf]; omega⟩
    · obtain rfl : k = 7 := by omega
      go_wp2
      go_ret
      exact ⟨retN HN.out, HB.out⟩

set_option maxRecDepth 100000 in
set_option maxHeartbeats 1000000 in
theorem implNum (t : ByteArray) (w : World) (ht : t.size ≤ 20000) (hk : ArrU w 0 keys) (h0 : 0 < w.heap.size) :
    Calls Tryd.prog 68 #[.string t] w fun e w' => e = .returned (.int .i64 (num7 t)) ∧ Below w.heap.size w w' := by
  have hD : Calls Tryd.prog 74 #[.string t] w fun e w' => e = .returned (.string (digN t)) ∧ Below w.heap.size w w' := by
    have := digestI_any t w (by unfold maxLen; omega) hk h0
    rw [show digA t = digN t from if_neg (by omega)] at this
    exact this
  have HDg : Hid (Calls Tryd.prog 74 #[.string t] w fun e w' => e = .returned (.string (digN t)) ∧ Below w.heap.size w w') := hD
  have HD : Hid ((digN t).size = 32) := digN_size t
  have HN : Hid ((numK (digN t) 7 : Int) = num7 t) := rfl
  clear hk hD
  generalize num7 t = N at *
  generalize digN t = D at *
  go_enter Tryd.func68, Tryd.ntmps68
  go_wp2_with (go_at_call 74; refine HDg.out.mono ?_; rintro e w3 ⟨rfl, hB3⟩)
  have HB : Hid (Below w.heap.size w w3) := hB3
  clear hB3 HDg
  rw [show min (7 : Int) (D.size : Int) = 7 by have := HD.out; omega]
  go_loop [4, 11] (fun vn vi => ∃ k : Nat, vi = .int .i64 (k : Int) ∧ vn = .int .i64 (numK D k : Int) ∧ k ≤ 7) (fun _ vi => 7 - (intOf vi).toNat)
  case atStart => exact ⟨0, rfl, rfl, by omega⟩
  case round =>
    obtain ⟨k, rfl, rfl, hk⟩ := hrel
    by_cases hlt : k < 7
    · have hle := numK_le D hlt
      have hb := byteAt_lt D k
      have hat := run_at7 (P := Tryd.prog) 9 D k Tryd.underlying9 (by have := HD.out; omega)
      have HS : Hid ((numK D (k + 1) : Int) = 256 * (numK D k : Int) + (byteAt D k : Int)) := by show _ = _; rw [numK]; omega
      generalize numK D k = n at *
      generalize byteAt D k = b at *
      have lk : (k : Int) < 7 := by omega
      go_wp2
      exact ⟨⟨k + 1, by go_num, by rw [HS.out, or_byte hle hb], by omega⟩, by simp [intOf]; omega⟩
    · obtain rfl : k = 7 := by omega
      go_wp2
      go_ret
      exact ⟨retN HN.out, HB.out⟩
end Go.Proofs.YtmahpmjkejnkfaaDoor
