/- Digest of both sides, for every text: one text. -/
import Derived.Test.YtchfpiadfmnphaaDoorMoreI
namespace Go.Proofs.YtchfpiadfmnphaaDoor
open Go.RowKit
set_option linter.unusedVariables false

def ivR : R8 := ⟨1779033703, 3144134277, 1013904242, 2773480762, 1359893119, 2600822924, 528734635, 1541459225⟩
theorem ivR_ints : ivR.ints = iv := by decide
/- What a Hash is behind a text: its state, its rest; and the digest of a Hash. -/
def mst (r : R8) (s t : ByteArray) : R8 := stN r (s ++ t) ((s ++ t).size / 64)
def mlf (s t : ByteArray) : ByteArray := left (s ++ t) ((s ++ t).size / 64)
def padB (z : Nat) : ByteArray := ⟨(padL z).toArray⟩
def endD (r : R8) (s : ByteArray) (z : Nat) : ByteArray := ⟨(digs8 (stN r (s ++ padB z) ((s ++ padB z).size / 64)) 8).toArray⟩
def digN (t : ByteArray) : ByteArray := endD (mst ivR ⟨#[]⟩ t) (mlf ⟨#[]⟩ t) t.size
def digA (t : ByteArray) : ByteArray := if 20000 < t.size then ⟨#[]⟩ else digN t
theorem mlf_size (s t : ByteArray) : (mlf s t).size = (s.size + t.size) % 64 := by
  unfold mlf
  rw [left_size, ByteArray.size_append]
  omega
theorem mlf_of {s t : ByteArray} {z : Nat} (hs : s.size = z % 64) : (mlf s t).size = (z + t.size) % 64 := by
  rw [mlf_size, hs]; omega
theorem ret_str' {a b : ByteArray} (h : a = b) : Ending.returned (.string a) = .returned (.string b) := by rw [h]

/- The contracts, over these words. -/
theorem moreS_m (g c : Nat) (r : R8) (s t : ByteArray) (z : Nat) (w : World) (h : IAt w (some ⟨g, 0, none⟩) r.ints) (hs : s.size ≤ 64) (ht : t.size ≤ 1048576) (hz : z ≤ 1099511627776) :
    Calls Tryd.prog 48 #[HVal (some ⟨g, 0, none⟩) 8 c s (z : Int), .string t] w fun e w' => ∃ g2 c2, e = .returned (HVal (some ⟨g2, 0, none⟩) 8 c2 (mlf s t) ((z + t.size : Nat) : Int)) ∧ w.heap.size ≤ g2 ∧ g2 < w'.heap.size ∧ IAt w' (some ⟨g2, 0, none⟩) (mst r s t).ints ∧ Below w.heap.size w w' := by
  refine (moreS_any g c r s t z w h hs ht hz).mono ?_
  rintro e w' ⟨g2, c2, h1, h2, h3, h4, h5⟩
  exact ⟨g2, c2, h1, h2, h3, h4.iat, h5⟩
theorem moreI_m (g c : Nat) (r : R8) (s t : ByteArray) (z : Nat) (w : World) (h : IAt w (some ⟨g, 0, none⟩) r.ints) (hs : s.size = z % 64) (ht : t.size ≤ 20000) (hz : z + t.size ≤ 1099511627776) (hk : ArrU w 0 keys) (h0 : 0 < w.heap.size) :
    Calls Tryd.prog 61 #[HVal (some ⟨g, 0, none⟩) 8 c s (z : Int), .string t] w fun e w' => ∃ g2 c2, e = .returned (HVal (some ⟨g2, 0, none⟩) 8 c2 (mlf s t) ((z + t.size : Nat) : Int)) ∧ w.heap.size ≤ g2 ∧ g2 < w'.heap.size ∧ IAt w' (some ⟨g2, 0, none⟩) (mst r s t).ints ∧ Below w.heap.size w w' :=
  moreI_any g c r s t z w h hs ht hz hk h0
theorem more_holds : More := fun g c r s t z w h hs ht hz => moreS_any g c r s t z w h hs ht hz
theorem endS_m (g c : Nat) (r : R8) (s : ByteArray) (z : Nat) (w : World) (h : IAt w (some ⟨g, 0, none⟩) r.ints) (hs : s.size ≤ 64) (hz : z ≤ 1099511627776) :
    Calls Tryd.prog 47 #[HVal (some ⟨g, 0, none⟩) 8 c s (z : Int)] w fun e w' => e = .returned (.string (endD r s z)) ∧ Below w.heap.size w w' :=
  endS_any more_holds g c r s z w h hs hz
theorem endI_m (g c : Nat) (r : R8) (s : ByteArray) (z : Nat) (w : World) (h : IAt w (some ⟨g, 0, none⟩) r.ints) (hs : s.size = z % 64) (hz : z ≤ 1099511627776) (hk : ArrU w 0 keys) (h0 : 0 < w.heap.size) :
    Calls Tryd.prog 60 #[HVal (some ⟨g, 0, none⟩) 8 c s (z : Int)] w fun e w' => e = .returned (.string (endD r s z)) ∧ Below w.heap.size w w' :=
  endI_any g c r s z w h hs hz hk h0

set_option maxRecDepth 100000 in
set_option maxHeartbeats 1000000 in
theorem digestS_any (t : ByteArray) (w : World) (ht : t.size ≤ maxLen) :
    Calls Tryd.prog 26 #[.string t] w fun e w' => e = .returned (.string (digA t)) ∧ Below w.heap.size w w' := by
  unfold maxLen at ht
  by_cases hbig : 20000 < t.size
  · have HR : Hid (digA t = ⟨#[]⟩) := if_pos hbig
    go_enter Tryd.func26, Tryd.ntmps26
    go_wp2
    go_ret
    exact ⟨ret_str' HR.out.symm, Below.refl _ _⟩
  have HR : Hid (digA t = digN t) := if_neg hbig
  have hM : ∀ g c w0, IAt w0 (some ⟨g, 0, none⟩) iv → Calls Tryd.prog 48 #[HVal (some ⟨g, 0, none⟩) 8 c ⟨#[]⟩ 0, .string t] w0 fun e w' => ∃ g2 c2, e = .returned (HVal (some ⟨g2, 0, none⟩) 8 c2 (mlf ⟨#[]⟩ t) (t.size : Int)) ∧ w0.heap.size ≤ g2 ∧ g2 < w'.heap.size ∧ IAt w' (some ⟨g2, 0, none⟩) (mst ivR ⟨#[]⟩ t).ints ∧ Below w0.heap.size w0 w' := fun g c w0 h => by
    have := moreS_m g c ivR ⟨#[]⟩ t 0 w0 (by rw [ivR_ints]; exact h) (by decide) (by omega) (by omega)
    rw [Nat.zero_add] at this
    exact this
  have hE : ∀ g c w0, IAt w0 (some ⟨g, 0, none⟩) (mst ivR ⟨#[]⟩ t).ints → Calls Tryd.prog 47 #[HVal (some ⟨g, 0, none⟩) 8 c (mlf ⟨#[]⟩ t) (t.size : Int)] w0 fun e w' => e = .returned (.string (digN t)) ∧ Below w0.heap.size w0 w' := fun g c w0 h =>
    endS_m g c _ _ t.size w0 h (by rw [mlf_size]; omega) (by omega)
  generalize digN t = D at *
  generalize mlf ⟨#[]⟩ t = lf at *
  generalize (mst ivR ⟨#[]⟩ t).ints = l at *
  go_enter Tryd.func26, Tryd.ntmps26
  go_wp2_with (first
    | (go_at_call 49; refine (beginS_any _).mono ?_; rintro e w1 ⟨g1, rfl, hg1, hl1, hI1, hB1⟩)
    | (go_at_call 48; refine (hM g1 8 _ hI1).mono ?_; rintro e w2 ⟨g2, c2, rfl, hg2, hl2, hI2, hB2⟩)
    | (go_at_call 47; refine (hE g2 c2 _ hI2).mono ?_; rintro e w3 ⟨rfl, hB3⟩))
  go_ret
  exact ⟨ret_str' HR.out.symm, (hB1.trans (hB2.mono hB1.size)).trans (hB3.mono (Nat.le_trans hB1.size hB2.size))⟩

set_option maxRecDepth 100000 in
set_option maxHeartbeats 1000000 in
theorem digestI_any (t : ByteArray) (w : World) (ht : t.size ≤ maxLen) (hk : ArrU w 0 keys) (h0 : 0 < w.heap.size) :
    Calls Tryd.prog 43 #[.string t] w fun e w' => e = .returned (.string (digA t)) ∧ Below w.heap.size w w' := by
  unfold maxLen at ht
  by_cases hbig : 20000 < t.size
  · have HR : Hid (digA t = ⟨#[]⟩) := if_pos hbig
    clear hk
    go_enter Tryd.func43, Tryd.ntmps43
    go_wp2
    go_ret
    exact ⟨ret_str' HR.out.symm, Below.refl _ _⟩
  have HR : Hid (digA t = digN t) := if_neg hbig
  have HK : Hid (ArrU w 0 keys) := hk
  clear hk
  have hM : ∀ g c w0, ArrU w0 0 keys → 0 < w0.heap.size → IAt w0 (some ⟨g, 0, none⟩) iv → Calls Tryd.prog 61 #[HVal (some ⟨g, 0, none⟩) 8 c ⟨#[]⟩ 0, .string t] w0 fun e w' => ∃ g2 c2, e = .returned (HVal (some ⟨g2, 0, none⟩) 8 c2 (mlf ⟨#[]⟩ t) (t.size : Int)) ∧ w0.heap.size ≤ g2 ∧ g2 < w'.heap.size ∧ IAt w' (some ⟨g2, 0, none⟩) (mst ivR ⟨#[]⟩ t).ints ∧ Below w0.heap.size w0 w' := fun g c w0 k1 k2 h => by
    have := moreI_m g c ivR ⟨#[]⟩ t 0 w0 (by rw [ivR_ints]; exact h) (by decide) (by omega) (by omega) k1 k2
    rw [Nat.zero_add] at this
    exact this
  have hE : ∀ g c w0, ArrU w0 0 keys → 0 < w0.heap.size → IAt w0 (some ⟨g, 0, none⟩) (mst ivR ⟨#[]⟩ t).ints → Calls Tryd.prog 60 #[HVal (some ⟨g, 0, none⟩) 8 c (mlf ⟨#[]⟩ t) (t.size : Int)] w0 fun e w' => e = .returned (.string (digN t)) ∧ Below w0.heap.size w0 w' := fun g c w0 k1 k2 h =>
    endI_m g c _ _ t.size w0 h (by rw [mlf_size]; show (0 + t.size) % 64 = t.size % 64; rw [Nat.zero_add]) (by omega) k1 k2
  generalize digN t = D at *
  generalize mlf ⟨#[]⟩ t = lf at *
  generalize (mst ivR ⟨#[]⟩ t).ints = l at *
  go_enter Tryd.func43, Tryd.ntmps43
  go_wp2_with (first
    | (go_at_call 62; refine (beginI_any _).mono ?_; rintro e w1 ⟨g1, rfl, hg1, hl1, hI1, hB1⟩)
    | (go_at_call 61; refine (hM g1 8 _ (HK.out.below hB1 h0) (by have := hB1.size; omega) hI1).mono ?_; rintro e w2 ⟨g2, c2, rfl, hg2, hl2, hI2, hB2⟩)
    | (go_at_call 60; refine (hE g2 c2 _ (HK.out.below (hB1.trans (hB2.mono hB1.size)) h0) (by have := hB1.size; have := hB2.size; omega) hI2).mono ?_; rintro e w3 ⟨rfl, hB3⟩))
  go_ret
  exact ⟨ret_str' HR.out.symm, (hB1.trans (hB2.mono hB1.size)).trans (hB3.mono (Nat.le_trans hB1.size hB2.size))⟩

theorem digs8_length (r : R8) : (digs8 r 8).length = 32 := rfl
theorem endD_size (r : R8) (s : ByteArray) (z : Nat) : (endD r s z).size = 32 := by
  show (digs8 _ 8).toArray.size = 32
  rw [List.size_toArray, digs8_length]
end Go.Proofs.YtchfpiadfmnphaaDoor
