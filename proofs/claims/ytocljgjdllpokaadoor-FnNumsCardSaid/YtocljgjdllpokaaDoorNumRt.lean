/- Numbers and texts come back from their bytes: plain mathematics. -/
import Derived.Test.YtocljgjdllpokaaDoorNum
import Derived.Test.YtocljgjdllpokaaDoorPutT
import Derived.Test.YtocljgjdllpokaaDoorTxt
namespace Go.Proofs.YtocljgjdllpokaaDoor
set_option linter.unusedVariables false

/- The bytes l stand in s from place p on. -/
def StandAt (s : ByteArray) (p : Nat) (l : List UInt8) : Prop := ∀ j (h : j < l.length), ∃ h2 : p + j < s.size, s[p + j] = l[j]
theorem StandAt.head {s : ByteArray} {p : Nat} {c : UInt8} {l : List UInt8} (h : StandAt s p (c :: l)) : ∃ h2 : p < s.size, s[p] = c := by
  obtain ⟨h2, h3⟩ := h 0 (by simp)
  exact ⟨h2, h3⟩
theorem StandAt.tail {s : ByteArray} {p : Nat} {c : UInt8} {l : List UInt8} (h : StandAt s p (c :: l)) : StandAt s (p + 1) l := by
  intro j hj
  obtain ⟨h2, h3⟩ := h (j + 1) (by simp; omega)
  have e : p + (j + 1) = p + 1 + j := by omega
  refine ⟨by omega, ?_⟩
  simp only [e] at h3
  simpa using h3
theorem ofNat_toNat {u : Nat} (h : u < 256) : (UInt8.ofNat u).toNat = u := by simp [Nat.mod_eq_of_lt h]

theorem scan_enc (s : ByteArray) (a : Nat) : ∀ f i u acc, i + f = 9 → u < 2 * 128 ^ f → (0 < i → 0 < u) → StandAt s (a + i) (enc f u) →
    scan s a (f + 1) i acc = ⟨unf (acc + u * 128 ^ i), ((a + i + (enc f u).length : Nat) : Int), 0⟩
  | 0, i, u, acc, hi, hu, h0, hs => by
    have hu2 : u < 2 := by simpa using hu
    have e : enc 0 u = [UInt8.ofNat u] := rfl
    rw [e] at hs ⊢
    obtain ⟨h1, h2⟩ := hs.head
    rw [scan, dif_pos h1, h2, ofNat_toNat (by omega), if_pos (by omega), fin_good (by omega)]
    rfl
  | f + 1, i, u, acc, hi, hu, h0, hs => by
    by_cases h128 : u < 128
    · rw [enc_last _ u h128] at hs ⊢
      obtain ⟨h1, h2⟩ := hs.head
      rw [scan, dif_pos h1, h2, ofNat_toNat (by omega), if_pos (by omega), fin_good (by omega)]
      rfl
    · have e : enc (f + 1) u = UInt8.ofNat (u % 128 + 128) :: enc f (u / 128) := by simp [enc, h128]
      rw [e] at hs ⊢
      obtain ⟨h1, h2⟩ := hs.head
      have ht : StandAt s (a + (i + 1)) (enc f (u / 128)) := hs.tail
      rw [scan, dif_pos h1, h2, ofNat_toNat (by omega), if_neg (by omega), scan_enc s a f (i + 1) (u / 128) _ (by omega) (by rw [Nat.pow_succ] at hu; omega) (fun _ => by omega) ht]
      have hx : acc + (u % 128 + 128 - 128) * 128 ^ i + u / 128 * 128 ^ (i + 1) = acc + u * 128 ^ i := by
        rw [Nat.pow_succ, Nat.add_sub_cancel, Nat.add_assoc, ← Nat.mul_assoc, Nat.mul_right_comm (u / 128), ← Nat.add_mul]
        congr 2
        omega
      have hy : a + (i + 1) + (enc f (u / 128)).length = a + i + (UInt8.ofNat (u % 128 + 128) :: enc f (u / 128)).length := by simp; omega
      rw [hx, hy]
theorem enc_pos (f u : Nat) : 0 < (enc f u).length := by
  cases f with
  | zero => simp [enc]
  | succ f => unfold enc; split <;> simp
theorem scan_cut (s : ByteArray) (a : Nat) : ∀ f i u acc, i + f = 9 → StandAt s (a + i) (enc f u).dropLast → s.size + 1 = a + i + (enc f u).length →
    scan s a (f + 1) i acc = ⟨0, 0, 4⟩
  | 0, i, u, acc, hi, hs, hz => by
    have e : enc 0 u = [UInt8.ofNat u] := rfl
    rw [e] at hz
    rw [scan, dif_neg (by simp at hz; omega)]
  | f + 1, i, u, acc, hi, hs, hz => by
    by_cases h128 : u < 128
    · rw [enc_last _ u h128] at hz
      rw [scan, dif_neg (by simp at hz; omega)]
    · have e : enc (f + 1) u = UInt8.ofNat (u % 128 + 128) :: enc f (u / 128) := by simp [enc, h128]
      have hp := enc_pos f (u / 128)
      have e2 : (UInt8.ofNat (u % 128 + 128) :: enc f (u / 128)).dropLast = UInt8.ofNat (u % 128 + 128) :: (enc f (u / 128)).dropLast := List.dropLast_cons_of_ne_nil (by intro h; rw [h] at hp; simp at hp)
      rw [e] at hs hz
      rw [e2] at hs
      obtain ⟨h1, h2⟩ := hs.head
      have ht : StandAt s (a + (i + 1)) (enc f (u / 128)).dropLast := hs.tail
      rw [scan, dif_pos h1, h2, ofNat_toNat (by omega), if_neg (by omega), scan_cut s a f (i + 1) (u / 128) _ (by omega) ht (by simp at hz; omega)]
theorem unf_fold {n : Int} (h : I64 n) : unf (foldN n) = n := by
  have := h.bd
  unfold unf foldN
  split <;> split <;> omega
theorem putS_len (n : Int) : (putS n).size = (enc 9 (foldN n)).length := by unfold putS; rfl
/- A number's text, with whatever stands ahead of it and behind it. -/
theorem getN_put {s : ByteArray} {a : Nat} {n : Int} (hn : I64 n) (hz : s.size ≤ 20000) (hs : StandAt s a (enc 9 (foldN n))) : getN s a = ⟨n, ((a + (putS n).size : Nat) : Int), 0⟩ := by
  unfold getN
  rw [if_neg (by omega), if_neg (by omega), Int.toNat_natCast, scan_enc s a 9 0 (foldN n) 0 rfl hn.foldLt (by omega) hs]
  simp [unf_fold hn, putS, ByteArray.size]
theorem getN_cut {s : ByteArray} {n : Int} (hz : s.size ≤ 20000) (hs : StandAt s 0 (enc 9 (foldN n)).dropLast) (hl : s.size + 1 = (putS n).size) : getN s 0 = ⟨0, 0, 4⟩ := by
  unfold getN
  rw [if_neg (by omega), if_neg (by omega), show (0 : Int).toNat = 0 from rfl, scan_cut s 0 9 0 (foldN n) 0 rfl hs (by rw [← putS_len]; omega)]
theorem stand_of {s : ByteArray} {p : Nat} {l : List UInt8} (h : ∀ j, j < l.length → s.data.toList[p + j]? = l[j]?) : StandAt s p l := by
  intro j hj
  have h1 := h j hj
  rw [List.getElem?_eq_getElem hj] at h1
  obtain ⟨h2, h3⟩ := List.getElem?_eq_some_iff.1 h1
  exact ⟨by simpa using h2, h3⟩
theorem stand_mid (x y z : ByteArray) : StandAt (x ++ y ++ z) x.size y.data.toList := by
  apply stand_of
  intro j hj
  have hx : x.data.toList.length = x.size := by simp
  simp only [ByteArray.data_append, Array.toList_append, List.append_assoc]
  rw [List.getElem?_append_right (by omega), hx, Nat.add_sub_cancel_left, List.getElem?_append_left hj]
theorem stand_right (x y : ByteArray) : StandAt (x ++ y) x.size y.data.toList := by
  apply stand_of
  intro j hj
  have hx : x.data.toList.length = x.size := by simp
  simp only [ByteArray.data_append, Array.toList_append]
  rw [List.getElem?_append_right (by omega), hx, Nat.add_sub_cancel_left]
theorem StandAt.left {s : ByteArray} {p : Nat} {l m : List UInt8} (h : StandAt s p (l ++ m)) : StandAt s p l := by
  intro j hj
  obtain ⟨h1, h2⟩ := h j (by simp; omega)
  exact ⟨h1, by rw [h2, List.getElem_append_left hj]⟩
theorem stand_cut (y : ByteArray) (k : Nat) : StandAt (y.extract 0 k) 0 (y.data.toList.take k) := by
  apply stand_of
  intro j hj
  simp
theorem num_back (n : Int) (hn : I64 n) : getN ((⟨#[120, 121]⟩ : ByteArray) ++ putS n ++ ⟨#[122]⟩) 2 = ⟨n, (((putS n).size + 2 : Nat) : Int), 0⟩ := by
  have h := getN_put (s := (⟨#[120, 121]⟩ : ByteArray) ++ putS n ++ ⟨#[122]⟩) (a := 2) hn (by have := putS_size n; rw [ByteArray.size_append, ByteArray.size_append]; show 2 + _ + 1 ≤ _; omega) (stand_mid ⟨#[120, 121]⟩ (putS n) ⟨#[122]⟩)
  rw [Nat.add_comm] at h
  exact h
theorem num_cut (n : Int) : getN ((putS n).extract 0 ((putS n).size - 1)) 0 = ⟨0, 0, 4⟩ := by
  have hz := putS_size n
  have hp : 0 < (putS n).size := by rw [putS_len]; exact enc_pos _ _
  refine getN_cut (n := n) (by rw [ByteArray.size_extract]; omega) ?_ (by rw [ByteArray.size_extract]; omega)
  have := stand_cut (putS n) ((putS n).size - 1)
  rw [putS_len] at this
  rw [putS_len, List.dropLast_eq_take]
  exact this
theorem extract_right (x u : ByteArray) : (x ++ u).extract x.size (x.size + u.size) = u := by
  apply ByteArray.ext
  apply Array.ext'
  have h1 : x.data.toList.length = x.size := by simp
  have h2 : u.data.toList.length = u.size := by simp
  rw [ByteArray.data_extract, ByteArray.data_append, Array.toList_extract, List.extract_eq_take_drop, Array.toList_append, Nat.add_sub_cancel_left, List.drop_append_of_le_length (by omega), List.drop_eq_nil_of_le (by omega), List.nil_append, List.take_of_length_le (by omega)]
theorem text_back (u : ByteArray) (h : 1 + ((putS u.size).size + u.size) ≤ 20000) : getT ((⟨#[120]⟩ : ByteArray) ++ (putS u.size ++ u)) 1 = ⟨u, (((putS u.size ++ u).size + 1 : Nat) : Int), 0⟩ := by
  have hz : ((⟨#[120]⟩ : ByteArray) ++ (putS u.size ++ u)).size = 1 + ((putS u.size).size + u.size) := by rw [ByteArray.size_append, ByteArray.size_append]; rfl
  have hs : StandAt ((⟨#[120]⟩ : ByteArray) ++ (putS u.size ++ u)) 1 (enc 9 (foldN u.size)) := by
    have := stand_right ⟨#[120]⟩ (putS u.size ++ u)
    simp only [ByteArray.data_append, Array.toList_append] at this
    exact this.left
  have hg := getN_put (s := (⟨#[120]⟩ : ByteArray) ++ (putS u.size ++ u)) (a := 1) (I64.ofNat (k := u.size) (by omega)) (by omega) hs
  have hg1 : getN ((⟨#[120]⟩ : ByteArray) ++ (putS u.size ++ u)) 1 = ⟨u.size, ((1 + (putS u.size).size : Nat) : Int), 0⟩ := hg
  unfold getT
  rw [hg1]
  rw [if_neg (by simp), if_neg (by simp; omega), if_neg (by rw [hz]; show ¬ ((1 + ((putS u.size).size + u.size) : Nat) : Int) < ((1 + (putS u.size).size : Nat) : Int) + (u.size : Int); omega)]
  have e1 : ((1 + (putS u.size).size : Nat) : Int).toNat = 1 + (putS u.size).size := by omega
  have e2 : (((1 + (putS u.size).size : Nat) : Int) + (u.size : Int)).toNat = 1 + ((putS u.size).size + u.size) := by omega
  have e3 : ((⟨#[120]⟩ : ByteArray) ++ (putS u.size ++ u)).extract (1 + (putS u.size).size) (1 + ((putS u.size).size + u.size)) = u := by
    have ha : ((⟨#[120]⟩ : ByteArray) ++ (putS u.size ++ u)) = (⟨#[120]⟩ ++ putS u.size) ++ u := by apply ByteArray.ext; simp
    have hb : ((⟨#[120]⟩ : ByteArray) ++ putS u.size).size = 1 + (putS u.size).size := by rw [ByteArray.size_append]; rfl
    rw [ha, ← hb, show 1 + ((putS u.size).size + u.size) = ((⟨#[120]⟩ : ByteArray) ++ putS u.size).size + u.size by rw [hb]; omega]
    exact extract_right _ _
  simp only [e1, e2, e3]
  rw [ByteArray.size_append]
  congr 1
  omega
theorem text_cut (u : ByteArray) (h : (putS u.size).size + u.size ≤ 20000) : getT ((putS u.size ++ u).extract 0 ((putS u.size ++ u).size - 1)) 0 = ⟨noText, 0, 4⟩ := by
  have hp : 0 < (putS u.size).size := by rw [putS_len]; exact enc_pos _ _
  by_cases h0 : u.size = 0
  · have hu : u = ByteArray.empty := ByteArray.size_eq_zero_iff.1 h0
    have hg : getN ((putS u.size ++ u).extract 0 ((putS u.size ++ u).size - 1)) 0 = ⟨0, 0, 4⟩ := by
      have := num_cut u.size
      rw [hu, ByteArray.append_empty]
      rw [hu] at this
      exact this
    unfold getT
    rw [hg, if_pos (by simp)]
  · have hz : ((putS u.size ++ u).extract 0 ((putS u.size ++ u).size - 1)).size = (putS u.size).size + u.size - 1 := by rw [ByteArray.size_extract, ByteArray.size_append]; omega
    have hs : StandAt ((putS u.size ++ u).extract 0 ((putS u.size ++ u).size - 1)) 0 (enc 9 (foldN u.size)) := by
      have := stand_cut (putS u.size ++ u) ((putS u.size ++ u).size - 1)
      simp only [ByteArray.data_append, Array.toList_append] at this
      rw [List.take_append, List.take_of_length_le (by rw [ByteArray.size_append]; show (enc 9 (foldN u.size)).length ≤ _; rw [← putS_len]; omega)] at this
      exact this.left
    have hg := getN_put (a := 0) (I64.ofNat (k := u.size) (by omega)) (by omega) hs
    have hg1 : getN ((putS u.size ++ u).extract 0 ((putS u.size ++ u).size - 1)) 0 = ⟨u.size, ((0 + (putS u.size).size : Nat) : Int), 0⟩ := hg
    unfold getT
    rw [hg1]
    rw [if_neg (by simp), if_neg (by simp; omega), if_pos (by rw [hz]; show (((putS u.size).size + u.size - 1 : Nat) : Int) < ((0 + (putS u.size).size : Nat) : Int) + (u.size : Int); omega)]
end Go.Proofs.YtocljgjdllpokaaDoor
