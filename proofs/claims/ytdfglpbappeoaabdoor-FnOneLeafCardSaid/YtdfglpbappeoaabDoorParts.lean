/- A text that is taken in parts: the state and the rest behind it are those of the text as a whole. -/
import Derived.Test.YtdfglpbappeoaabDoorDig
namespace Go.Proofs.YtdfglpbappeoaabDoor
open Go.RowKit
set_option linter.unusedVariables false

theorem extract_clamp (T : ByteArray) (a m : Nat) (h : T.size ≤ m) : T.extract a m = T.extract a T.size := by
  have e : T.extract 0 T.size = T := ByteArray.extract_zero_size
  have h1 : (T.extract 0 T.size).extract a m = T.extract a T.size := by
    rw [ByteArray.extract_extract, Nat.zero_add, Nat.zero_add, Nat.min_eq_right h]
  rw [e] at h1
  exact h1
theorem extract_none (T : ByteArray) (a : Nat) : T.extract a a = ⟨#[]⟩ := by
  apply ByteArray.ext
  rw [ByteArray.data_extract]
  simp
  omega
theorem append_none (T : ByteArray) : T ++ ⟨#[]⟩ = T := by
  apply ByteArray.ext
  rw [ByteArray.data_append]
  simp
theorem none_append (T : ByteArray) : (⟨#[]⟩ : ByteArray) ++ T = T := by
  apply ByteArray.ext
  rw [ByteArray.data_append]
  simp
theorem left_append (T x : ByteArray) (n : Nat) (hn : 64 * n ≤ T.size) : left T n ++ x = left (T ++ x) n := by
  unfold left
  rw [ByteArray.extract_append, ByteArray.size_append, extract_clamp T (64 * n) (T.size + x.size) (by omega), show 64 * n - T.size = 0 by omega, show T.size + x.size - T.size = x.size by omega, ByteArray.extract_zero_size]
theorem block_append (T x : ByteArray) (i : Nat) (hi : 64 * i + 64 ≤ T.size) : (T ++ x).extract (64 * i) (64 * i + 64) = T.extract (64 * i) (64 * i + 64) := by
  rw [ByteArray.extract_append, show 64 * i - T.size = 0 by omega, show 64 * i + 64 - T.size = 0 by omega, extract_none, append_none]
theorem stN_append (r : R8) (T x : ByteArray) : ∀ n, 64 * n ≤ T.size → stN r (T ++ x) n = stN r T n
  | 0, _ => rfl
  | n + 1, h => by rw [stN_succ, stN_succ, stN_append r T x n (by omega), block_append T x n (by omega)]
theorem stN_left (r : R8) (W : ByteArray) (n : Nat) : ∀ k, 64 * (n + k) ≤ W.size → stN (stN r W n) (left W n) k = stN r W (n + k)
  | 0, _ => rfl
  | k + 1, h => by
    rw [stN_succ, stN_left r W n k (by omega), show n + (k + 1) = (n + k) + 1 from rfl, stN_succ]
    congr 1
    unfold left
    rw [ByteArray.extract_extract]
    congr 1
    · omega
    · omega
theorem left_left (W : ByteArray) (n k : Nat) (h : 64 * n ≤ W.size) : left (left W n) k = left W (n + k) := by
  have hs := left_size W n
  conv => lhs; unfold left
  show (left W n).extract (64 * k) (left W n).size = _
  rw [hs]
  unfold left
  rw [ByteArray.extract_extract]
  congr 1
  · omega
  · omega
theorem mst_none (r : R8) (t : ByteArray) : mst r ⟨#[]⟩ t = stN r t (t.size / 64) := by unfold mst; rw [none_append]
theorem mlf_none (t : ByteArray) : mlf ⟨#[]⟩ t = left t (t.size / 64) := by unfold mlf; rw [none_append]
theorem parts (r : R8) (T x : ByteArray) : mst (mst r ⟨#[]⟩ T) (mlf ⟨#[]⟩ T) x = mst r ⟨#[]⟩ (T ++ x) ∧ mlf (mlf ⟨#[]⟩ T) x = mlf ⟨#[]⟩ (T ++ x) := by
  rw [mst_none, mst_none, mlf_none, mlf_none]
  obtain ⟨n, hn⟩ : ∃ n, T.size / 64 = n := ⟨_, rfl⟩
  have h1 : 64 * n ≤ T.size := by omega
  have hw : (T ++ x).size = T.size + x.size := ByteArray.size_append
  have h2 : 64 * n ≤ (T ++ x).size := by omega
  have hl := left_size (T ++ x) n
  rw [hn]
  unfold mst mlf
  rw [left_append T x n h1, ← stN_append r T x n h1]
  obtain ⟨k, hk⟩ : ∃ k, (left (T ++ x) n).size / 64 = k := ⟨_, rfl⟩
  have e : (T ++ x).size / 64 = n + k := by omega
  rw [hk, e]
  exact ⟨stN_left r (T ++ x) n k (by omega), left_left (T ++ x) n k h2⟩
/- What a Hash is behind a text. -/
def hst (T : ByteArray) : R8 := mst ivR ⟨#[]⟩ T
def hrs (T : ByteArray) : ByteArray := mlf ⟨#[]⟩ T
theorem hst_start : hst ⟨#[]⟩ = ivR := by
  show stN ivR _ _ = ivR
  rfl
theorem hrs_start : hrs ⟨#[]⟩ = ⟨#[]⟩ := by
  show mlf ⟨#[]⟩ ⟨#[]⟩ = _
  rw [mlf_none]
  exact left_zero _
theorem hst_more (T x : ByteArray) : mst (hst T) (hrs T) x = hst (T ++ x) := (parts ivR T x).1
theorem hrs_more (T x : ByteArray) : mlf (hrs T) x = hrs (T ++ x) := (parts ivR T x).2
theorem hrs_size (T : ByteArray) : (hrs T).size = T.size % 64 := by
  show (mlf ⟨#[]⟩ T).size = _
  rw [mlf_size]
  show (0 + T.size) % 64 = _
  rw [Nat.zero_add]
theorem digN_of (t : ByteArray) : digN t = endD (hst t) (hrs t) t.size := rfl
theorem cut_append (U : ByteArray) (n : Nat) (h : n ≤ U.size) : U.extract 0 n ++ U.extract n U.size = U := by
  apply ByteArray.ext
  rw [ByteArray.data_append, ByteArray.data_extract, ByteArray.data_extract]
  have hs : U.size = U.data.size := rfl
  rw [hs] at h ⊢
  apply Array.ext'
  simp
  rw [Nat.max_eq_right (by rw [hs]; exact h), hs]
  exact List.take_of_length_le (by rw [Array.length_toList]; exact Nat.le_refl _)
end Go.Proofs.YtdfglpbappeoaabDoor
