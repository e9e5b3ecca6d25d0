/- Texts come back from their digits, and digits from their texts: plain mathematics. -/
import Derived.Test.YtocljgjdllpokaaDoorHexI
import Derived.Test.YtocljgjdllpokaaDoorHexR
namespace Go.Proofs.YtocljgjdllpokaaDoor
set_option linter.unusedVariables false

theorem digI_hexD : ∀ n : Fin 16, digI (hexD (n.val : Int)).toNat = (n.val : Int) := by decide +kernel
theorem hexD_digI : ∀ n : Fin 256, 0 ≤ digI (n.val : Int) → hexD (digI (n.val : Int)) = UInt8.ofNat n.val := by decide +kernel
theorem digI_hexD' (i : Int) (h0 : 0 ≤ i) (h1 : i < 16) : digI (hexD i).toNat = i := by
  have := digI_hexD ⟨i.toNat, by omega⟩
  rw [Int.toNat_of_nonneg h0] at this
  exact this
theorem hexD_digI' (a : UInt8) (h : 0 ≤ digI a.toNat) : hexD (digI a.toNat) = a := by
  have := hexD_digI ⟨a.toNat, a.toNat_lt⟩ h
  rw [this]; simp
theorem hexB_back (c : UInt8) : hexB (hexD ((c.toNat : Int) / 16)) (hexD ((c.toNat : Int) % 16)) = c := by
  have hc := c.toNat_lt
  unfold hexB
  rw [digI_hexD' _ (by omega) (by omega), digI_hexD' _ (by omega) (by omega)]
  rw [show (16 * ((c.toNat : Int) / 16) + (c.toNat : Int) % 16).toNat = c.toNat by omega]
  simp
theorem pairs_hexL (l : List UInt8) : pairs (hexL l) = some l := by
  induction l with
  | nil => rfl
  | cons c l ih =>
    have hc := c.toNat_lt
    have e : hexL (c :: l) = hexD ((c.toNat : Int) / 16) :: hexD ((c.toNat : Int) % 16) :: hexL l := rfl
    rw [e, pairs, ih, if_neg (by rw [digI_hexD' _ (by omega) (by omega), digI_hexD' _ (by omega) (by omega)]; omega), hexB_back]
    rfl
theorem hexL_pairs : ∀ (n : Nat) (l m : List UInt8), l.length ≤ n → pairs l = some m → hexL m = l
  | _, [], m, _, h => by simp [pairs] at h; subst h; rfl
  | _, [_], m, _, h => by simp [pairs] at h
  | n + 2, a :: b :: r, m, hl, h => by
    rw [pairs] at h
    split at h
    · cases h
    · rename_i hd
      obtain ⟨m', hm, rfl⟩ := Option.map_eq_some_iff.1 h
      have ih := hexL_pairs n r m' (by simp at hl; omega) hm
      have ra := digI_range a.toNat
      have rb := digI_range b.toNat
      have hB : (hexB a b).toNat = (16 * digI a.toNat + digI b.toNat).toNat := by
        unfold hexB
        simp
        omega
      have e : hexL (hexB a b :: m') = hexD (((hexB a b).toNat : Int) / 16) :: hexD (((hexB a b).toNat : Int) % 16) :: hexL m' := rfl
      have e1 : ((hexB a b).toNat : Int) / 16 = digI a.toNat := by rw [hB]; omega
      have e2 : ((hexB a b).toNat : Int) % 16 = digI b.toNat := by rw [hB]; omega
      rw [e, ih, e1, e2, hexD_digI' a (by omega), hexD_digI' b (by omega)]
  | 1, _ :: _ :: _, _, hl, _ => by simp at hl
  | 0, _ :: _ :: _, _, hl, _ => by simp at hl
theorem hex_size (t : ByteArray) (h : t.size ≤ 20000) : (hexS t).size = 2 * t.size := by
  unfold hexS
  rw [if_neg (by omega)]
  show (hexL t.data.toList).toArray.size = _
  rw [List.size_toArray, hexL_length]
  simp
theorem hex_back (t : ByteArray) (h : t.size ≤ 10000) : hexRd (hexS t) = ⟨t, 0, 0⟩ := by
  have hz := hex_size t (by omega)
  unfold hexRd
  rw [if_neg (by omega)]
  unfold hexS
  rw [if_neg (by omega)]
  simp only [pairs_hexL]
theorem hex_fore {u x : ByteArray} (h : hexRd u = ⟨x, 0, 0⟩) : hexS x = u ∧ x.size ≤ 10000 := by
  unfold hexRd at h
  split at h
  · cases h
  · rename_i hz
    split at h
    · rename_i l hl
      cases h
      have hp := hexL_pairs _ _ _ (Nat.le_refl _) hl
      have hlen : (hexL l).length = u.size := by rw [hp]; simp
      rw [hexL_length] at hlen
      have hs : (⟨l.toArray⟩ : ByteArray).size = l.length := rfl
      refine ⟨?_, by omega⟩
      unfold hexS
      rw [if_neg (by omega)]
      show (⟨(hexL l).toArray⟩ : ByteArray) = u
      rw [hp]
    · cases h
end Go.Proofs.YtocljgjdllpokaaDoor
