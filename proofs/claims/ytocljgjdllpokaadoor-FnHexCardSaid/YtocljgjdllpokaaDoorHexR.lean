/- The text whose digits of sixteen a text is, said once: what both HexRead functions answer. -/
import Derived.Test.YtocljgjdllpokaaDoorTx
import Derived.Test.YtocljgjdllpokaaDoorRow
namespace Go.Proofs.YtocljgjdllpokaaDoor
open Go.RowKit
set_option linter.unusedVariables false

def digI (c : Int) : Int := if 48 ≤ c ∧ c ≤ 57 then c - 48 else if 97 ≤ c ∧ c ≤ 102 then c - 87 else -1
theorem digI_range (c : Int) : -1 ≤ digI c ∧ digI c ≤ 15 := by
  unfold digI; split
  · omega
  · split <;> omega
def hexB (a b : UInt8) : UInt8 := UInt8.ofNat (16 * digI a.toNat + digI b.toNat).toNat
/- The bytes that pairs of digits stand for; none if one is no digit, or one is left over. -/
def pairs : List UInt8 → Option (List UInt8)
  | [] => some []
  | [_] => none
  | a :: b :: r => if digI a.toNat < 0 ∨ digI b.toNat < 0 then none else (pairs r).map (hexB a b :: ·)
def hexRd (s : ByteArray) : TX := if 20000 < s.size then ⟨noText, 0, 2⟩ else match pairs s.data.toList with
  | some l => ⟨⟨l.toArray⟩, 0, 0⟩
  | none => ⟨noText, 0, 3⟩
/- Behind k pairs bs is out, and the rest decides. -/
def Pr (s : ByteArray) (k : Nat) (bs : List UInt8) : Prop := bs.length = k ∧ pairs s.data.toList = (pairs (s.data.toList.drop (2 * k))).map (bs ++ ·)
theorem Pr.start (s : ByteArray) : Pr s 0 [] := ⟨rfl, by simp⟩
theorem drop_two (s : ByteArray) (k : Nat) (h : 2 * k + 1 < s.size) : s.data.toList.drop (2 * k) = s[2 * k] :: s[2 * k + 1] :: s.data.toList.drop (2 * (k + 1)) := by
  have hl : s.data.toList.length = s.size := by simp
  rw [List.drop_eq_getElem_cons (by omega), List.drop_eq_getElem_cons (by omega)]
  rfl
theorem Pr.step {s : ByteArray} {k : Nat} {bs : List UInt8} (h : Pr s k bs) (hk : 2 * k + 1 < s.size) (h1 : 0 ≤ digI s[2 * k].toNat) (h2 : 0 ≤ digI s[2 * k + 1].toNat) : Pr s (k + 1) (bs ++ [hexB s[2 * k] s[2 * k + 1]]) := by
  obtain ⟨hl, hp⟩ := h
  refine ⟨by simp [hl], ?_⟩
  rw [hp, drop_two s k hk, pairs, if_neg (by omega)]
  cases pairs (s.data.toList.drop (2 * (k + 1))) <;> simp
theorem Pr.bad {s : ByteArray} {k : Nat} {bs : List UInt8} (h : Pr s k bs) (hs : ¬ 20000 < s.size) (hk : 2 * k + 1 < s.size) (hb : digI s[2 * k].toNat < 0 ∨ digI s[2 * k + 1].toNat < 0) : hexRd s = ⟨noText, 0, 3⟩ := by
  obtain ⟨hl, hp⟩ := h
  rw [drop_two s k hk, pairs, if_pos hb] at hp
  unfold hexRd
  rw [if_neg hs, hp]
  rfl
theorem Pr.done {s : ByteArray} {k : Nat} {bs : List UInt8} (h : Pr s k bs) (hs : ¬ 20000 < s.size) (hk : s.size = 2 * k) : hexRd s = ⟨⟨bs.toArray⟩, 0, 0⟩ := by
  obtain ⟨hl, hp⟩ := h
  rw [List.drop_eq_nil_of_le (by simp; omega), pairs] at hp
  unfold hexRd
  rw [if_neg hs, hp]
  simp
theorem pairs_odd : ∀ (n : Nat) (l : List UInt8), l.length = 2 * n + 1 → pairs l = none
  | 0, [_], _ => rfl
  | n + 1, a :: b :: r, h => by
    rw [pairs]
    split
    · rfl
    · rw [pairs_odd n r (by simp at h; omega)]; rfl
theorem hexRd_odd {s : ByteArray} (hs : ¬ 20000 < s.size) (h : s.size % 2 = 1) : hexRd s = ⟨noText, 0, 3⟩ := by
  unfold hexRd
  rw [if_neg hs, pairs_odd (s.size / 2) _ (by simp; omega)]
theorem hexRd_big {s : ByteArray} (hs : 20000 < s.size) : hexRd s = ⟨noText, 0, 2⟩ := by unfold hexRd; rw [if_pos hs]
theorem hexB_bv (a b : UInt8) (h1 : 0 ≤ digI a.toNat) (h2 : 0 ≤ digI b.toNat) : BV (hexB a b) = .int .u8 (16 * digI a.toNat + digI b.toNat) := by
  have r1 := digI_range a.toNat
  have r2 := digI_range b.toNat
  unfold hexB
  rw [BV_ofNat _ (by omega), Int.toNat_of_nonneg (by omega)]
theorem Pr.step' {s : ByteArray} {k j : Nat} {bs : List UInt8} {ca cb : Int} (h : Pr s k bs) (hj : j = 2 * k) (hk : j + 1 < s.size) (ha : (s[j].toNat : Int) = ca) (hb : (s[j + 1].toNat : Int) = cb) (h1 : 0 ≤ digI ca) (h2 : 0 ≤ digI cb) :
    ∃ x : UInt8, BV x = .int .u8 (16 * digI ca + digI cb) ∧ Pr s (k + 1) (bs ++ [x]) := by
  subst hj ha hb
  exact ⟨_, hexB_bv _ _ h1 h2, h.step hk h1 h2⟩
theorem Pr.bad' {s : ByteArray} {k j : Nat} {bs : List UInt8} {ca cb : Int} (h : Pr s k bs) (hs : ¬ 20000 < s.size) (hj : j = 2 * k) (hk : j + 1 < s.size) (ha : (s[j].toNat : Int) = ca) (hb : (s[j + 1].toNat : Int) = cb) (hd : digI ca < 0 ∨ digI cb < 0) :
    hexRd s = ⟨noText, 0, 3⟩ := by
  subst hj ha hb
  exact h.bad hs hk hd
end Go.Proofs.YtocljgjdllpokaaDoor
