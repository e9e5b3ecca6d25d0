/- What the specification's GetNum answers, for every text and place. -/
import Derived.Test.YtchfpiadfmnphaaDoorJn5
namespace Go.Proofs.YtchfpiadfmnphaaDoor
open Go.RowKit
set_option linter.unusedVariables false


set_option maxRecDepth 100000 in
set_option maxHeartbeats 1000000 in
theorem specGet (s : ByteArray) (p : Int) (w : World) (hs : s.size ≤ maxLen) (hp : I64 p) :
    Calls Tryd.prog 99 #[.string s, .int .i64 p] w fun e w' => e = .returned (gv (getN s p)) ∧ Below w.heap.size w w' := by
  unfold maxLen at hs
  by_cases hbig : 20000 < s.size
  · have HR : Hid (gv (getN s p) = gv ⟨0, 0, 2⟩) := by show gv _ = _; unfold getN; rw [if_pos hbig]
    go_enter Tryd.func99, Tryd.ntmps99
    go_wp2
    exact bodyPost_ret (v := .agg #[.int .i64 0, .int .i64 0, .int .i64 2]) (by simp [results, Tryd.results99, go_sem]) rfl ⟨by rw [HR.out]; rfl, (Below.refl _ _).alloc (Nat.le_refl _) _⟩
  by_cases hneg : p < 0
  · have HR : Hid (gv (getN s p) = gv ⟨0, 0, 1⟩) := by show gv _ = _; unfold getN; rw [if_neg hbig, if_pos hneg]
    go_enter Tryd.func99, Tryd.ntmps99
    go_wp2
    exact bodyPost_ret (v := .agg #[.int .i64 0, .int .i64 0, .int .i64 1]) (by simp [results, Tryd.results99, go_sem]) rfl ⟨by rw [HR.out]; rfl, (Below.refl _ _).alloc (Nat.le_refl _) _⟩
  obtain ⟨a, rfl⟩ := Int.eq_ofNat_of_zero_le (show 0 ≤ p by omega)
  have ha : (a : Int) ≤ 9223372036854775807 := hp.bd.2
  have HR : Hid (getN s (a : Int) = scan s a 10 0 0) := by show getN _ _ = _; unfold getN; rw [if_neg hbig, if_neg hneg]; rfl
  have hst := Rd.start s a
  generalize scan s a 10 0 0 = R at *
  clear hp hneg
  go_enter Tryd.func99, Tryd.ntmps99
  go_wp2
  go_loop [5, 6] (fun x i => ∃ k u : Nat, i = .int .i64 k ∧ x = .int .u64 u ∧ Rd s a R k u) (fun _ i => 10 - (intOf i).toNat)
  case atStart => exact ⟨0, 0, rfl, rfl, hst⟩
  case round =>
    obtain ⟨k, u, rfl, rfl, hrd⟩ := hrel
    have hk := hrd.1
    have HRd : Hid (Rd s a R k u) := hrd
    clear hrd hst
    by_cases hlt : a + k < s.size
    · obtain ⟨c, hc⟩ : ∃ c : Nat, s[a + k].toNat = c := ⟨_, rfl⟩
      have hc1 : c ≤ 255 := by have := s[a + k].toNat_lt; omega
      have hc2 : (s[a + k].toNat : Int) = (c : Int) := by omega
      have HC : Hid (s[a + k].toNat = c) := hc
      clear hc
      by_cases hbad : 9 ≤ k ∧ 1 < c
      · obtain ⟨hb1, hb2⟩ := hbad
        have HF : Hid (gv (getN s a) = gv ⟨0, 0, 3⟩) := by show gv _ = _; rw [HR.out, HRd.out.last hlt HC.out (by omega), fin_bad (by omega)]
        clear HR HRd
        go_wp2
        exact bodyPost_ret (v := .agg #[.int .i64 0, .int .i64 0, .int .i64 3]) (by simp [results, Tryd.results99, go_sem]) rfl ⟨by rw [HF.out]; rfl, (Below.refl _ _).alloc (Nat.le_refl _) _⟩
      by_cases h128 : 128 ≤ c
      · have h9 : k < 9 := by omega
        obtain ⟨z, hz⟩ : ∃ z : Nat, (c - 128) * 128 ^ k = z := ⟨_, rfl⟩
        have hsum := HRd.out.sum (d := c - 128) (by omega) (by omega)
        have e1 : IntKind.u64.wrap ((c : Int) % 128 * 2 ^ (7 * k)) = (z : Int) := by
          rw [show (c : Int) % 128 = ((c - 128 : Nat) : Int) by omega, shl_z (by omega), hz]
        have HRd2 : Hid (Rd s a R (k + 1) (u + z)) := by show Rd _ _ _ _ _; rw [← hz]; exact HRd.out.more hlt HC.out h128 (by omega)
        rw [hz] at hsum
        have hsum2 : (u : Int) + (z : Int) ≤ 18446744073709551615 := by omega
        clear hz hsum HRd
        go_wp2
        go_round
        case rel => exact ⟨k + 1, u + z, by go_num, by go_num, HRd2.out⟩
        case measure => simp [intOf]; omega
      have h9c : k = 9 → c ≤ 1 := by omega
      obtain ⟨z, hz⟩ : ∃ z : Nat, c * 128 ^ k = z := ⟨_, rfl⟩
      have hsum := HRd.out.sum (d := c) (by omega) h9c
      have e1 : IntKind.u64.wrap ((c : Int) % 128 * 2 ^ (7 * k)) = (z : Int) := by
        rw [show (c : Int) % 128 = (c : Int) by omega, shl_z (by omega), hz]
      rw [hz] at hsum
      have hsum2 : (u : Int) + (z : Int) ≤ 18446744073709551615 := by omega
      by_cases hz0 : c = 0 ∧ 0 < k
      · have HF : Hid (gv (getN s a) = gv ⟨0, 0, 3⟩) := by show gv _ = _; rw [HR.out, HRd.out.last hlt HC.out (by omega), fin_bad (by omega)]
        have hc0 : c ≤ 0 := by omega
        have hk0 : 0 < k := hz0.2
        clear HR HRd hz hsum hz0
        by_cases hk9 : 9 ≤ k
        all_goals
          clear h9c
          go_wp2
          exact bodyPost_ret (v := .agg #[.int .i64 0, .int .i64 0, .int .i64 3]) (by simp [results, Tryd.results99, go_sem]) rfl ⟨by rw [HF.out]; rfl, (Below.refl _ _).alloc (Nat.le_refl _) _⟩
      · have HF : Hid (getN s a = ⟨unf (u + z), ((a + k + 1 : Nat) : Int), 0⟩) := by show getN _ _ = _; rw [HR.out, HRd.out.last hlt HC.out (by omega), fin_good (by omega), hz]
        clear HR HRd hz hsum
        have hways : (9 ≤ k ∧ 0 < c ∧ c ≤ 1 ∧ 0 < k) ∨ (k < 9 ∧ 0 < c) ∨ (k < 9 ∧ c ≤ 0 ∧ k ≤ 0) := by omega
        clear hbad h9c hz0
        rcases Nat.mod_two_eq_zero_or_one (u + z) with hpar | hpar
        · have HU := unf_even hpar
          have HU2 : Hid (unf (u + z) = ((u : Int) + (z : Int)) / 2) := by show unf _ = _; rw [HU]; omega
          have hpi : ((u : Int) + (z : Int)) % 2 < 1 := by omega
          clear HU hpar
          rcases hways with ⟨hw1, hw2, hw3, hw4⟩ | ⟨hw1, hw2⟩ | ⟨hw1, hw2, hw3⟩
          all_goals
            try have hb9 : ((k : Int) == 9) = true := beq_iff_eq.2 (by omega)
            go_wp2
            exact bodyPost_ret (v := .agg #[.int .i64 (((u : Int) + (z : Int)) / 2), .int .i64 ((a : Int) + (k : Int) + 1), .int .i64 0]) (by simp [results, Tryd.results99, go_sem]) rfl ⟨by rw [HF.out]; exact gv_eq HU2.out.symm (by show _ = ((a + k + 1 : Nat) : Int); omega) rfl, (Below.refl _ _).alloc (Nat.le_refl _) _⟩
        · have HU := unf_odd hpar
          have HU2 : Hid (unf (u + z) = -(((u : Int) + (z : Int)) / 2) - 1) := by show unf _ = _; rw [HU]; omega
          have hpi : 1 ≤ ((u : Int) + (z : Int)) % 2 := by omega
          clear HU hpar
          rcases hways with ⟨hw1, hw2, hw3, hw4⟩ | ⟨hw1, hw2⟩ | ⟨hw1, hw2, hw3⟩
          all_goals
            try have hb9 : ((k : Int) == 9) = true := beq_iff_eq.2 (by omega)
            go_wp2
            exact bodyPost_ret (v := .agg #[.int .i64 (-(((u : Int) + (z : Int)) / 2) - 1), .int .i64 ((a : Int) + (k : Int) + 1), .int .i64 0]) (by simp [results, Tryd.results99, go_sem]) rfl ⟨by rw [HF.out]; exact gv_eq HU2.out.symm (by show _ = ((a + k + 1 : Nat) : Int); omega) rfl, (Below.refl _ _).alloc (Nat.le_refl _) _⟩
    · have HF : Hid (gv (getN s a) = gv ⟨0, 0, 4⟩) := by show gv _ = _; rw [HR.out, HRd.out.short hlt]
      clear HR HRd
      go_wp2
      exact bodyPost_ret (v := .agg #[.int .i64 0, .int .i64 0, .int .i64 4]) (by simp [results, Tryd.results99, go_sem]) rfl ⟨by rw [HF.out]; rfl, (Below.refl _ _).alloc (Nat.le_refl _) _⟩
end Go.Proofs.YtchfpiadfmnphaaDoor
