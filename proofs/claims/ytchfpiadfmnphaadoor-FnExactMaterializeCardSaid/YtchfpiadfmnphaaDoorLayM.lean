/- What the laws' marks do of rows of Layer: cell by cell; are they held? -/
import Derived.Test.YtchfpiadfmnphaaDoorLayO
import Derived.Test.YtchfpiadfmnphaaDoorMrkW
namespace Go.Proofs.YtchfpiadfmnphaaDoor
open Go.RowKit
set_option linter.unusedVariables false

def mkLayAt (k0 j : Nat) : Value := if j % 2 = 0 then .string (mkT (k0 + j)) else .int .i64 ((k0 + j : Nat) : Int)
def mkLayC (k0 m : Nat) : List Value := (List.range m).map (mkLayAt k0)
theorem mkLayC_len (k0 m : Nat) : (mkLayC k0 m).length = m := by unfold mkLayC; rw [List.length_map, List.length_range]
theorem mkLayC_set (k0 : Nat) (L : List Value) {j : Nat} (h : j < L.length) : mkLayC k0 (j + 1) ++ L.drop (j + 1) = (mkLayC k0 j ++ L.drop j).set j (mkLayAt k0 j) := by
  have e : mkLayC k0 (j + 1) = mkLayC k0 j ++ [mkLayAt k0 j] := by unfold mkLayC; rw [List.range_succ, List.map_append]; rfl
  rw [e, List.set_append, if_neg (by rw [mkLayC_len]; omega), mkLayC_len, Nat.sub_self, List.append_assoc]
  congr 1
  rw [List.drop_eq_getElem_cons h]
  rfl
theorem mkLayC_get {k0 m j : Nat} (h : j < m) : (mkLayC k0 m)[j]? = some (mkLayAt k0 j) := by unfold mkLayC; simp [h]
theorem mkLayC_ne {k0 m : Nat} {L : List Value} (h : L ≠ []) (hm : m ≤ L.length) : mkLayC k0 m ++ L.drop m ≠ [] := by
  intro e
  have := congrArg List.length e
  rw [List.length_append, mkLayC_len, List.length_drop] at this
  cases L with
  | nil => exact h rfl
  | cons x l => simp at this; omega
theorem mkLayC_len2 {k0 m : Nat} {L : List Value} (hm : m ≤ L.length) : (mkLayC k0 m ++ L.drop m).length = L.length := by rw [List.length_append, mkLayC_len, List.length_drop]; omega
theorem mkLayC_k (k0 j : Nat) (h : j % 2 = 0) : mkLayAt k0 j = .string (mkT (k0 + j)) ∧ mkLayAt k0 (j + 1) = .int .i64 ((k0 + (j + 1) : Nat) : Int) := by
  unfold mkLayAt
  exact ⟨if_pos (by omega), (if_neg (by omega)).trans (rfl)⟩
set_option maxRecDepth 100000 in
set_option maxHeartbeats 2000000 in
theorem markLayS_some (g c n k0 : Nat) (L : List Value) (w : World) (hL : L.length = 2 * n) (hn0 : 0 < n) (h : RowV w g L) (hn : n ≤ 1100000) (h0 : 1 ≤ k0) (h1 : k0 ≤ 900000000) :
    Calls Tryd.prog 56 #[.slice (some ⟨g, 0, none⟩) n c, .int .i64 (k0 : Int)] w fun e w' => e = .returned (.int .i64 ((k0 + 2 * n : Nat) : Int)) ∧ RowV w' g (mkLayC k0 (2 * n)) ∧ But g w w' := by
  have hLn : L ≠ [] := by intro e; rw [e] at hL; simp at hL; omega
  have HM : Hid (MkV g (mkLayC k0 0 ++ L.drop 0) w w) := ⟨h, But.refl _ _⟩
  have HL : Hid (L.length = 2 * n) := hL
  clear h hL
  go_enter Tryd.func56, Tryd.ntmps56
  go_wp2_with fail
  go_loopw [1, 5] (fun q i wr => ∃ (k z : Nat), i = .int .i64 (k : Int) ∧ q = .int .i64 (z : Int) ∧ Hid (z = k0 + k * 2) ∧ k ≤ n ∧ Hid (MkV g (mkLayC k0 (k * 2) ++ L.drop (k * 2)) w wr)) (fun _ i _ => n - (intOf i).toNat)
  case atStart => exact ⟨0, k0, rfl, rfl, by show _ = _; omega, Nat.zero_le _, HM⟩
  case round =>
    clear HM
    obtain ⟨k, z, rfl, rfl, HZ, hk, HMk⟩ := hrel
    by_cases hlt : k < n
    case neg =>
      obtain rfl : k = n := by omega
      have e3 : mkLayC k0 (k * 2) ++ L.drop (k * 2) = mkLayC k0 (2 * k) := by rw [Nat.mul_comm k 2, ← HL.out, List.drop_length, List.append_nil]
      rw [e3] at HMk
      go_wp2
      go_ret
      exact ⟨by rw [show k0 + 2 * k = z by have := HZ.out; omega]; rfl, HMk.out.row, HMk.out.but⟩
    have lk : (k : Int) < n := by omega
    have l0 : (0 : Int) ≤ k := by omega
    have zb : (z : Int) ≤ 910000000 := by have := HZ.out; omega
    obtain ⟨m0, m1⟩ := mkLayC_k k0 (k * 2) (by omega)
    obtain ⟨z1, hz1⟩ : ∃ y : Int, (z : Int) + 1 = y := ⟨_, rfl⟩
    obtain ⟨z2, hz2⟩ : ∃ y : Int, z1 + 1 = y := ⟨_, rfl⟩
    have Z1 : Hid (z1 = ((z + 1 : Nat) : Int)) := by show _ = _; omega
    have Z2 : Hid (z2 = ((z + 2 : Nat) : Int)) := by show _ = _; omega
    have b1 : 0 ≤ z1 ∧ z1 ≤ 910000001 := by omega
    have hT0 : ∀ w0, Calls Tryd.prog 50 #[.int .i64 (z : Int)] w0 fun e w' => e = .returned (.string (mkT z)) ∧ Below w0.heap.size w0 w' := fun w0 => mark_any z w0 (by have := HZ.out; omega) (by have := HZ.out; omega)
    have J0 : Hid (k * 2 < L.length) := by have := HL.out; show _ < _; omega
    have J1 : Hid (k * 2 + 1 < L.length) := by have := HL.out; show _ < _; omega
    have E0 := hidP (mkLayC_set k0 L J0.out)
    have E1 := hidP (mkLayC_set k0 L J1.out)
    rw [m0, ← HZ.out] at E0
    rw [m1, show k0 + (k * 2 + 1) = z + 1 by have := HZ.out; omega, ← Z1.out] at E1
    have N0 := hidP (mkLayC_ne (k0 := k0) hLn (Nat.le_of_lt J0.out))
    have L0 := hidP (Nat.lt_of_lt_of_eq J0.out (mkLayC_len2 (k0 := k0) (Nat.le_of_lt J0.out)).symm)
    have L1 := hidP (Nat.lt_of_lt_of_eq J1.out (mkLayC_len2 (k0 := k0) (Nat.le_of_lt J1.out)).symm)
    generalize mkLayC k0 (k * 2) ++ L.drop (k * 2) = M0 at *
    generalize mkLayC k0 (k * 2 + 1) ++ L.drop (k * 2 + 1) = M1 at *
    generalize mkT z = X0 at *
    clear m0 m1
    go_wp2_with (first
      | (go_at_call 50; with_reducible refine (hT0 wr).mono ?_; rintro e wa ⟨rfl, hBa⟩; have HMa := MkV.call HMk N0.out hBa)
      | (refine wpList_cellH (w := wa) (by with_unfolding_all rfl) 9 (.tmp 17) (.tmp 15) (by with_unfolding_all rfl) g (k * 2) M0 M1 (.string X0) (by with_unfolding_all rfl) (by with_unfolding_all rfl) rfl Tryd.siz1T HMa.out.row L0.out E0.out ?_; intro wb hAb hBb hFb hSb; have HMb := MkV.put HMa hAb (Only.set hBb hFb hSb))
      | (refine wpList_cellH (w := wb) (by with_unfolding_all rfl) 2 (.tmp 24) (.tmp 22) (by with_unfolding_all rfl) g (k * 2 + 1) M1 (mkLayC k0 (k * 2 + 1 + 1) ++ L.drop (k * 2 + 1 + 1)) (.int .i64 z1) (by with_unfolding_all rfl) (by with_unfolding_all rfl) rfl Tryd.siz1I HMb.out.row L1.out E1.out ?_; intro wc hAc hBc hFc hSc; have HMc := MkV.put HMb hAc (Only.set hBc hFc hSc)))
    go_roundw
    case rel => exact ⟨k + 1, z + 2, by go_num, by rw [Z2.out], by have := HZ.out; show _ = _; omega, hlt, by rw [show (k + 1) * 2 = k * 2 + 1 + 1 by omega]; exact HMc⟩
    case measure => simp [intOf]; omega
structure LayH (w : World) (g o : Nat) (X0 : ByteArray) (y1 : Int) (w' : World) : Prop where
  c0 : w'.cell? ⟨g, o, none⟩ = some (.string X0)
  c1 : w'.cell? ⟨g, o + 1, none⟩ = some (.int .i64 y1)
  bel : Below w.heap.size w w'
theorem LayH.call {w w' w2 : World} {g o : Nat} {X0 : ByteArray} {y1 : Int} (h : Hid (LayH w g o X0 y1 w')) (hb : Below w'.heap.size w' w2) : Hid (LayH w g o X0 y1 w2) :=
  ⟨(hb.cell (p := ⟨g, o, none⟩) (cellLt h.out.c0)).trans h.out.c0, (hb.cell (p := ⟨g, o + 1, none⟩) (cellLt h.out.c1)).trans h.out.c1, h.out.bel.trans (hb.mono h.out.bel.size)⟩
theorem LayH.drew {w w' : World} {g o : Nat} {X0 : ByteArray} {y1 : Int} (h : Hid (LayH w g o X0 y1 w')) : Hid (LayH w g o X0 y1 w'.drew) := ⟨h.out.c0, h.out.c1, h.out.bel.drew⟩
theorem LayH.all {w w' : World} {g o : Nat} {X0 : ByteArray} {y1 : Int} (h : Hid (LayH w g o X0 y1 w')) : w'.cell? ⟨g, o, none⟩ = some (.string X0) ∧ w'.cell? ⟨g, o + 1, none⟩ = some (.int .i64 y1) ∧ Hid (LayH w g o X0 y1 w') := ⟨h.out.c0, h.out.c1, h⟩
set_option maxRecDepth 100000 in
set_option maxHeartbeats 2000000 in
theorem heldLayS_any (a : Option Addr) (c n k0 : Nat) (w : World) (h : VR w a (mkLayC k0 (2 * n))) (hn : n ≤ 1100000) (h0 : 1 ≤ k0) (h1 : k0 ≤ 900000000) :
    Calls Tryd.prog 58 #[.slice a n c, .int .i64 (k0 : Int)] w fun e w' => e = .returned (.int .i64 ((k0 + 2 * n : Nat) : Int)) ∧ Below w.heap.size w w' := by
  have HV : Hid (VR w a (mkLayC k0 (2 * n))) := h
  clear h
  go_enter Tryd.func58, Tryd.ntmps58
  go_wp2_with fail
  go_loopw [1, 5] (fun q i wr => ∃ (k z : Nat), i = .int .i64 (k : Int) ∧ q = .int .i64 (z : Int) ∧ Hid (z = k0 + k * 2) ∧ k ≤ n ∧ Hid (Below w.heap.size w wr)) (fun _ i _ => n - (intOf i).toNat)
  case atStart => exact ⟨0, k0, rfl, rfl, by show _ = _; omega, Nat.zero_le _, Below.refl _ _⟩
  case round =>
    obtain ⟨k, z, rfl, rfl, HZ, hk, HB⟩ := hrel
    by_cases hlt : k < n
    case neg =>
      obtain rfl : k = n := by omega
      go_wp2
      go_ret
      exact ⟨by rw [show k0 + 2 * k = z by have := HZ.out; omega]; rfl, HB.out⟩
    have lk : (k : Int) < n := by omega
    have l0 : (0 : Int) ≤ k := by omega
    have zb : (z : Int) ≤ 910000000 := by have := HZ.out; omega
    obtain ⟨z1, hz1⟩ : ∃ y : Int, (z : Int) + 1 = y := ⟨_, rfl⟩
    obtain ⟨z2, hz2⟩ : ∃ y : Int, z1 + 1 = y := ⟨_, rfl⟩
    have Z1 : Hid (z1 = ((z + 1 : Nat) : Int)) := by show _ = _; omega
    have Z2 : Hid (z2 = ((z + 2 : Nat) : Int)) := by show _ = _; omega
    have b1 : 0 ≤ z1 ∧ z1 ≤ 910000001 := by omega
    have hT0 : ∀ w0, Calls Tryd.prog 50 #[.int .i64 (z : Int)] w0 fun e w' => e = .returned (.string (mkT z)) ∧ Below w0.heap.size w0 w' := fun w0 => mark_any z w0 (by have := HZ.out; omega) (by have := HZ.out; omega)
    obtain ⟨g, rfl, hr⟩ := HV.out (by intro e; have := congrArg List.length e; rw [mkLayC_len] at this; simp at this; omega)
    obtain ⟨m0, m1⟩ := mkLayC_k k0 (k * 2) (by omega)
    have HK : Hid (LayH w g (k * 2) (mkT z) z1 wr) := by
      have e0 := hr.cell (k := k * 2) (mkLayC_get (by omega))
      have e1 := hr.cell (k := k * 2 + 1) (mkLayC_get (by omega))
      rw [m0, ← HZ.out] at e0
      rw [m1, show k0 + (k * 2 + 1) = z + 1 by have := HZ.out; omega, ← Z1.out] at e1
      exact ⟨(HB.out.cell (p := ⟨g, k * 2, none⟩) (cellLt e0)).trans e0, (HB.out.cell (p := ⟨g, k * 2 + 1, none⟩) (cellLt e1)).trans e1, HB.out⟩
    generalize mkT z = X0 at *
    have t0 := txt_eq X0
    have t1 : (z1 == z1) = true := by simp
    have r1 : (z1 != z1) = false := by simp
    clear m0 m1 hr HB
    go_wp2_with fail
    have HD0 := LayH.drew HK
    clear HK
    go_region_held3 (fun w' => w'.cell? ⟨g, k * 2, none⟩ = some (.string X0) ∧ w'.cell? ⟨g, k * 2 + 1, none⟩ = some (.int .i64 z1) ∧ Hid (LayH w g (k * 2) X0 z1 w'))
      (first | exact LayH.all HD0 | exact LayH.all (LayH.call HD0 h4))
      (first | (go_at_call 50; with_reducible refine (hT0 _).mono ?_; rintro e w4 ⟨rfl, h4⟩))
    all_goals
      as_aux_lemma =>
      have HE0 := LayH.call HD0 h4
      clear HD0 h4
      obtain ⟨p1_0, p1_1, _⟩ := LayH.all HE0
      go_wp2
      go_roundw
      case rel => exact ⟨k + 1, z + 2, by go_num, by rw [Z2.out], by have := HZ.out; show _ = _; omega, hlt, HE0.out.bel⟩
      case measure => simp [intOf]; omega
set_option maxRecDepth 100000 in
theorem markLayS_any (a : Option Addr) (c n k0 : Nat) (L : List Value) (w : World) (hL : L.length = 2 * n) (h : VR w a L) (hn : n ≤ 1100000) (h0 : 1 ≤ k0) (h1 : k0 ≤ 900000000) :
    Calls Tryd.prog 56 #[.slice a n c, .int .i64 (k0 : Int)] w fun e w' => e = .returned (.int .i64 ((k0 + 2 * n : Nat) : Int)) ∧ VR w' a (mkLayC k0 (2 * n)) ∧ MkW a w w' ∧ w.heap.size ≤ w'.heap.size := by
  by_cases hn0 : 0 < n
  · obtain ⟨g, rfl, hr⟩ := h (by intro e; rw [e] at hL; simp at hL; omega)
    refine (markLayS_some g c n k0 L w hL hn0 hr hn h0 h1).mono ?_
    rintro e w' ⟨rfl, h2, h3⟩
    exact ⟨rfl, fun _ => ⟨g, rfl, h2⟩, ⟨fun j hl hx => h3.2 j (hx _ rfl) hl, fun B hB hx => h3.below (hx _ rfl) hB⟩, h3.size⟩
  · obtain rfl : n = 0 := by omega
    clear h hL
    go_enter Tryd.func56, Tryd.ntmps56
    go_wp2_with fail
    go_loopw [1, 5] (fun q i wr => q = .int .i64 (k0 : Int) ∧ i = .int .i64 0 ∧ w = wr) (fun _ _ _ => 0)
    case atStart => exact ⟨rfl, rfl, rfl⟩
    case round =>
      obtain ⟨rfl, rfl, rfl⟩ := hrel
      go_wp2
      go_ret
      exact ⟨rfl, fun hl => absurd rfl hl, ⟨fun _ _ _ => rfl, fun _ _ _ => Below.refl _ _⟩, Nat.le_refl _⟩
end Go.Proofs.YtchfpiadfmnphaaDoor
