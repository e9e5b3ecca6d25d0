/- What the laws' marks do of rows of Label: cell by cell; are they held? Manifests that are read, in the laws' helpers: held against others, marked, found marked. -/
import Derived.Test.YtchfpiadfmnphaaDoorJn6
import Derived.Test.YtchfpiadfmnphaaDoorMrkW
import Derived.Test.YtchfpiadfmnphaaDoorMfH
import Derived.Test.YtchfpiadfmnphaaDoorLayM
import Derived.Test.YtchfpiadfmnphaaDoorJn23
import Derived.Test.YtchfpiadfmnphaaDoorTy
namespace Go.Proofs.YtchfpiadfmnphaaDoor
open Go.RowKit
set_option linter.unusedVariables false

def mkLabAt (k0 j : Nat) : Value := if j % 2 = 0 then .string (mkT (k0 + j)) else .string (mkT (k0 + j))
def mkLabC (k0 m : Nat) : List Value := (List.range m).map (mkLabAt k0)
theorem mkLabC_len (k0 m : Nat) : (mkLabC k0 m).length = m := by unfold mkLabC; rw [List.length_map, List.length_range]
theorem mkLabC_set (k0 : Nat) (L : List Value) {j : Nat} (h : j < L.length) : mkLabC k0 (j + 1) ++ L.drop (j + 1) = (mkLabC k0 j ++ L.drop j).set j (mkLabAt k0 j) := by
  have e : mkLabC k0 (j + 1) = mkLabC k0 j ++ [mkLabAt k0 j] := by unfold mkLabC; rw [List.range_succ, List.map_append]; rfl
  rw [e, List.set_append, if_neg (by rw [mkLabC_len]; omega), mkLabC_len, Nat.sub_self, List.append_assoc]
  congr 1
  rw [List.drop_eq_getElem_cons h]
  rfl
theorem mkLabC_get {k0 m j : Nat} (h : j < m) : (mkLabC k0 m)[j]? = some (mkLabAt k0 j) := by unfold mkLabC; simp [h]
theorem mkLabC_ne {k0 m : Nat} {L : List Value} (h : L ≠ []) (hm : m ≤ L.length) : mkLabC k0 m ++ L.drop m ≠ [] := by
  intro e
  have := congrArg List.length e
  rw [List.length_append, mkLabC_len, List.length_drop] at this
  cases L with
  | nil => exact h rfl
  | cons x l => simp at this; omega
theorem mkLabC_len2 {k0 m : Nat} {L : List Value} (hm : m ≤ L.length) : (mkLabC k0 m ++ L.drop m).length = L.length := by rw [List.length_append, mkLabC_len, List.length_drop]; omega
theorem mkLabC_k (k0 j : Nat) (h : j % 2 = 0) : mkLabAt k0 j = .string (mkT (k0 + j)) ∧ mkLabAt k0 (j + 1) = .string (mkT (k0 + (j + 1))) := by
  unfold mkLabAt
  exact ⟨if_pos (by omega), (if_neg (by omega)).trans (rfl)⟩
set_option maxRecDepth 100000 in
set_option maxHeartbeats 2000000 in
theorem markLabS_some (g c n k0 : Nat) (L : List Value) (w : World) (hL : L.length = 2 * n) (hn0 : 0 < n) (h : RowV w g L) (hn : n ≤ 1100000) (h0 : 1 ≤ k0) (h1 : k0 ≤ 900000000) :
    Calls Tryd.prog 57 #[.slice (some ⟨g, 0, none⟩) n c, .int .i64 (k0 : Int)] w fun e w' => e = .returned (.int .i64 ((k0 + 2 * n : Nat) : Int)) ∧ RowV w' g (mkLabC k0 (2 * n)) ∧ But g w w' := by
  have hLn : L ≠ [] := by intro e; rw [e] at hL; simp at hL; omega
  have HM : Hid (MkV g (mkLabC k0 0 ++ L.drop 0) w w) := ⟨h, But.refl _ _⟩
  have HL : Hid (L.length = 2 * n) := hL
  clear h hL
  go_enter Tryd.func57, Tryd.ntmps57
  go_wp2_with fail
  go_loopw [1, 5] (fun q i wr => ∃ (k z : Nat), i = .int .i64 (k : Int) ∧ q = .int .i64 (z : Int) ∧ Hid (z = k0 + k * 2) ∧ k ≤ n ∧ Hid (MkV g (mkLabC k0 (k * 2) ++ L.drop (k * 2)) w wr)) (fun _ i _ => n - (intOf i).toNat)
  case atStart => exact ⟨0, k0, rfl, rfl, by show _ = _; omega, Nat.zero_le _, HM⟩
  case round =>
    clear HM
    obtain ⟨k, z, rfl, rfl, HZ, hk, HMk⟩ := hrel
    by_cases hlt : k < n
    case neg =>
      obtain rfl : k = n := by omega
      have e3 : mkLabC k0 (k * 2) ++ L.drop (k * 2) = mkLabC k0 (2 * k) := by rw [Nat.mul_comm k 2, ← HL.out, List.drop_length, List.append_nil]
      rw [e3] at HMk
      go_wp2
      go_ret
      exact ⟨by rw [show k0 + 2 * k = z by have := HZ.out; omega]; rfl, HMk.out.row, HMk.out.but⟩
    have lk : (k : Int) < n := by omega
    have l0 : (0 : Int) ≤ k := by omega
    have zb : (z : Int) ≤ 910000000 := by have := HZ.out; omega
    obtain ⟨m0, m1⟩ := mkLabC_k k0 (k * 2) (by omega)
    obtain ⟨z1, hz1⟩ : ∃ y : Int, (z : Int) + 1 = y := ⟨_, rfl⟩
    obtain ⟨z2, hz2⟩ : ∃ y : Int, z1 + 1 = y := ⟨_, rfl⟩
    have Z1 : Hid (z1 = ((z + 1 : Nat) : Int)) := by show _ = _; omega
    have Z2 : Hid (z2 = ((z + 2 : Nat) : Int)) := by show _ = _; omega
    have b1 : 0 ≤ z1 ∧ z1 ≤ 910000001 := by omega
    have hT0 : ∀ w0, Calls Tryd.prog 50 #[.int .i64 (z : Int)] w0 fun e w' => e = .returned (.string (mkT z)) ∧ Below w0.heap.size w0 w' := fun w0 => mark_any z w0 (by have := HZ.out; omega) (by have := HZ.out; omega)
    have hT1 : ∀ w0, Calls Tryd.prog 50 #[.int .i64 z1] w0 fun e w' => e = .returned (.string (mkT (z + 1))) ∧ Below w0.heap.size w0 w' := fun w0 => by rw [Z1.out]; exact mark_any (z + 1) w0 (by omega) (by have := HZ.out; omega)
    have J0 : Hid (k * 2 < L.length) := by have := HL.out; show _ < _; omega
    have J1 : Hid (k * 2 + 1 < L.length) := by have := HL.out; show _ < _; omega
    have E0 := hidP (mkLabC_set k0 L J0.out)
    have E1 := hidP (mkLabC_set k0 L J1.out)
    rw [m0, ← HZ.out] at E0
    rw [m1, show k0 + (k * 2 + 1) = z + 1 by have := HZ.out; omega] at E1
    have N0 := hidP (mkLabC_ne (k0 := k0) hLn (Nat.le_of_lt J0.out))
    have N1 := hidP (mkLabC_ne (k0 := k0) hLn (Nat.le_of_lt J1.out))
    have L0 := hidP (Nat.lt_of_lt_of_eq J0.out (mkLabC_len2 (k0 := k0) (Nat.le_of_lt J0.out)).symm)
    have L1 := hidP (Nat.lt_of_lt_of_eq J1.out (mkLabC_len2 (k0 := k0) (Nat.le_of_lt J1.out)).symm)
    generalize mkLabC k0 (k * 2) ++ L.drop (k * 2) = M0 at *
    generalize mkLabC k0 (k * 2 + 1) ++ L.drop (k * 2 + 1) = M1 at *
    generalize mkT z = X0 at *
    generalize mkT (z + 1) = X1 at *
    clear m0 m1
    go_wp2_with (first
      | (go_at_call 50; with_reducible refine (hT0 wr).mono ?_; rintro e wa ⟨rfl, hBa⟩; have HMa := MkV.call HMk N0.out hBa)
      | (refine wpList_cellH (w := wa) (by with_unfolding_all rfl) 9 (.tmp 17) (.tmp 15) (by with_unfolding_all rfl) g (k * 2) M0 M1 (.string X0) (by with_unfolding_all rfl) (by with_unfolding_all rfl) rfl Tryd.siz1T HMa.out.row L0.out E0.out ?_; intro wb hAb hBb hFb hSb; have HMb := MkV.put HMa hAb (Only.set hBb hFb hSb))
      | (go_at_call 50; with_reducible refine (hT1 wb).mono ?_; rintro e wc ⟨rfl, hBc⟩; have HMc := MkV.call HMb N1.out hBc)
      | (refine wpList_cellH (w := wc) (by with_unfolding_all rfl) 9 (.tmp 25) (.tmp 23) (by with_unfolding_all rfl) g (k * 2 + 1) M1 (mkLabC k0 (k * 2 + 1 + 1) ++ L.drop (k * 2 + 1 + 1)) (.string X1) (by with_unfolding_all rfl) (by with_unfolding_all rfl) rfl Tryd.siz1T HMc.out.row L1.out E1.out ?_; intro wd hAd hBd hFd hSd; have HMd := MkV.put HMc hAd (Only.set hBd hFd hSd)))
    go_roundw
    case rel => exact ⟨k + 1, z + 2, by go_num, by rw [Z2.out], by have := HZ.out; show _ = _; omega, hlt, by rw [show (k + 1) * 2 = k * 2 + 1 + 1 by omega]; exact HMd⟩
    case measure => simp [intOf]; omega
structure LabH (w : World) (g o : Nat) (X0 : ByteArray) (X1 : ByteArray) (w' : World) : Prop where
  c0 : w'.cell? ⟨g, o, none⟩ = some (.string X0)
  c1 : w'.cell? ⟨g, o + 1, none⟩ = some (.string X1)
  bel : Below w.heap.size w w'
theorem LabH.call {w w' w2 : World} {g o : Nat} {X0 : ByteArray} {X1 : ByteArray} (h : Hid (LabH w g o X0 X1 w')) (hb : Below w'.heap.size w' w2) : Hid (LabH w g o X0 X1 w2) :=
  ⟨(hb.cell (p := ⟨g, o, none⟩) (cellLt h.out.c0)).trans h.out.c0, (hb.cell (p := ⟨g, o + 1, none⟩) (cellLt h.out.c1)).trans h.out.c1, h.out.bel.trans (hb.mono h.out.bel.size)⟩
theorem LabH.drew {w w' : World} {g o : Nat} {X0 : ByteArray} {X1 : ByteArray} (h : Hid (LabH w g o X0 X1 w')) : Hid (LabH w g o X0 X1 w'.drew) := ⟨h.out.c0, h.out.c1, h.out.bel.drew⟩
theorem LabH.all {w w' : World} {g o : Nat} {X0 : ByteArray} {X1 : ByteArray} (h : Hid (LabH w g o X0 X1 w')) : w'.cell? ⟨g, o, none⟩ = some (.string X0) ∧ w'.cell? ⟨g, o + 1, none⟩ = some (.string X1) ∧ Hid (LabH w g o X0 X1 w') := ⟨h.out.c0, h.out.c1, h⟩
set_option maxRecDepth 100000 in
set_option maxHeartbeats 2000000 in
theorem heldLabS_any (a : Option Addr) (c n k0 : Nat) (w : World) (h : VR w a (mkLabC k0 (2 * n))) (hn : n ≤ 1100000) (h0 : 1 ≤ k0) (h1 : k0 ≤ 900000000) :
    Calls Tryd.prog 59 #[.slice a n c, .int .i64 (k0 : Int)] w fun e w' => e = .returned (.int .i64 ((k0 + 2 * n : Nat) : Int)) ∧ Below w.heap.size w w' := by
  have HV : Hid (VR w a (mkLabC k0 (2 * n))) := h
  clear h
  go_enter Tryd.func59, Tryd.ntmps59
  go_wp2_with fail
  go_loopw [1, 5] (fun q i wr => ∃ (k z : Nat), i = .int .i64 (k : Int) ∧ q = .int .i64 (z : Int) ∧ Hid (z = k0 + k * 2) ∧ k ≤ n ∧ Hid (Below w.heap.size w wr)) (fun _ i _ => n - (intOf i).toNat)
  case atStart => exact ⟨0, k0, rfl, rfl, by show _ = _; omega, Nat.zero_le _, Below.refl _ _⟩
  case round =>
    obtain ⟨k, z, rfl, rfl, HZ, hk, HB⟩ := hrel
    by_cases hlt : k < n
    case neg =>
      obtain rfl : k = n := by omega
      go_wp2
      go_ret
      exact ⟨by rw [show k0 + 2 * k = z by have := HZ.out; omega]; rfl, HB.out⟩
    have lk : (k : Int) < n := by omega
    have l0 : (0 : Int) ≤ k := by omega
    have zb : (z : Int) ≤ 910000000 := by have := HZ.out; omega
    obtain ⟨z1, hz1⟩ : ∃ y : Int, (z : Int) + 1 = y := ⟨_, rfl⟩
    obtain ⟨z2, hz2⟩ : ∃ y : Int, z1 + 1 = y := ⟨_, rfl⟩
    have Z1 : Hid (z1 = ((z + 1 : Nat) : Int)) := by show _ = _; omega
    have Z2 : Hid (z2 = ((z + 2 : Nat) : Int)) := by show _ = _; omega
    have b1 : 0 ≤ z1 ∧ z1 ≤ 910000001 := by omega
    have hT0 : ∀ w0, Calls Tryd.prog 50 #[.int .i64 (z : Int)] w0 fun e w' => e = .returned (.string (mkT z)) ∧ Below w0.heap.size w0 w' := fun w0 => mark_any z w0 (by have := HZ.out; omega) (by have := HZ.out; omega)
    have hT1 : ∀ w0, Calls Tryd.prog 50 #[.int .i64 z1] w0 fun e w' => e = .returned (.string (mkT (z + 1))) ∧ Below w0.heap.size w0 w' := fun w0 => by rw [Z1.out]; exact mark_any (z + 1) w0 (by omega) (by have := HZ.out; omega)
    obtain ⟨g, rfl, hr⟩ := HV.out (by intro e; have := congrArg List.length e; rw [mkLabC_len] at this; simp at this; omega)
    obtain ⟨m0, m1⟩ := mkLabC_k k0 (k * 2) (by omega)
    have HK : Hid (LabH w g (k * 2) (mkT z) (mkT (z + 1)) wr) := by
      have e0 := hr.cell (k := k * 2) (mkLabC_get (by omega))
      have e1 := hr.cell (k := k * 2 + 1) (mkLabC_get (by omega))
      rw [m0, ← HZ.out] at e0
      rw [m1, show k0 + (k * 2 + 1) = z + 1 by have := HZ.out; omega] at e1
      exact ⟨(HB.out.cell (p := ⟨g, k * 2, none⟩) (cellLt e0)).trans e0, (HB.out.cell (p := ⟨g, k * 2 + 1, none⟩) (cellLt e1)).trans e1, HB.out⟩
    generalize mkT z = X0 at *
    generalize mkT (z + 1) = X1 at *
    have t0 := txt_eq X0
    have t1 := txt_eq X1
    clear m0 m1 hr HB
    go_wp2_with fail
    have HD0 := LabH.drew HK
    clear HK
    go_region_held3 (fun w' => w'.cell? ⟨g, k * 2, none⟩ = some (.string X0) ∧ w'.cell? ⟨g, k * 2 + 1, none⟩ = some (.string X1) ∧ Hid (LabH w g (k * 2) X0 X1 w'))
      (first | exact LabH.all HD0 | exact LabH.all (LabH.call HD0 h4))
      (first | (go_at_call 50; with_reducible refine (hT0 _).mono ?_; rintro e w4 ⟨rfl, h4⟩))
    all_goals
      as_aux_lemma =>
      have HE0 := LabH.call HD0 h4
      clear HD0 h4
      go_wp2_with fail
      have HD1 := LabH.drew HE0
      clear HE0
      go_region_held3 (fun w' => w'.cell? ⟨g, k * 2, none⟩ = some (.string X0) ∧ w'.cell? ⟨g, k * 2 + 1, none⟩ = some (.string X1) ∧ Hid (LabH w g (k * 2) X0 X1 w'))
        (first | exact LabH.all HD1 | exact LabH.all (LabH.call HD1 h5))
        (first | (go_at_call 50; with_reducible refine (hT1 _).mono ?_; rintro e w5 ⟨rfl, h5⟩))
      all_goals
        as_aux_lemma =>
        have HE1 := LabH.call HD1 h5
        clear HD1 h5
        go_wp2
        go_roundw
        case rel => exact ⟨k + 1, z + 2, by go_num, by rw [Z2.out], by have := HZ.out; show _ = _; omega, hlt, HE1.out.bel⟩
        case measure => simp [intOf]; omega
set_option maxRecDepth 100000 in
theorem markLabS_any (a : Option Addr) (c n k0 : Nat) (L : List Value) (w : World) (hL : L.length = 2 * n) (h : VR w a L) (hn : n ≤ 1100000) (h0 : 1 ≤ k0) (h1 : k0 ≤ 900000000) :
    Calls Tryd.prog 57 #[.slice a n c, .int .i64 (k0 : Int)] w fun e w' => e = .returned (.int .i64 ((k0 + 2 * n : Nat) : Int)) ∧ VR w' a (mkLabC k0 (2 * n)) ∧ MkW a w w' ∧ w.heap.size ≤ w'.heap.size := by
  by_cases hn0 : 0 < n
  · obtain ⟨g, rfl, hr⟩ := h (by intro e; rw [e] at hL; simp at hL; omega)
    refine (markLabS_some g c n k0 L w hL hn0 hr hn h0 h1).mono ?_
    rintro e w' ⟨rfl, h2, h3⟩
    exact ⟨rfl, fun _ => ⟨g, rfl, h2⟩, ⟨fun j hl hx => h3.2 j (hx _ rfl) hl, fun B hB hx => h3.below (hx _ rfl) hB⟩, h3.size⟩
  · obtain rfl : n = 0 := by omega
    clear h hL
    go_enter Tryd.func57, Tryd.ntmps57
    go_wp2_with fail
    go_loopw [1, 5] (fun q i wr => q = .int .i64 (k0 : Int) ∧ i = .int .i64 0 ∧ w = wr) (fun _ _ _ => 0)
    case atStart => exact ⟨rfl, rfl, rfl⟩
    case round =>
      obtain ⟨rfl, rfl, rfl⟩ := hrel
      go_wp2
      go_ret
      exact ⟨rfl, fun hl => absurd rfl hl, ⟨fun _ _ _ => rfl, fun _ _ _ => Below.refl _ _⟩, Nat.le_refl _⟩
end Go.Proofs.YtchfpiadfmnphaaDoor
namespace Go.Proofs.YtchfpiadfmnphaaDoor
open Go.RowKit
set_option linter.unusedVariables false

/- Blocks of the rows of a manifest. -/
def ManD (a1 a2 : Option Addr) (k : Nat) : Prop := (∃ ad, a1 = some ad ∧ k = ad.block) ∨ (∃ ad, a2 = some ad ∧ k = ad.block)
theorem VR.farM {T : Nat → Prop} {w w' : World} {a : Option Addr} {L : List Value} (h : VR w a L) (hm : Mrk T w w') (hd : ∀ ad, a = some ad → ¬ T ad.block) : VR w' a L := fun hl => by
  obtain ⟨g, e, hr⟩ := h hl
  exact ⟨g, e, row_blk hr (hm.blk g (hr.lt hl) (hd _ e))⟩
theorem ManB.dom {a1 a2 : Option Addr} {lo hi : Nat} (h : ManB a1 a2 lo hi) : ∀ b, ManD a1 a2 b → lo ≤ b ∧ b < hi := fun b hb => by
  rcases hb with ⟨ad, e, rfl⟩ | ⟨ad, e, rfl⟩
  · exact h.1 ad e
  · exact h.2.1 ad e
theorem layL_flat (l : List LayV) : (layL l).flatten.length = 2 * l.length := by rw [flatS_len _ (layL_all l), layL_len, Nat.mul_comm]
theorem labL_flat (l : List LabV) : (labL l).flatten.length = 2 * l.length := by rw [flatS_len _ (labL_all l), labL_len, Nat.mul_comm]
set_option maxRecDepth 100000 in
set_option maxHeartbeats 2000000 in
theorem markMan_any (nm : ByteArray) (a1 : Option Addr) (c1 y1 : Nat) (a2 : Option Addr) (c2 y2 : Nat) (L1 L2 : List Value) (k0 : Nat) (w : World) (hL1 : L1.length = 2 * y1) (hL2 : L2.length = 2 * y2) (h1 : VR w a1 L1) (h2 : VR w a2 L2) (hap : ∀ x y, a1 = some x → a2 = some y → x.block ≠ y.block) (hb1 : ∀ ad, a1 = some ad → ad.block < w.heap.size) (hb2 : ∀ ad, a2 = some ad → ad.block < w.heap.size) (hy1 : y1 ≤ 1100000) (hy2 : y2 ≤ 1100000) (h0 : 1 ≤ k0) (hk : k0 ≤ 800000000) :
    Calls Tryd.prog 39 #[.agg #[.string nm, .slice a1 y1 c1, .slice a2 y2 c2], .int .i64 (k0 : Int)] w fun r w' => ∃ z : Nat, r = .returned (.int .i64 (z : Int)) ∧ (z = k0 + 2 * y1 + 2 * y2) ∧ (VR w' a1 (mkLayC k0 (2 * y1)) ∧ VR w' a2 (mkLabC (k0 + 2 * y1) (2 * y2))) ∧ Mrk (ManD a1 a2) w w' := by
  have hC1 : ∀ w0, VR w0 a1 L1 → Calls Tryd.prog 56 #[.slice a1 y1 c1, .int .i64 (k0 : Int)] w0 fun r w' => ∃ z : Nat, r = .returned (.int .i64 (z : Int)) ∧ (z = k0 + 2 * y1) ∧ VR w' a1 (mkLayC k0 (2 * y1)) ∧ MkW a1 w0 w' ∧ w0.heap.size ≤ w'.heap.size := fun w0 n0 => (markLayS_any a1 c1 y1 k0 L1 w0 hL1 n0 hy1 h0 (by omega)).mono fun r w' h => ⟨_, h.1, rfl, h.2⟩
  have hC2 : ∀ w0 (z1 : Nat), VR w0 a2 L2 → z1 = k0 + 2 * y1 → Calls Tryd.prog 57 #[.slice a2 y2 c2, .int .i64 (z1 : Int)] w0 fun r w' => ∃ z : Nat, r = .returned (.int .i64 (z : Int)) ∧ (z = k0 + 2 * y1 + 2 * y2) ∧ VR w' a2 (mkLabC (k0 + 2 * y1) (2 * y2)) ∧ MkW a2 w0 w' ∧ w0.heap.size ≤ w'.heap.size := fun w0 z1 n0 e => by subst e; exact (markLabS_any a2 c2 y2 (k0 + 2 * y1) L2 w0 hL2 n0 hy2 (by omega) (by omega)).mono fun r w' h => ⟨_, h.1, rfl, h.2⟩
  have H1 := hidP h1
  have H2 := hidP h2
  have HAp := hidP hap
  have HB1 := hidP hb1
  have HB2 := hidP hb2
  clear h1 h2 hap hb1 hb2 hL1 hL2
  go_enter Tryd.func39, Tryd.ntmps39
  go_wp2_with (first
    | ((with_reducible refine wpList_boxV (w := w) (by with_unfolding_all rfl) 41 (.tmp 0) (by with_unfolding_all rfl) [.string nm, .slice a1 y1 c1, .slice a2 y2 c2] (by with_unfolding_all rfl) ?_); intro w1 hA1 hB1 hS1; have z1 : w.heap.size < w1.heap.size := (by omega); clear hS1; have cA := hA1.cell (k := 1) rfl)
    | (go_at_call 56; (with_reducible refine (hC1 w1 (H1.out.below hB1)).mono ?_); rintro r w2 ⟨z, rfl, hz, hv2, hm2, hs2⟩; have HZ := hidP hz; clear hz; have M2 := hm2.mrk hs2 (fun ad e => Nat.lt_trans (HB1.out ad e) z1); have R2 := row_blk hA1 (hm2.far w.heap.size z1 (fun ad e => Nat.ne_of_gt (HB1.out ad e))); have cB := R2.cell (k := 2) rfl; have V2 := (H2.out.below hB1).farM M2 (fun ad e ⟨bd, e2, e3⟩ => HAp.out bd ad e2 e e3.symm); clear cA)
    | (go_at_call 57; (with_reducible refine (hC2 w2 z V2 HZ.out).mono ?_); rintro r w3 ⟨y, rfl, hz3, hv3, hm3, hs3⟩; have HY := hidP hz3; clear hz3; have M3 := hm3.mrk hs3 (fun ad e => Nat.lt_of_lt_of_le (Nat.lt_trans (HB2.out ad e) z1) hs2); have V3 := hv2.farM M3 (fun ad e ⟨bd, e2, e3⟩ => HAp.out ad bd e e2 e3); clear cB))
  go_ret
  exact ⟨y, rfl, HY.out, ⟨V3, hv3⟩, ((Mrk.of hB1).trans (M2.mono fun k hk => Or.inl hk)).trans (M3.mono fun k hk => Or.inr hk)⟩
set_option maxRecDepth 100000 in
set_option maxHeartbeats 2000000 in
theorem heldMan_any (nm : ByteArray) (a1 : Option Addr) (c1 y1 : Nat) (a2 : Option Addr) (c2 y2 : Nat) (k0 : Nat) (w : World) (h1 : VR w a1 (mkLayC k0 (2 * y1))) (h2 : VR w a2 (mkLabC (k0 + 2 * y1) (2 * y2))) (hy1 : y1 ≤ 1100000) (hy2 : y2 ≤ 1100000) (h0 : 1 ≤ k0) (hk : k0 ≤ 800000000) :
    Calls Tryd.prog 40 #[.agg #[.string nm, .slice a1 y1 c1, .slice a2 y2 c2], .int .i64 (k0 : Int)] w fun r w' => ∃ z : Nat, r = .returned (.int .i64 (z : Int)) ∧ (z = k0 + 2 * y1 + 2 * y2) ∧ Below w.heap.size w w' := by
  have hC1 : ∀ w0, (VR w0 a1 (mkLayC k0 (2 * y1))) → Calls Tryd.prog 58 #[.slice a1 y1 c1, .int .i64 (k0 : Int)] w0 fun r w' => ∃ (z1 : Nat), r = .returned (.int .i64 (z1 : Int)) ∧ (z1 = k0 + 2 * y1) ∧ Below w0.heap.size w0 w' := fun w0 n0 => (heldLayS_any a1 c1 y1 k0 w0 n0 hy1 h0 (by omega)).mono fun r w' h => ⟨_, h.1, rfl, h.2⟩
  have hC2 : ∀ w0 (z1 : Nat), (VR w0 a2 (mkLabC (k0 + 2 * y1) (2 * y2))) → (z1 = k0 + 2 * y1) → Calls Tryd.prog 59 #[.slice a2 y2 c2, .int .i64 (z1 : Int)] w0 fun r w' => ∃ (z2 : Nat), r = .returned (.int .i64 (z2 : Int)) ∧ (z2 = k0 + 2 * y1 + 2 * y2) ∧ Below w0.heap.size w0 w' := fun w0 z1 n0 n1 => by subst n1; exact (heldLabS_any a2 c2 y2 (k0 + 2 * y1) w0 n0 hy2 (by omega) (by omega)).mono fun r w' h => ⟨_, h.1, rfl, h.2⟩
  have HS0 : Hid (Sta [] w [] [⟨fun k => k < w.heap.size, fun w' => VR w' a1 (mkLayC k0 (2 * y1)) ∧ VR w' a2 (mkLabC (k0 + 2 * y1) (2 * y2))⟩] w) := Sta.arg (fun w' => VR w' a1 (mkLayC k0 (2 * y1)) ∧ VR w' a2 (mkLabC (k0 + 2 * y1) (2 * y2))) (fun w' hb => ⟨h1.below hb, h2.below hb⟩)
  clear h1 h2
  go_enter Tryd.func40, Tryd.ntmps40
  go_wp2_with (first
    | ((with_reducible refine wpList_boxV (w := w) (by with_unfolding_all rfl) 41 (.tmp 0) (by with_unfolding_all rfl) [.string nm, .slice a1 y1 c1, .slice a2 y2 c2] (by with_unfolding_all rfl) ?_); intro w1 hA1 hB1 hS1; clear hS1; have HS1 := Sta.new HS0 hA1 hB1 (by simp); clear hA1 hB1; have cHS1_0_1 : w1.cell? ⟨w.heap.size, 1, none⟩ = some (.slice a1 y1 c1) := Sta.c (i := 0) HS1 rfl rfl)
    | (go_at_call 58; have n2_0 : VR w1 a1 (mkLayC k0 (2 * y1)) := (Sta.t (i := 0) HS1 rfl :).1; (with_reducible refine (hC1 w1 n2_0).mono ?_); rintro r w2 ⟨z1, rfl, z1f, hB2⟩; have Hz1f := hidP z1f; clear z1f; have HS2 := Sta.call HS1 hB2; clear hB2; have q1 : ¬ ((z1 : Int) < 0) := (by omega); clear cHS1_0_1; have cHS2_0_2 : w2.cell? ⟨w.heap.size, 2, none⟩ = some (.slice a2 y2 c2) := Sta.c (i := 0) HS2 rfl rfl)
    | (go_at_call 59; have n3_0 : VR w2 a2 (mkLabC (k0 + 2 * y1) (2 * y2)) := (Sta.t (i := 0) HS2 rfl :).2; (with_reducible refine (hC2 w2 z1 n3_0 Hz1f.out).mono ?_); rintro r w3 ⟨z2, rfl, z2f, hB3⟩; have Hz2f := hidP z2f; clear z2f; have HS3 := Sta.call HS2 hB3; clear hB3; have q2 : ¬ ((z2 : Int) < 0) := (by omega); clear cHS2_0_2))
  go_ret
  exact ⟨_, rfl, Hz2f.out, Sta.fin HS3⟩
end Go.Proofs.YtchfpiadfmnphaaDoor
