/- What the laws' marks do of targets: cell by cell. What the laws' marks do of targets: are they held? -/
import Derived.Test.YtdfglpbappeoaaaTgR
import Derived.Test.YtdfglpbappeoaaaMrkT
import Derived.Test.YtdfglpbappeoaaaSRow
import Derived.Deep.RegionHeld3
namespace Go.Proofs.Ytdfglpbappeoaaa
open Go.RowKit
set_option linter.unusedVariables false

def VR (w : World) (a : Option Addr) (L : List Value) : Prop := L ≠ [] → ∃ g, a = some ⟨g, 0, none⟩ ∧ RowV w g L
theorem VR.below {w w' : World} {a : Option Addr} {L : List Value} (h : VR w a L) (hb : Below w.heap.size w w') : VR w' a L := fun hl => by
  obtain ⟨g, e, hr⟩ := h hl
  exact ⟨g, e, hr.below hb (hr.lt hl)⟩
theorem OwnTg.vr {w : World} {base n c : Nat} {a : Option Addr} {l : List TarV} (h : OwnTg w base (.slice a n c) l) : VR w a (tgL l).flatten ∧ ∀ ad, a = some ad → base ≤ ad.block ∧ ad.block < w.heap.size := by
  rcases h.2 with ⟨h0, hn⟩ | ⟨g, cap, cur, hv, hbg, hg, h1, h2, h3, h4⟩
  · injection h0 with e1 e2 e3
    subst e1
    have : l = [] := List.eq_nil_of_length_eq_zero hn
    subst this
    exact ⟨fun hl => absurd rfl hl, fun ad e => by cases e⟩
  · injection hv with e1 e2 e3
    subst e1 e2
    have h' : w.ownsRow base 156 3 (.slice (some ⟨g, 0, none⟩) l.length c) l.length (tgL l).flatten := h
    refine ⟨fun _ => ⟨g, rfl, ⟨fun j v hv => ?_, fun j hj => ?_⟩⟩, fun ad e => by injection e with e; rw [← e]; exact ⟨hbg, (Array.getElem?_eq_some_iff.1 hg).1⟩⟩
    · have hj : j < l.length * 3 := by have := (List.getElem?_eq_some_iff.1 hv).1; rw [flatT_len] at this; exact this
      rw [Nat.zero_add, World.ownsRow.cellAt h' j hj, hv]
    · have hj2 : j < l.length * 3 := by rw [flatT_len] at hj; exact hj
      rw [Nat.zero_add, World.ownsRow.cellAt h' j hj2]
      have hjl : j < (tgL l).flatten.length := by rw [flatT_len]; exact hj2
      rw [List.getElem?_eq_getElem hjl]
      exact ⟨rfl, h'.frozenAt j⟩
def mkAt (k0 j : Nat) : Value := if j % 3 = 2 then .int .i64 ((k0 + j : Nat) : Int) else .string (mkT (k0 + j))
def mkC (k0 m : Nat) : List Value := (List.range m).map (mkAt k0)
theorem mkC_len (k0 m : Nat) : (mkC k0 m).length = m := by unfold mkC; rw [List.length_map, List.length_range]
theorem mkC_set (k0 : Nat) (L : List Value) {j : Nat} (h : j < L.length) : mkC k0 (j + 1) ++ L.drop (j + 1) = (mkC k0 j ++ L.drop j).set j (mkAt k0 j) := by
  have e : mkC k0 (j + 1) = mkC k0 j ++ [mkAt k0 j] := by unfold mkC; rw [List.range_succ, List.map_append]; rfl
  rw [e, List.set_append, if_neg (by rw [mkC_len]; omega), mkC_len, Nat.sub_self, List.append_assoc]
  congr 1
  rw [List.drop_eq_getElem_cons h]
  rfl
theorem mkC_get {k0 m j : Nat} (h : j < m) : (mkC k0 m)[j]? = some (mkAt k0 j) := by unfold mkC; simp [h]
theorem mkC_3 (k0 j : Nat) (h : j % 3 = 0) : mkAt k0 j = .string (mkT (k0 + j)) ∧ mkAt k0 (j + 1) = .string (mkT (k0 + (j + 1))) ∧ mkAt k0 (j + 2) = .int .i64 ((k0 + (j + 2) : Nat) : Int) := by
  unfold mkAt
  exact ⟨if_neg (by omega), if_neg (by omega), if_pos (by omega)⟩
structure MkV (g : Nat) (L : List Value) (w w' : World) : Prop where
  row : RowV w' g L
  but : But g w w'
theorem MkV.call {g : Nat} {L : List Value} {w w' w2 : World} (h : Hid (MkV g L w w')) (hl : L ≠ []) (hb : Below w'.heap.size w' w2) : Hid (MkV g L w w2) := ⟨h.out.row.below hb (h.out.row.lt hl), h.out.but.trans (But.of hb)⟩
theorem MkV.put {g : Nat} {L L' : List Value} {w w' w2 : World} (h : Hid (MkV g L w w')) (hr : RowV w2 g L') (ho : Only g w' w2) : Hid (MkV g L' w w2) := ⟨hr, h.out.but.trans ⟨ho.below.mono (Nat.zero_le _), fun k hk hl => ho.blk k hk hl⟩⟩
theorem mkC_ne {k0 m : Nat} {L : List Value} (h : L ≠ []) (hm : m ≤ L.length) : mkC k0 m ++ L.drop m ≠ [] := by
  intro e
  have := congrArg List.length e
  rw [List.length_append, mkC_len, List.length_drop] at this
  cases L with
  | nil => exact h rfl
  | cons x l => simp at this; omega
theorem mkC_len2 {k0 m : Nat} {L : List Value} (hm : m ≤ L.length) : (mkC k0 m ++ L.drop m).length = L.length := by rw [List.length_append, mkC_len, List.length_drop]; omega
theorem Try.siz1T : (Try.prog.info? 9).map (·.size) = some 1 := by kernel_rfl
set_option maxRecDepth 100000 in
set_option maxHeartbeats 2000000 in
theorem markTgS_some (g c n k0 : Nat) (L : List Value) (w : World) (hL : L.length = 3 * n) (hn0 : 0 < n) (h : RowV w g L) (hn : n ≤ 1100000) (h0 : 1 ≤ k0) (h1 : k0 ≤ 900000000) :
    Calls Try.prog 102 #[.slice (some ⟨g, 0, none⟩) n c, .int .i64 (k0 : Int)] w fun e w' => e = .returned (.int .i64 ((k0 + 3 * n : Nat) : Int)) ∧ RowV w' g (mkC k0 (3 * n)) ∧ But g w w' := by
  have hLn : L ≠ [] := by intro e; rw [e] at hL; simp at hL; omega
  have HM : Hid (MkV g (mkC k0 0 ++ L.drop 0) w w) := ⟨h, But.refl _ _⟩
  have HL : Hid (L.length = 3 * n) := hL
  clear h hL
  go_enter Try.func102, Try.ntmps102
  go_wp2_with fail
  go_loopw [1, 5] (fun q i wr => ∃ (k z : Nat), i = .int .i64 (k : Int) ∧ q = .int .i64 (z : Int) ∧ Hid (z = k0 + k * 3) ∧ k ≤ n ∧ Hid (MkV g (mkC k0 (k * 3) ++ L.drop (k * 3)) w wr)) (fun _ i _ => n - (intOf i).toNat)
  case atStart => exact ⟨0, k0, rfl, rfl, by show _ = _; omega, Nat.zero_le _, HM⟩
  case round =>
    clear HM
    obtain ⟨k, z, rfl, rfl, HZ, hk, HMk⟩ := hrel
    by_cases hlt : k < n
    case neg =>
      obtain rfl : k = n := by omega
      have e3 : mkC k0 (k * 3) ++ L.drop (k * 3) = mkC k0 (3 * k) := by rw [Nat.mul_comm k 3, ← HL.out, List.drop_length, List.append_nil]
      rw [e3] at HMk
      go_wp2
      go_ret
      exact ⟨by rw [show k0 + 3 * k = z by have := HZ.out; omega]; rfl, HMk.out.row, HMk.out.but⟩
    have lk : (k : Int) < n := by omega
    have l0 : (0 : Int) ≤ k := by omega
    have zb : (z : Int) ≤ 910000000 := by have := HZ.out; omega
    obtain ⟨m0, m1, m2⟩ := mkC_3 k0 (k * 3) (by omega)
    obtain ⟨z1, hz1⟩ : ∃ y : Int, (z : Int) + 1 = y := ⟨_, rfl⟩
    obtain ⟨z2, hz2⟩ : ∃ y : Int, z1 + 1 = y := ⟨_, rfl⟩
    obtain ⟨z3, hz3⟩ : ∃ y : Int, z2 + 1 = y := ⟨_, rfl⟩
    have Z1 : Hid (z1 = ((z + 1 : Nat) : Int)) := by show _ = _; omega
    have Z2 : Hid (z2 = ((z + 2 : Nat) : Int)) := by show _ = _; omega
    have Z3 : Hid (z3 = ((z + 3 : Nat) : Int)) := by show _ = _; omega
    have b1 : 0 ≤ z1 ∧ z1 ≤ 910000001 := by omega
    have b2 : 0 ≤ z2 ∧ z2 ≤ 910000002 := by omega
    have hT0 : ∀ w0, Calls Try.prog 141 #[.int .i64 (z : Int)] w0 fun e w' => e = .returned (.string (mkT z)) ∧ Below w0.heap.size w0 w' := fun w0 => mark_any z w0 (by have := HZ.out; omega) (by have := HZ.out; omega)
    have hT1 : ∀ w0, Calls Try.prog 141 #[.int .i64 z1] w0 fun e w' => e = .returned (.string (mkT (z + 1))) ∧ Below w0.heap.size w0 w' := fun w0 => by rw [Z1.out]; exact mark_any (z + 1) w0 (by omega) (by have := HZ.out; omega)
    have J0 : Hid (k * 3 < L.length) := by have := HL.out; show _ < _; omega
    have J1 : Hid (k * 3 + 1 < L.length) := by have := HL.out; show _ < _; omega
    have J2 : Hid (k * 3 + 2 < L.length) := by have := HL.out; show _ < _; omega
    have E0 := hidP (mkC_set k0 L J0.out)
    have E1 := hidP (mkC_set k0 L J1.out)
    have E2 := hidP (mkC_set k0 L J2.out)
    rw [m0, ← HZ.out] at E0
    rw [m1, show k0 + (k * 3 + 1) = z + 1 by have := HZ.out; omega] at E1
    rw [m2, show k0 + (k * 3 + 2) = z + 2 by have := HZ.out; omega, ← Z2.out] at E2
    have N0 := hidP (mkC_ne (k0 := k0) hLn (Nat.le_of_lt J0.out))
    have N1 := hidP (mkC_ne (k0 := k0) hLn (Nat.le_of_lt J1.out))
    have L0 := hidP (Nat.lt_of_lt_of_eq J0.out (mkC_len2 (k0 := k0) (Nat.le_of_lt J0.out)).symm)
    have L1 := hidP (Nat.lt_of_lt_of_eq J1.out (mkC_len2 (k0 := k0) (Nat.le_of_lt J1.out)).symm)
    have L2 := hidP (Nat.lt_of_lt_of_eq J2.out (mkC_len2 (k0 := k0) (Nat.le_of_lt J2.out)).symm)
    generalize mkC k0 (k * 3) ++ L.drop (k * 3) = M0 at *
    generalize mkC k0 (k * 3 + 1) ++ L.drop (k * 3 + 1) = M1 at *
    generalize mkC k0 (k * 3 + 2) ++ L.drop (k * 3 + 2) = M2 at *
    generalize mkT z = X0 at *
    generalize mkT (z + 1) = X1 at *
    clear m0 m1 m2
    go_wp2_with (first
      | (go_at_call 141; with_reducible refine (hT0 wr).mono ?_; rintro e wa ⟨rfl, hBa⟩; have HMa := MkV.call HMk N0.out hBa)
      | (refine wpList_cellH (w := wa) (by with_unfolding_all rfl) 9 (.tmp 17) (.tmp 15) (by with_unfolding_all rfl) g (k * 3) M0 M1 (.string X0) (by with_unfolding_all rfl) (by with_unfolding_all rfl) rfl Try.siz1T HMa.out.row L0.out E0.out ?_; intro wb hAb hBb hFb hSb; have HMb := MkV.put HMa hAb (Only.set hBb hFb hSb))
      | (go_at_call 141; with_reducible refine (hT1 wb).mono ?_; rintro e wc ⟨rfl, hBc⟩; have HMc := MkV.call HMb N1.out hBc)
      | (refine wpList_cellH (w := wc) (by with_unfolding_all rfl) 9 (.tmp 25) (.tmp 23) (by with_unfolding_all rfl) g (k * 3 + 1) M1 M2 (.string X1) (by with_unfolding_all rfl) (by with_unfolding_all rfl) rfl Try.siz1T HMc.out.row L1.out E1.out ?_; intro wd hAd hBd hFd hSd; have HMd := MkV.put HMc hAd (Only.set hBd hFd hSd))
      | (refine wpList_cellH (w := wd) (by with_unfolding_all rfl) 2 (.tmp 32) (.tmp 30) (by with_unfolding_all rfl) g (k * 3 + 2) M2 (mkC k0 (k * 3 + 2 + 1) ++ L.drop (k * 3 + 2 + 1)) (.int .i64 z2) (by with_unfolding_all rfl) (by with_unfolding_all rfl) rfl Try.siz1I HMd.out.row L2.out E2.out ?_; intro we hAe hBe hFe hSe; have HMe := MkV.put HMd hAe (Only.set hBe hFe hSe)))
    go_roundw
    case rel => exact ⟨k + 1, z + 3, by go_num, by rw [Z3.out], by have := HZ.out; show _ = _; omega, hlt, by rw [show (k + 1) * 3 = k * 3 + 2 + 1 by omega]; exact HMe⟩
    case measure => simp [intOf]; omega
end Go.Proofs.Ytdfglpbappeoaaa
namespace Go.Proofs.Ytdfglpbappeoaaa
open Go.RowKit
set_option linter.unusedVariables false

structure KpH3 (w : World) (g o : Nat) (X0 X1 : ByteArray) (z2 : Int) (w' : World) : Prop where
  c0 : w'.cell? ⟨g, o, none⟩ = some (.string X0)
  c1 : w'.cell? ⟨g, o + 1, none⟩ = some (.string X1)
  c2 : w'.cell? ⟨g, o + 2, none⟩ = some (.int .i64 z2)
  bel : Below w.heap.size w w'
section
variable {w w' w2 : World} {g o : Nat} {X0 X1 : ByteArray} {z2 : Int}
theorem KpH3.call (h : Hid (KpH3 w g o X0 X1 z2 w')) (hb : Below w'.heap.size w' w2) : Hid (KpH3 w g o X0 X1 z2 w2) :=
  ⟨(hb.cell (p := ⟨g, o, none⟩) (cellLt h.out.c0)).trans h.out.c0, (hb.cell (p := ⟨g, o + 1, none⟩) (cellLt h.out.c1)).trans h.out.c1, (hb.cell (p := ⟨g, o + 2, none⟩) (cellLt h.out.c2)).trans h.out.c2, h.out.bel.trans (hb.mono h.out.bel.size)⟩
theorem KpH3.drew (h : Hid (KpH3 w g o X0 X1 z2 w')) : Hid (KpH3 w g o X0 X1 z2 w'.drew) := ⟨h.out.c0, h.out.c1, h.out.c2, h.out.bel.drew⟩
theorem KpH3.all (h : Hid (KpH3 w g o X0 X1 z2 w')) : w'.cell? ⟨g, o, none⟩ = some (.string X0) ∧ w'.cell? ⟨g, o + 1, none⟩ = some (.string X1) ∧ w'.cell? ⟨g, o + 2, none⟩ = some (.int .i64 z2) ∧ Hid (KpH3 w g o X0 X1 z2 w') := ⟨h.out.c0, h.out.c1, h.out.c2, h⟩
end
set_option maxRecDepth 100000 in
set_option maxHeartbeats 2000000 in
theorem heldTgS_any (a : Option Addr) (c n k0 : Nat) (w : World) (h : VR w a (mkC k0 (3 * n))) (hn : n ≤ 1100000) (h0 : 1 ≤ k0) (h1 : k0 ≤ 900000000) :
    Calls Try.prog 103 #[.slice a n c, .int .i64 (k0 : Int)] w fun e w' => e = .returned (.int .i64 ((k0 + 3 * n : Nat) : Int)) ∧ Below w.heap.size w w' := by
  have HV : Hid (VR w a (mkC k0 (3 * n))) := h
  clear h
  go_enter Try.func103, Try.ntmps103
  go_wp2_with fail
  go_loopw [1, 5] (fun q i wr => ∃ (k z : Nat), i = .int .i64 (k : Int) ∧ q = .int .i64 (z : Int) ∧ Hid (z = k0 + k * 3) ∧ k ≤ n ∧ Hid (Below w.heap.size w wr)) (fun _ i _ => n - (intOf i).toNat)
  case atStart => exact ⟨0, k0, rfl, rfl, by show _ = _; omega, Nat.zero_le _, Below.refl _ _⟩
  case round =>
    obtain ⟨k, z, rfl, rfl, HZ, hk, HB⟩ := hrel
    by_cases hlt : k < n
    case neg =>
      obtain rfl : k = n := by omega
      go_wp2
      go_ret
      exact ⟨by rw [show k0 + 3 * k = z by have := HZ.out; omega]; rfl, HB.out⟩
    have lk : (k : Int) < n := by omega
    have l0 : (0 : Int) ≤ k := by omega
    have zb : (z : Int) ≤ 910000000 := by have := HZ.out; omega
    obtain ⟨z1, hz1⟩ : ∃ y : Int, (z : Int) + 1 = y := ⟨_, rfl⟩
    obtain ⟨z2, hz2⟩ : ∃ y : Int, z1 + 1 = y := ⟨_, rfl⟩
    obtain ⟨z3, hz3⟩ : ∃ y : Int, z2 + 1 = y := ⟨_, rfl⟩
    have Z1 : Hid (z1 = ((z + 1 : Nat) : Int)) := by show _ = _; omega
    have Z2 : Hid (z2 = ((z + 2 : Nat) : Int)) := by show _ = _; omega
    have Z3 : Hid (z3 = ((z + 3 : Nat) : Int)) := by show _ = _; omega
    have b1 : 0 ≤ z1 ∧ z1 ≤ 910000001 := by omega
    have b2 : 0 ≤ z2 ∧ z2 ≤ 910000002 := by omega
    have hT0 : ∀ w0, Calls Try.prog 141 #[.int .i64 (z : Int)] w0 fun e w' => e = .returned (.string (mkT z)) ∧ Below w0.heap.size w0 w' := fun w0 => mark_any z w0 (by have := HZ.out; omega) (by have := HZ.out; omega)
    have hT1 : ∀ w0, Calls Try.prog 141 #[.int .i64 z1] w0 fun e w' => e = .returned (.string (mkT (z + 1))) ∧ Below w0.heap.size w0 w' := fun w0 => by rw [Z1.out]; exact mark_any (z + 1) w0 (by omega) (by have := HZ.out; omega)
    obtain ⟨g, rfl, hr⟩ := HV.out (by intro e; have := congrArg List.length e; rw [mkC_len] at this; simp at this; omega)
    obtain ⟨m0, m1, m2⟩ := mkC_3 k0 (k * 3) (by omega)
    have HK : Hid (KpH3 w g (k * 3) (mkT z) (mkT (z + 1)) z2 wr) := by
      have e0 := hr.cell (k := k * 3) (mkC_get (by omega))
      have e1 := hr.cell (k := k * 3 + 1) (mkC_get (by omega))
      have e2 := hr.cell (k := k * 3 + 2) (mkC_get (by omega))
      rw [m0, ← HZ.out] at e0
      rw [m1, show k0 + (k * 3 + 1) = z + 1 by have := HZ.out; omega] at e1
      rw [m2, show k0 + (k * 3 + 2) = z + 2 by have := HZ.out; omega, ← Z2.out] at e2
      exact ⟨(HB.out.cell (p := ⟨g, k * 3, none⟩) (cellLt e0)).trans e0, (HB.out.cell (p := ⟨g, k * 3 + 1, none⟩) (cellLt e1)).trans e1, (HB.out.cell (p := ⟨g, k * 3 + 2, none⟩) (cellLt e2)).trans e2, HB.out⟩
    generalize mkT z = X0 at *
    generalize mkT (z + 1) = X1 at *
    have t0 := txt_eq X0
    have t1 := txt_eq X1
    have t2 : (z2 == z2) = true := by simp
    clear m0 m1 m2 hr HB
    go_wp2_with fail
    have HKd := KpH3.drew HK
    clear HK
    go_region_held3 (fun w' => w'.cell? ⟨g, k * 3, none⟩ = some (.string X0) ∧ w'.cell? ⟨g, k * 3 + 1, none⟩ = some (.string X1) ∧ w'.cell? ⟨g, k * 3 + 2, none⟩ = some (.int .i64 z2) ∧ Hid (KpH3 w g (k * 3) X0 X1 z2 w'))
      (first | exact KpH3.all HKd | exact KpH3.all (KpH3.call HKd h5))
      (first | (go_at_call 141; with_reducible refine (hT0 _).mono ?_; rintro e w5 ⟨rfl, h5⟩))
    all_goals
      as_aux_lemma =>
      have HK5 := KpH3.call HKd h5
      clear HKd h5
      go_wp2_with fail
      have HKe := KpH3.drew HK5
      clear HK5
      go_region_held3 (fun w' => w'.cell? ⟨g, k * 3, none⟩ = some (.string X0) ∧ w'.cell? ⟨g, k * 3 + 1, none⟩ = some (.string X1) ∧ w'.cell? ⟨g, k * 3 + 2, none⟩ = some (.int .i64 z2) ∧ Hid (KpH3 w g (k * 3) X0 X1 z2 w'))
        (first | exact KpH3.all HKe | exact KpH3.all (KpH3.call HKe h6))
        (first | (go_at_call 141; with_reducible refine (hT1 _).mono ?_; rintro e w6 ⟨rfl, h6⟩))
      all_goals
        as_aux_lemma =>
        have HK6 := KpH3.call HKe h6
        clear HKe h6
        obtain ⟨p0, p1, p2, _⟩ := KpH3.all HK6
        go_wp2
        go_roundw
        case rel => exact ⟨k + 1, z + 3, by go_num, by rw [Z3.out], by have := HZ.out; show _ = _; omega, hlt, HK6.out.bel⟩
        case measure => simp [intOf]; omega
/- Of a list that may be none. -/
structure MkW (a : Option Addr) (w w' : World) : Prop where
  far : ∀ j, j < w.heap.size → (∀ ad, a = some ad → j ≠ ad.block) → w'.heap[j]? = w.heap[j]?
  below : ∀ B, B ≤ w.heap.size → (∀ ad, a = some ad → B ≤ ad.block) → Below B w w'
theorem MkW.pre {a : Option Addr} {w w1 w2 : World} (hb : Below w.heap.size w w1) (h : MkW a w1 w2) : MkW a w w2 :=
  ⟨fun j hl hx => (h.far j (Nat.lt_of_lt_of_le hl hb.size) hx).trans (hb.block j hl), fun B hB hx => (hb.mono hB).trans (h.below B (Nat.le_trans hB hb.size) hx)⟩
set_option maxRecDepth 100000 in
theorem markTgS_any (a : Option Addr) (c n k0 : Nat) (L : List Value) (w : World) (hL : L.length = 3 * n) (h : VR w a L) (hn : n ≤ 1100000) (h0 : 1 ≤ k0) (h1 : k0 ≤ 900000000) :
    Calls Try.prog 102 #[.slice a n c, .int .i64 (k0 : Int)] w fun e w' => e = .returned (.int .i64 ((k0 + 3 * n : Nat) : Int)) ∧ VR w' a (mkC k0 (3 * n)) ∧ MkW a w w' := by
  by_cases hn0 : 0 < n
  · obtain ⟨g, rfl, hr⟩ := h (by intro e; rw [e] at hL; simp at hL; omega)
    refine (markTgS_some g c n k0 L w hL hn0 hr hn h0 h1).mono ?_
    rintro e w' ⟨rfl, h2, h3⟩
    exact ⟨rfl, fun _ => ⟨g, rfl, h2⟩, fun j hl hx => h3.2 j (hx _ rfl) hl, fun B hB hx => h3.below (hx _ rfl) hB⟩
  · obtain rfl : n = 0 := by omega
    clear h hL
    go_enter Try.func102, Try.ntmps102
    go_wp2_with fail
    go_loopw [1, 5] (fun q i wr => q = .int .i64 (k0 : Int) ∧ i = .int .i64 0 ∧ w = wr) (fun _ _ _ => 0)
    case atStart => exact ⟨rfl, rfl, rfl⟩
    case round =>
      obtain ⟨rfl, rfl, rfl⟩ := hrel
      go_wp2
      go_ret
      exact ⟨rfl, fun hl => absurd rfl hl, fun _ _ _ => rfl, fun _ _ _ => Below.refl _ _⟩
end Go.Proofs.Ytdfglpbappeoaaa
