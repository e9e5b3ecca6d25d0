/- What the specification's HexRead answers, for every text. -/
import Derived.Test.YtocljgjdllpokaaDoorHexR
namespace Go.Proofs.YtocljgjdllpokaaDoor
open Go.RowKit
set_option linter.unusedVariables false

theorem digit_any (c : Int) (w : World) (h0 : 0 ≤ c) (h1 : c ≤ 255) :
    Calls Tryd.prog 38 #[.int .u8 c] w fun e w' => e = .returned (.int .i64 (digI c)) ∧ w' = w := by
  have hw : (c < 48) ∨ (48 ≤ c ∧ c ≤ 57) ∨ (57 < c ∧ c < 97) ∨ (97 ≤ c ∧ c ≤ 102) ∨ 102 < c := by omega
  rcases hw with h | ⟨h, h'⟩ | ⟨h, h'⟩ | ⟨h, h'⟩ | h
  · have HR : Hid (digI c = -1) := by show digI c = _; unfold digI; rw [if_neg (by omega), if_neg (by omega)]
    go_enter Tryd.func38, Tryd.ntmps38
    go_wp2
    go_ret
    exact ⟨ret_int HR.out.symm, rfl⟩
  · have HR : Hid (digI c = c - 48) := by show digI c = _; unfold digI; rw [if_pos (by omega)]
    go_enter Tryd.func38, Tryd.ntmps38
    go_wp2
    go_ret
    exact ⟨ret_int HR.out.symm, rfl⟩
  · have HR : Hid (digI c = -1) := by show digI c = _; unfold digI; rw [if_neg (by omega), if_neg (by omega)]
    go_enter Tryd.func38, Tryd.ntmps38
    go_wp2
    go_ret
    exact ⟨ret_int HR.out.symm, rfl⟩
  · have HR : Hid (digI c = c - 87) := by show digI c = _; unfold digI; rw [if_neg (by omega), if_pos (by omega)]
    go_enter Tryd.func38, Tryd.ntmps38
    go_wp2
    go_ret
    exact ⟨ret_int (by rw [HR.out]; omega), rfl⟩
  · have HR : Hid (digI c = -1) := by show digI c = _; unfold digI; rw [if_neg (by omega), if_neg (by omega)]
    go_enter Tryd.func38, Tryd.ntmps38
    go_wp2
    go_ret
    exact ⟨ret_int HR.out.symm, rfl⟩

set_option maxRecDepth 100000 in
set_option maxHeartbeats 1000000 in
theorem specHexRead (s : ByteArray) (w : World) (hs : s.size ≤ maxLen) :
    Calls Tryd.prog 20 #[.string s] w fun e w' => e = .returned (tv (hexRd s)) ∧ Below w.heap.size w w' := by
  unfold maxLen at hs
  by_cases hbig : 20000 < s.size
  · have HR : Hid (tv (hexRd s) = tv ⟨noText, 0, 2⟩) := by show tv _ = _; rw [hexRd_big hbig]
    go_enter Tryd.func20, Tryd.ntmps20
    go_wp2
    exact bodyPost_ret (v := .agg #[.string ⟨#[]⟩, .int .i64 0, .int .i64 2]) (by simp [results, Tryd.results20, go_sem]) rfl ⟨by rw [HR.out]; rfl, (Below.refl _ _).alloc (Nat.le_refl _) _⟩
  have hst : Hid (∀ w1 : World, Below (w.heap.size + 1) (w.alloc (.cells #[.string noText, .int .i64 0, .int .i64 0] 31)) w1 →
      Hid (Below w.heap.size w w1) ∧ w.heap.size < w1.heap.size ∧ w1.cell? ⟨w.heap.size, 0, none⟩ = some (.string noText) ∧ w1.cell? ⟨w.heap.size, 1, none⟩ = some (.int .i64 0) ∧ w1.cell? ⟨w.heap.size, 2, none⟩ = some (.int .i64 0) ∧
      w1.frozen? ⟨w.heap.size, 0, none⟩ = false ∧ w1.frozen? ⟨w.heap.size, 1, none⟩ = false ∧ w1.frozen? ⟨w.heap.size, 2, none⟩ = false) := by
    intro w1 hb
    exact ⟨((Below.refl _ _).alloc (Nat.le_refl _) _).trans (hb.mono (by omega)), by have := hb.size; simp at this; omega, (hb.cell (by simp)).trans (by simp), (hb.cell (by simp)).trans (by simp), (hb.cell (by simp)).trans (by simp),
      (hb.frozen (by simp)).trans (by simp), (hb.frozen (by simp)).trans (by simp), (hb.frozen (by simp)).trans (by simp)⟩
  go_enter Tryd.func20, Tryd.ntmps20
  go_wp2
  go_loopw [3, 4] (fun v i wr => ∃ (bs : List UInt8) (k j : Nat), i = .int .i64 j ∧ j = 2 * k ∧ j ≤ s.size ∧ Pr s k bs ∧ wr.ownsRow (w.heap.size + 1) 5 1 v k (bvs bs) ∧ Below (w.heap.size + 1) (w.alloc (.cells #[.string noText, .int .i64 0, .int .i64 0] 31)) wr)
    (fun _ i _ => s.size - (intOf i).toNat)
  case atStart => exact ⟨[], 0, 0, rfl, rfl, Nat.zero_le _, Pr.start s, own_empty (by simp), (Below.refl _ _).alloc (by simp) _⟩
  case round =>
    obtain ⟨bs, k, j, rfl, hj, hjs, hpr, hown, hnx⟩ := hrel
    have HJ : Hid (j = 2 * k) := hj
    have HP : Hid (Pr s k bs) := hpr
    have hk : k ≤ 10000 := by omega
    have hsz : w.heap.size + 1 ≤ wr.heap.size := by have := hnx.size; simp at this; exact this
    have HN : Hid (Below (w.heap.size + 1) (w.alloc (.cells #[.string noText, .int .i64 0, .int .i64 0] 31)) wr) := hnx
    obtain ⟨HB, hz1, c0, c1, c2, f0, f1, f2⟩ := hst.out wr hnx
    clear hj hpr hnx hst
    by_cases hlt : j + 1 < s.size
    · obtain ⟨ca, ha⟩ : ∃ c : Int, (s[j].toNat : Int) = c := ⟨_, rfl⟩
      obtain ⟨cb, hb⟩ : ∃ c : Int, (s[j + 1].toNat : Int) = c := ⟨_, rfl⟩
      have ha1 : 0 ≤ ca ∧ ca ≤ 255 := by have := s[j].toNat_lt; omega
      have hb1 : 0 ≤ cb ∧ cb ≤ 255 := by have := s[j + 1].toNat_lt; omega
      have HDa : Hid (∀ w1, Calls Tryd.prog 38 #[.int .u8 ca] w1 fun e w' => e = .returned (.int .i64 (digI ca)) ∧ w' = w1) := fun w1 => digit_any ca w1 ha1.1 ha1.2
      have HDb : Hid (∀ w1, Calls Tryd.prog 38 #[.int .u8 cb] w1 fun e w' => e = .returned (.int .i64 (digI cb)) ∧ w' = w1) := fun w1 => digit_any cb w1 hb1.1 hb1.2
      have ra := digI_range ca
      have rb := digI_range cb
      have HS : Hid (0 ≤ digI ca → 0 ≤ digI cb → ∃ x : UInt8, BV x = .int .u8 (16 * digI ca + digI cb) ∧ Pr s (k + 1) (bs ++ [x])) := fun h1 h2 => HP.out.step' HJ.out hlt ha hb h1 h2
      have HX : Hid (digI ca < 0 ∨ digI cb < 0 → tv (hexRd s) = tv ⟨noText, 0, 3⟩) := fun h => by rw [HP.out.bad' hbig HJ.out hlt ha hb h]
      clear HP
      generalize digI ca = da at *
      generalize digI cb = db at *
      go_wp2_with fail
      refine (HDa.out _).mono ?_
      rintro e w1 ⟨rfl, rfl⟩
      go_wp2_with fail
      refine (HDb.out _).mono ?_
      rintro e w1 ⟨rfl, rfl⟩
      clear HDa HDb
      by_cases hda : da < 0
      · have HF := HX.out (Or.inl hda)
        have HF2 : Hid _ := HF
        clear HF HX HS
        go_wp2
        exact bodyPost_ret (v := .agg #[.string ⟨#[]⟩, .int .i64 0, .int .i64 3]) (by simp [results, Tryd.results20, go_sem, c0, c1, c2]) rfl ⟨by rw [HF2.out]; rfl, ((HB.out.setCell (Nat.le_refl _) _).setCell (Nat.le_refl _) _).setCell (Nat.le_refl _) _⟩
      by_cases hdb : db < 0
      · have HF := HX.out (Or.inr hdb)
        have HF2 : Hid _ := HF
        clear HF HX HS
        go_wp2
        exact bodyPost_ret (v := .agg #[.string ⟨#[]⟩, .int .i64 0, .int .i64 3]) (by simp [results, Tryd.results20, go_sem, c0, c1, c2]) rfl ⟨by rw [HF2.out]; rfl, ((HB.out.setCell (Nat.le_refl _) _).setCell (Nat.le_refl _) _).setCell (Nat.le_refl _) _⟩
      obtain ⟨x, hx, hp2⟩ := HS.out (by omega) (by omega)
      have HV : Hid (BV x = .int .u8 (16 * da + db)) := hx
      have HP2 : Hid (Pr s (k + 1) (bs ++ [x])) := hp2
      clear hx hp2 HS HX HB c0 c1 c2 f0 f1 f2 ha hb
      go_wp2_with (first
        | (at_builtin; refine wpList_append_byte rfl _ _ 22 rfl (w.heap.size + 1) 5 Tryd.underlying22 Tryd.infoU8 _ bs _ rfl hown x _ HV.out 1 rfl (by omega) hsz ?_))
      intro v' w2 hown' hb2
      clear hown
      go_wp2
      go_roundw
      case rel => exact ⟨bs ++ [x], k + 1, j + 2, by go_num, by have := HJ.out; omega, by omega, HP2.out, hown', HN.out.trans hb2⟩
      case measure => simp [intOf]; omega
    · by_cases hodd : s.size % 2 = 1
      · have HF : Hid (tv (hexRd s) = tv ⟨noText, 0, 3⟩) := by show tv _ = _; rw [hexRd_odd hbig hodd]
        have hodd2 : ((s.size : Int) % 2 == 1) = true := beq_iff_eq.2 (by omega)
        clear hodd
        go_wp2
        exact bodyPost_ret (v := .agg #[.string ⟨#[]⟩, .int .i64 0, .int .i64 3]) (by simp [results, Tryd.results20, go_sem, c0, c1, c2]) rfl ⟨by rw [HF.out]; rfl, ((HB.out.setCell (Nat.le_refl _) _).setCell (Nat.le_refl _) _).setCell (Nat.le_refl _) _⟩
      · have HF : Hid (tv (hexRd s) = tv ⟨⟨bs.toArray⟩, 0, 0⟩) := by show tv _ = _; rw [HP.out.done hbig (by have := HJ.out; omega)]
        have hodd2 : ((s.size : Int) % 2 == 1) = false := beq_eq_false_iff_ne.2 (by omega)
        have hconv := run_conv_own 22 Tryd.underlying22 Tryd.underlying5 hown 9 Tryd.underlying9
        obtain ⟨y, hy⟩ : ∃ y : ByteArray, y = ⟨bs.toArray⟩ := ⟨_, rfl⟩
        rw [← hy] at hconv HF
        clear hodd hown hy
        go_wp2
        exact bodyPost_ret (v := .agg #[.string y, .int .i64 0, .int .i64 0]) (by simp [results, Tryd.results20, go_sem, c0, c1, c2]) rfl ⟨by rw [HF.out]; rfl, ((HB.out.setCell (Nat.le_refl _) _).setCell (Nat.le_refl _) _).setCell (Nat.le_refl _) _⟩
end Go.Proofs.YtocljgjdllpokaaDoor
