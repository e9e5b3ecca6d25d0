/- The program's spreadBlock. -/
import Derived.Test.YtchfpiadfmnphaaDoorRnd
namespace Go.Proofs.YtchfpiadfmnphaaDoor
open Go.RowKit
set_option linter.unusedVariables false
attribute [local go_sem] U_xor U_or U_and U_add U_shr U_shl U_not U_store U_one'
attribute [local go_sem ↓] Go.wp_at_zero Go.wp_at_succ U_cells

theorem Tryd.infoA64 : (Tryd.prog.info? 166).map (fun i => i.zero) = some (some (aggU (List.replicate 64 0))) := by kernel_rfl
theorem Tryd.sizeA64 : (Tryd.prog.info? 166).map (·.size) = some 64 := by kernel_rfl
theorem Tryd.undA64 : Tryd.prog.underlying 166 = some (.array 64 127) := by kernel_rfl
theorem ArrU.cellD {w : World} {g : Nat} {l r : List UInt32} (h : ArrU w g (l ++ r)) {k : Nat} (hk : k < l.length) : w.cell? ⟨g, k, none⟩ = some (U (l.getD k 0)) := by
  rw [h.cell (k := k) (by simp; omega), List.getElem_append_left hk]
  simp [hk]

set_option maxRecDepth 100000 in
set_option maxHeartbeats 4000000 in
theorem spread_any (s : ByteArray) (w : World) (hs : s.size = 64) :
    Calls Tryd.prog 117 #[.string s] w fun e w' => e = .returned (aggU (sch s 48)) ∧ Below w.heap.size w w' := by
  go_enter Tryd.func117, Tryd.ntmps117
  go_wp2_with (first
    | (refine wpList_allocU (w := w) rfl _ (by rfl) 64 Tryd.infoA64 ?_; intro w1 hA1 hB1 hS1)
    | (refine wpList_allocU rfl _ (by rfl) 64 Tryd.infoA64 ?_; intro w2 hA2 hB2 hS2))
  have HA1 : Hid (ArrU w2 w.heap.size (List.replicate 64 0)) := hA1.below hB2 (by omega)
  have HB2 : Hid (Below w.heap.size w w2) := hB1.trans (hB2.mono (by omega))
  have HS2 : Hid (w2.heap.size = w.heap.size + 2) := by show _ = _; omega
  have HA2 : Hid (ArrU w2 (w.heap.size + 1) (words s 0 ++ List.replicate (64 - 0) 0)) := by rw [← hS1]; exact hA2
  clear hA1 hA2 hB1 hB2 hS1 hS2
  obtain ⟨g, hg⟩ : ∃ g, w.heap.size + 1 = g := ⟨_, rfl⟩
  rw [hg] at HA2 ⊢
  go_loopw [8] (fun i wr => ∃ (k : Nat), i = .int .i64 k ∧ k ≤ 16 ∧ ArrU wr g (words s k ++ List.replicate (64 - k) 0) ∧ Below g w2 wr)
    (fun i _ => 16 - (intOf i).toNat)
  case atStart => exact ⟨0, rfl, Nat.zero_le _, HA2.out, Below.refl _ _⟩
  case round =>
   as_aux_lemma =>
    obtain ⟨k, rfl, hk, hrow, hnx⟩ := hrel
    have HRow : Hid (ArrU wr g (words s k ++ List.replicate (64 - k) 0)) := hrow
    clear hrow HA2
    by_cases hlt : k < 16
    · as_aux_lemma =>
      obtain ⟨z0, a0, b0, x0, r0⟩ := run_byte (P := Tryd.prog) 9 0 0 s (4 * k) Tryd.underlying9 (by omega)
      obtain ⟨z1, a1, b1, x1, r1⟩ := run_byte (P := Tryd.prog) 9 0 0 s (4 * k + 1) Tryd.underlying9 (by omega)
      obtain ⟨z2, a2, b2, x2, r2⟩ := run_byte (P := Tryd.prog) 9 0 0 s (4 * k + 2) Tryd.underlying9 (by omega)
      obtain ⟨z3, a3, b3, x3, r3⟩ := run_byte (P := Tryd.prog) 9 0 0 s (4 * k + 3) Tryd.underlying9 (by omega)
      have q0 := fun w0 => U_of_u8 (P := Tryd.prog) w0 5 127 z0 a0 b0 Tryd.underlying5 Tryd.underlying127
      have q1 := fun w0 => U_of_u8 (P := Tryd.prog) w0 5 127 z1 a1 b1 Tryd.underlying5 Tryd.underlying127
      have q2 := fun w0 => U_of_u8 (P := Tryd.prog) w0 5 127 z2 a2 b2 Tryd.underlying5 Tryd.underlying127
      have q3 := fun w0 => U_of_u8 (P := Tryd.prog) w0 5 127 z3 a3 b3 Tryd.underlying5 Tryd.underlying127
      rw [x0] at q0
      rw [x1] at q1
      rw [x2] at q2
      rw [x3] at q3
      clear x0 x1 x2 x3
      obtain ⟨m, hm⟩ : ∃ m : Nat, m = 4 * k := ⟨_, rfl⟩
      rw [← hm] at r0 r1 r2 r3
      have e0 : IntKind.i64.wrap (4 * (k : Int)) = (m : Int) := by rw [hm]; simp [IntKind.wrap, IntKind.signed, IntKind.bits]; omega
      have e1 : IntKind.i64.wrap ((m : Int) + 1) = ((m + 1 : Nat) : Int) := by simp [IntKind.wrap, IntKind.signed, IntKind.bits]; omega
      have e2 : IntKind.i64.wrap ((m : Int) + 2) = ((m + 2 : Nat) : Int) := by simp [IntKind.wrap, IntKind.signed, IntKind.bits]; omega
      have e3 : IntKind.i64.wrap ((m : Int) + 3) = ((m + 3 : Nat) : Int) := by simp [IntKind.wrap, IntKind.signed, IntKind.bits]; omega
      obtain ⟨m1, hm1⟩ : ∃ m1 : Nat, m1 = m + 1 := ⟨_, rfl⟩
      obtain ⟨m2, hm2⟩ : ∃ m1 : Nat, m1 = m + 2 := ⟨_, rfl⟩
      obtain ⟨m3, hm3⟩ : ∃ m1 : Nat, m1 = m + 3 := ⟨_, rfl⟩
      rw [← hm1] at r1 e1
      rw [← hm2] at r2 e2
      rw [← hm3] at r3 e3
      have HM : Hid (m = 4 * k) := hm
      have HM1 : Hid (m1 = m + 1) := hm1
      have HM2 : Hid (m2 = m + 2) := hm2
      have HM3 : Hid (m3 = m + 3) := hm3
      clear hm hm1 hm2 hm3
      have hc : wr.cell? ⟨g, k, none⟩ = some (U 0) := (HRow.out.cell (k := k) (by simp [words]; omega)).trans (by simp [words])
      have hfz := HRow.out.frozen (k := k) (by simp [words]; omega)
      have hcl : ∀ x : UInt32, (U x).cells = #[U x] := fun _ => rfl
      unfold Value.cells at hcl
      have k0 : (0 : Int) ≤ (k : Int) := by omega
      have k1 : (k : Int) < 64 := by omega
      go_wp2_with fail
      go_region
      clear r0 r1 r2 r3 q0 q1 q2 q3 e0 e1 e2 e3 hc hfz hcl
      have HRow2 : Hid (ArrU (wr.setCell ⟨g, k, none⟩ (U (wordAt s k))).drew g (words s (k + 1) ++ List.replicate (64 - (k + 1)) 0)) :=
        (HRow.out.set (k := k) (by simp [words]; omega) (by rw [words_succ]; exact set_next (words_length s k) (by omega))).drew
      have HB3 : Hid (Below g w2 (wr.setCell ⟨g, k, none⟩ (U (wordAt s k))).drew) := (hnx.setCell (Nat.le_refl _) _).drew
      have HE : Hid (U (wordAt s k) = U (sl (b32 s (4 * k)) 24 ||| sl (b32 s (4 * k + 1)) 16 ||| sl (b32 s (4 * k + 2)) 8 ||| b32 s (4 * k + 3))) := rfl
      rw [← HE.out]
      generalize (wr.setCell ⟨g, k, none⟩ (U (wordAt s k))).drew = w3 at *
      generalize U (wordAt s k) = uu at *
      go_wp2
      go_roundw
      case rel => exact ⟨k + 1, by go_num, hlt, HRow2.out, HB3.out⟩
      case measure => simp [intOf]; omega
    · as_aux_lemma =>
      obtain rfl : k = 16 := by omega
      have HR2 : Hid (ArrU wr g (sch s 0 ++ List.replicate (64 - (16 + 0)) 0)) := HRow.out
      have HB3 : Hid (Below g w2 wr) := hnx
      clear HRow hnx
      rw [show ((16 : Nat) : Int) = 16 from rfl]
      go_wp2_with fail
      go_loopw [5, 6, 7] (fun i _ _ wr => ∃ (n : Nat), i = .int .i64 ((16 + n : Nat) : Int) ∧ n ≤ 48 ∧ ArrU wr g (sch s n ++ List.replicate (64 - (16 + n)) 0) ∧ Below g w2 wr)
        (fun i _ _ _ => 64 - (intOf i).toNat)
      case atStart => exact ⟨0, rfl, Nat.zero_le _, HR2.out, HB3.out⟩
      case round =>
       as_aux_lemma =>
        clear HR2 HB3
        obtain ⟨n, rfl, hn, hrow, hnx⟩ := hrel
        have hlen := sch_length s n
        obtain ⟨k, hkn⟩ : ∃ k : Nat, 16 + n = k := ⟨_, rfl⟩
        rw [hkn] at hrow hlen ⊢
        have HRow : Hid (ArrU wr g (sch s n ++ List.replicate (64 - k) 0)) := hrow
        have HKN : Hid (16 + n = k) := hkn
        by_cases hlt : k < 64
        · as_aux_lemma =>
          have d15 := HRow.out.cellD (k := k - 15) (by omega)
          have d2 := HRow.out.cellD (k := k - 2) (by omega)
          have d16 := HRow.out.cellD (k := k - 16) (by omega)
          have d7 := HRow.out.cellD (k := k - 7) (by omega)
          have hc : wr.cell? ⟨g, k, none⟩ = some (U 0) := (HRow.out.cell (k := k) (by simp; omega)).trans (by rw [List.getElem_append_right (by omega)]; simp)
          have hfz := HRow.out.frozen (k := k) (by simp; omega)
          have HX : Hid (nxt (sch s n) = (sch s n).getD (k - 16) 0 + (rot ((sch s n).getD (k - 15) 0) 7 ^^^ rot ((sch s n).getD (k - 15) 0) 18 ^^^ sr ((sch s n).getD (k - 15) 0) 3) + (sch s n).getD (k - 7) 0 + (rot ((sch s n).getD (k - 2) 0) 17 ^^^ rot ((sch s n).getD (k - 2) 0) 19 ^^^ sr ((sch s n).getD (k - 2) 0) 10)) := by
            show nxt (sch s n) = _
            unfold nxt
            rw [hlen]
          obtain ⟨m15, f15⟩ : ∃ m : Nat, k - 15 = m := ⟨_, rfl⟩
          obtain ⟨m2, f2⟩ : ∃ m : Nat, k - 2 = m := ⟨_, rfl⟩
          obtain ⟨m16, f16⟩ : ∃ m : Nat, k - 16 = m := ⟨_, rfl⟩
          obtain ⟨m7, f7⟩ : ∃ m : Nat, k - 7 = m := ⟨_, rfl⟩
          rw [f15] at d15 HX
          rw [f2] at d2 HX
          rw [f16] at d16 HX
          rw [f7] at d7 HX
          have e15 : (k : Int) - 15 = (m15 : Int) := by omega
          have e2 : (k : Int) - 2 = (m2 : Int) := by omega
          have e16 : IntKind.i64.wrap ((k : Int) - 16) = (m16 : Int) := by simp [IntKind.wrap, IntKind.signed, IntKind.bits]; omega
          have e7 : IntKind.i64.wrap ((k : Int) - 7) = (m7 : Int) := by simp [IntKind.wrap, IntKind.signed, IntKind.bits]; omega
          have l15 : (m15 : Int) < 64 := by omega
          have l2 : (m2 : Int) < 64 := by omega
          have l16 : (m16 : Int) < 64 := by omega
          have l7 : (m7 : Int) < 64 := by omega
          have lk : (k : Int) < 64 := by omega
          have w15 : IntKind.i64.wrap (m15 : Int) = (m15 : Int) := by simp [IntKind.wrap, IntKind.signed, IntKind.bits]; omega
          have w2' : IntKind.i64.wrap (m2 : Int) = (m2 : Int) := by simp [IntKind.wrap, IntKind.signed, IntKind.bits]; omega
          have HSX : Hid (∀ wx : World, ArrU wx g (sch s n ++ List.replicate (64 - k) 0) → ArrU (wx.setCell ⟨g, k, none⟩ (U (nxt (sch s n)))).drew g (sch s (n + 1) ++ List.replicate (64 - (k + 1)) 0)) := fun wx h =>
            (h.set (k := k) (by simp; omega) (by rw [sch]; exact set_next hlen hlt)).drew
          generalize nxt (sch s n) = nx at *
          generalize (sch s n).getD m15 0 = x at *
          generalize (sch s n).getD m2 0 = y at *
          generalize (sch s n).getD m16 0 = v16 at *
          generalize (sch s n).getD m7 0 = v7 at *
          have hcl : ∀ x : UInt32, (U x).cells = #[U x] := fun _ => rfl
          unfold Value.cells at hcl
          have HNE : Hid (m16 ≠ k ∧ m7 ≠ k) := ⟨by omega, by omega⟩
          clear f15 f2 f16 f7 hkn hlen HRow
          have HP : Hid (ArrU wr g (sch s n ++ List.replicate (64 - k) 0) ∧ Below g w2 wr) := ⟨hrow, hnx⟩
          clear hrow hnx
          go_wp2_with fail
          go_quiet (first | (go_at_call 129; exact Calls.quiet_of_same (turnI_any _ _ _ (by omega) (by omega))))
          have HP1 : Hid (ArrU (wr.drewN nq) g (sch s n ++ List.replicate (64 - k) 0) ∧ Below g w2 (wr.drewN nq)) := ⟨HP.out.1.drewN _, belN HP.out.2 _⟩
          have d2n : (wr.drewN nq).cell? ⟨g, m2, none⟩ = some (U y) := d2
          have d16n : (wr.drewN nq).cell? ⟨g, m16, none⟩ = some (U v16) := d16
          have d7n : (wr.drewN nq).cell? ⟨g, m7, none⟩ = some (U v7) := d7
          have hcn : (wr.drewN nq).cell? ⟨g, k, none⟩ = some (U 0) := hc
          have hfn : (wr.drewN nq).frozen? ⟨g, k, none⟩ = false := hfz
          clear HP d2 d16 d7 hc hfz d15
          generalize wr.drewN nq = wa at *
          go_wp2_with fail
          go_quiet (first | (go_at_call 129; exact Calls.quiet_of_same (turnI_any _ _ _ (by omega) (by omega))))
          have HP2 : Hid (ArrU (wa.drewN nq) g (sch s n ++ List.replicate (64 - k) 0) ∧ Below g w2 (wa.drewN nq)) := ⟨HP1.out.1.drewN _, belN HP1.out.2 _⟩
          have d16 : (wa.drewN nq).cell? ⟨g, m16, none⟩ = some (U v16) := d16n
          have d7 : (wa.drewN nq).cell? ⟨g, m7, none⟩ = some (U v7) := d7n
          have hc : (wa.drewN nq).cell? ⟨g, k, none⟩ = some (U 0) := hcn
          have hfz : (wa.drewN nq).frozen? ⟨g, k, none⟩ = false := hfn
          clear HP1 d2n d16n d7n hcn hfn
          generalize wa.drewN nq = wb at *
          have HRow2 : Hid (ArrU (wb.setCell ⟨g, k, none⟩ (U nx)).drew g (sch s (n + 1) ++ List.replicate (64 - (k + 1)) 0)) := HSX.out _ HP2.out.1
          have HB2 : Hid (Below g w2 (wb.setCell ⟨g, k, none⟩ (U nx)).drew) := (HP2.out.2.setCell (Nat.le_refl _) _).drew
          have K16 : Hid (∀ v, (wb.setCell ⟨g, k, none⟩ v).drew.cell? ⟨g, m16, none⟩ = some (U v16)) := fun v => (cell_other HNE.out.1).trans d16
          have K7 : Hid (∀ v, (wb.setCell ⟨g, k, none⟩ v).drew.cell? ⟨g, m7, none⟩ = some (U v7)) := fun v => (cell_other HNE.out.2).trans d7
          go_wp2_with fail
          go_region_held3 (fun w' => w'.cell? ⟨g, m16, none⟩ = some (U v16) ∧ w'.cell? ⟨g, m7, none⟩ = some (U v7)) (first | exact ⟨d16, d7⟩ | exact ⟨K16.out _, K7.out _⟩) (first | fail)
          rw [← HX.out]
          generalize (wb.setCell ⟨g, k, none⟩ (U nx)).drew = w3 at *
          clear hc hfz d16 d7 hcl e15 e2 e16 e7 K16 K7 HX w15 w2'
          go_wp2
          go_roundw
          case rel => exact ⟨n + 1, by have := HKN.out; go_num, by have := HKN.out; omega, by rw [show 16 + (n + 1) = k + 1 by have := HKN.out; omega]; exact HRow2.out, HB2.out⟩
          case measure => simp [intOf]; omega
        · as_aux_lemma =>
          obtain rfl : n = 48 := by have := HKN.out; omega
          obtain rfl : k = 64 := by have := HKN.out; omega
          have HR3 : ArrU wr g (sch s 48) := by have := HRow.out; rw [Nat.sub_self, List.replicate_zero, List.append_nil] at this; exact this
          have hl48 : (sch s 48).length = 64 := sch_length s 48
          have HA3 := HA1.out.below hnx (by omega)
          have HBW := HB2.out.trans (hnx.mono (by omega))
          clear HRow hrow hnx HA1 HB2 HS2
          obtain ⟨l, hl⟩ : ∃ l, sch s 48 = l := ⟨_, rfl⟩
          have HL : Hid (sch s 48 = l) := hl
          rw [hl] at HR3 hl48
          clear hl hlen
          go_wp2_with (first
            | (refine wpList_loadU rfl _ _ (by rfl) g l (by rfl) HR3 64 127 Tryd.undA64 Tryd.sizeA64 hl48 ?_)
            | (refine wpList_storeU rfl _ _ _ (by rfl) w.heap.size (List.replicate 64 0) l (by rfl) (by rfl) HA3 (by rw [List.length_replicate]; exact Tryd.sizeA64) (by rw [List.length_replicate]; exact hl48) ?_; intro w5 hA5 hB5 _))
          refine bodyPost_ret (results_U (t := 166) rfl _ w.heap.size _ rfl hA5 64 127 Tryd.undA64 Tryd.sizeA64 hl48) rfl ⟨by rw [HL.out], ?_⟩
          exact HBW.trans (hB5 _ (Nat.le_refl _))
end Go.Proofs.YtchfpiadfmnphaaDoor
