/- The bytes of targets, on the program's side. -/
import Derived.Test.YtnlalnkoggkdfaaMetV
import Derived.Test.YtnlalnkoggkdfaaTgI
namespace Go.Proofs.Ytnlalnkoggkdfaa
open Go.RowKit
set_option linter.unusedVariables false

set_option maxRecDepth 100000 in
set_option maxHeartbeats 4000000 in
theorem implTargetsB (v e : Int) (a : Option Addr) (c n : Nat) (l : List TarV) (w : World) (hn : l.length = n) (h : TgsAt w a l) (hnm : n ≤ maxLen) (hw : ∀ x ∈ l, x.w) (hv : I64 v) (he : I64 e) :
    Calls Try.prog 27 #[.agg #[.int .i64 v, .int .i64 e, .slice a n c]] w fun r w' => r = .returned (.string (targetsBy v e l)) ∧ Below w.heap.size w w' := by
  have HN : Hid (l.length = n) := hn
  have HA : Hid (TgsAt w a l) := h
  have HW : Hid (∀ x ∈ l, x.w) := hw
  have hR : ∀ w0, Hid (KpTg w w.heap.size v e a n c l w0) → Calls Try.prog 24 #[.agg #[.int .i64 v, .int .i64 e, .slice a n c]] w0 fun r w' => r = .returned (.bool (targetsB v e l)) ∧ Below w0.heap.size w0 w' := fun w0 h0 => implTargetsR v e a c n l w0 hn h0.out.tg hnm hw
  have HR : Hid (targetsBy v e l = if targetsB v e l then targetsT v e l else ⟨#[]⟩) := rfl
  unfold maxLen at hnm
  obtain ⟨R, hRR⟩ : ∃ R, targetsBy v e l = R := ⟨_, rfl⟩
  rw [hRR] at HR ⊢
  clear h hn hw hRR
  cases hb : targetsB v e l with
  | false =>
    have HF : Hid (R = ⟨#[]⟩) := by show _ = _; rw [HR.out, hb]; rfl
    rw [hb] at hR
    clear HR hb
    go_enter Try.func27, Try.ntmps27
    go_wp2_with (first
      | (with_reducible refine wpList_boxV (w := w) (by with_unfolding_all rfl) 41 (.tmp 0) (by with_unfolding_all rfl) (rtv v e a n c) (by with_unfolding_all rfl) ?_; intro w1 hA1 hB1 hS1; obtain ⟨p0, p1, p2⟩ := hA1.rt3; clear hS1)
      | (go_at_call 24; refine (hR w1 (KpTg.start HA hB1 hA1)).mono ?_; rintro r w2 ⟨rfl, hB2⟩))
    go_ret
    exact ⟨by rw [HF.out]; rfl, hB1.trans (hB2.mono hB1.size)⟩
  | true =>
  obtain ⟨hn20, him⟩ := targetsB_of hb
  rw [HN.out] at hn20
  have HI : Hid (∀ k (hk : k < l.length), l[k].im.size = 32) := him
  have HF : Hid (R = putTgs (⟨#[84]⟩ ++ putKs ⟨#[]⟩ [v, e, (n : Int)]) (l.drop 0)) := by show _ = _; rw [HR.out, hb, putKs_app, app_nil, ← HN.out]; rfl
  rw [hb] at hR
  have hP : ∀ w0 a, AI w0 a [v, e, (n : Int)] → Calls Try.prog 66 #[.slice a 3 3] w0 fun r w' => r = .returned (.string (putKs ⟨#[]⟩ [v, e, (n : Int)])) ∧ Below w0.heap.size w0 w' := fun w0 a h0 => putNumsI a 3 3 [v, e, (n : Int)] w0 rfl h0 (by omega) (by simp [hv, he, i64_len (show n ≤ 9223372036854775807 by omega)])
  have hz : (putKs ⟨#[]⟩ [v, e, (n : Int)]).size ≤ 30 := putKs_size ⟨#[]⟩ [v, e, (n : Int)]
  generalize putKs ⟨#[]⟩ [v, e, (n : Int)] = X at *
  obtain ⟨Y, hY⟩ : ∃ Y, (⟨#[84]⟩ : ByteArray) ++ X = Y := ⟨_, rfl⟩
  have hYs : Y.size ≤ 31 := by rw [← hY, ByteArray.size_append]; show 1 + _ ≤ _; omega
  rw [hY] at HF
  have y1 : ¬ 9223372036854775807 < 1 + X.size := by omega
  clear HR hb him
  go_enter Try.func27, Try.ntmps27
  go_wp2_with (first
    | (with_reducible refine wpList_boxV (w := w) (by with_unfolding_all rfl) 41 (.tmp 0) (by with_unfolding_all rfl) (rtv v e a n c) (by with_unfolding_all rfl) ?_; intro w1 hA1 hB1 hS1; obtain ⟨p0, p1, p2⟩ := hA1.rt3; clear hS1)
    | (go_at_call 24; refine (hR w1 (KpTg.start HA hB1 hA1)).mono ?_; rintro r w2 ⟨rfl, hB2⟩; have HS2 := KpTg.call (KpTg.start HA hB1 hA1) hB2; obtain ⟨q0, q1, q2, _⟩ := KpTg.three HS2)
    | (with_reducible refine wpList_build3 (w := w2) (by with_unfolding_all rfl) (.tmp 10) (.tmp 12) (.tmp 15) (by with_unfolding_all rfl) v e (n : Int) (by with_unfolding_all rfl) (by with_unfolding_all rfl) (by with_unfolding_all rfl) ?_; intro w3 hA3 hB3; have HS3 := KpTg.call HS2 hB3)
    | (go_at_call 66; refine (hP _ _ hA3).mono ?_; rintro r w4 ⟨rfl, hB4⟩; have HS4 := KpTg.call HS3 hB4; have r2 := (HS4.out).row.rt3.2.2))
  clear HS3 HS2 p0 p1 p2 q0 q1 q2 hA1 hB1 hB2 hB3 hA3 hR HA hP y1 hY hz
  all_goals
    go_loopw [3, 22] (fun vt vi wr => ∃ (i : Nat) (T : ByteArray), vi = .int .i64 (i : Int) ∧ vt = .string T ∧ i ≤ n ∧ T.size ≤ 31 + 20060 * i ∧ Hid (R = putTgs T (l.drop i)) ∧ Hid (KpTg w w.heap.size v e a n c l wr)) (fun _ vi _ => n - (intOf vi).toNat)
    case atStart => exact ⟨0, Y, rfl, rfl, Nat.zero_le _, by omega, HF, HS4⟩
    case round =>
    clear HF HS4 hYs r2
    obtain ⟨i, T, rfl, rfl, hi, hTs, HT, HS⟩ := hrel
    by_cases hlt : i < n
    case neg =>
      obtain rfl : i = n := by omega
      have HE : Hid (R = T) := by
        show _ = _
        have := HT.out
        rw [← HN.out, putTgs_end] at this
        exact this
      go_wp2
      go_ret
      exact ⟨by rw [HE.out]; rfl, HS.out.below⟩
    have hil : i < l.length := by have := HN.out; omega
    obtain ⟨b, o, rfl, hc0, hc1, hc2⟩ := HS.out.tg i hil
    obtain ⟨x1, x2, x3⟩ := HW.out l[i] (List.getElem_mem hil)
    have x4 := HI.out i hil
    have HT2 : Hid (R = putTgs (T ++ ((putT l[i].nm ++ l[i].im) ++ putS l[i].sz)) (l.drop (i + 1))) := by show _ = _; rw [HT.out, putTgs_step hil, ← ByteArray.append_assoc, ← ByteArray.append_assoc]; rfl
    generalize l[i].nm = z0 at *
    generalize l[i].im = z1 at *
    generalize l[i].sz = z2 at *
    have hP0 : ∀ w0, Calls Try.prog 73 #[.string z0] w0 fun r w' => r = .returned (.string (putT z0)) ∧ Below w0.heap.size w0 w' := fun w0 => implPutT z0 w0 x1
    have hP2 : ∀ w0, Calls Try.prog 74 #[.int .i64 z2] w0 fun r w' => r = .returned (.string (putS z2)) ∧ Below w0.heap.size w0 w' := fun w0 => implPut z2 w0 x3
    have s0 := putT_size' z0
    have s2 := putS_size z2
    generalize putT z0 = q0 at *
    generalize putS z2 = q2 at *
    obtain ⟨T1, hT1⟩ : ∃ T1, q0 ++ z1 = T1 := ⟨_, rfl⟩
    have t1s : T1.size ≤ 20042 := by rw [← hT1, ByteArray.size_append]; omega
    obtain ⟨T2, hT2⟩ : ∃ T2, T1 ++ q2 = T2 := ⟨_, rfl⟩
    have t2s : T2.size ≤ 20052 := by rw [← hT2, ByteArray.size_append]; omega
    obtain ⟨T3, hT3⟩ : ∃ T3, T ++ T2 = T3 := ⟨_, rfl⟩
    have t3s : T3.size ≤ 31 + 20060 * (i + 1) := by rw [← hT3, ByteArray.size_append]; omega
    rw [hT1, hT2, hT3] at HT2
    have y1 : ¬ 9223372036854775807 < q0.size + z1.size := by omega
    have y2 : ¬ 9223372036854775807 < T1.size + q2.size := by omega
    have y3 : ¬ 9223372036854775807 < T.size + T2.size := by omega
    have li : (i : Int) < n := by omega
    have l0 : (0 : Int) ≤ i := by omega
    have HY1 := KpTy.start (KpTg.call HS (below_alloc _ _)) (RowV.new wr (tgv z0 z1 z2) 100)
    clear x1 x2 x3 x4 hil HT
    go_wp2_with fail
    generalize hG5 : wr.heap.size = G5 at *
    change Hid (KpTy w v e (some ⟨b, o, none⟩) n c l G5 z0 z1 z2 (wr.alloc (.cells #[.string z0, .string z1, .int .i64 z2] 100))) at HY1
    generalize wr.alloc (.cells #[.string z0, .string z1, .int .i64 z2] 100) = w1 at *
    have HYd := KpTy.drew HY1
    clear HY1 HS hG5 hc0 hc1 hc2
    go_region_held3 (fun w' => w'.cell? ⟨G5, 0, none⟩ = some (.string z0) ∧ w'.cell? ⟨G5, 1, none⟩ = some (.string z1) ∧ w'.cell? ⟨G5, 2, none⟩ = some (.int .i64 z2) ∧ w'.cell? ⟨w.heap.size, 2, none⟩ = some (.slice (some ⟨b, o, none⟩) n c) ∧ Hid (KpTy w v e (some ⟨b, o, none⟩) n c l G5 z0 z1 z2 w'))
      (first | exact KpTy.four HYd | exact KpTy.four (KpTy.call HYd h8) | exact KpTy.four (KpTy.call (KpTy.call HYd h8) h9))
      (first
        | (go_at_call 73; with_reducible refine (hP0 _).mono ?_; rintro r w8 ⟨rfl, h8⟩)
        | (go_at_call 74; with_reducible refine (hP2 _).mono ?_; rintro r w9 ⟨rfl, h9⟩))
    all_goals
      have HS9 := KpTy.kpH (KpTy.call (KpTy.call HYd h8) h9)
      clear HYd h8 h9
      go_wp2_with fail
      go_roundw
      case rel => exact ⟨i + 1, T3, by go_num, rfl, by omega, by omega, HT2, HS9⟩
      case measure => simp [intOf]; omega
end Go.Proofs.Ytnlalnkoggkdfaa
