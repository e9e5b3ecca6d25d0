/- What is signed, on the program's side: is it right, and its bytes. -/
import Derived.Test.YtdfglpbappeoaaaJn9
import Derived.Test.YtdfglpbappeoaaaJn5
import Derived.Test.YtdfglpbappeoaaaBld
namespace Go.Proofs.Ytdfglpbappeoaaa
open Go.RowKit
set_option linter.unusedVariables false

set_option maxRecDepth 100000 in
set_option maxHeartbeats 2000000 in
theorem implSigned (t : ByteArray) (a : Option Addr) (c n : Nat) (l : List SigV) (w : World) (hn : l.length = n) (h : SgsAt w a l) (hnm : n ≤ maxLen) (hts : t.size ≤ maxLen) (hw : ∀ x ∈ l, x.w) :
    Calls Try.prog 87 #[.agg #[.string t, .slice a n c]] w fun r w' => r = .returned (.bool (signedB t l)) ∧ Below w.heap.size w w' := by
  unfold maxLen at hnm hts
  have HN : Hid (l.length = n) := hn
  have HA : Hid (SgsAt w a l) := h
  have HW : Hid (∀ x ∈ l, x.w) := hw
  have HR : Hid (¬ (t.size ≤ 8000 ∧ l.length ≤ 16) → signedB t l = false) := fun h => by unfold signedB; rw [decide_eq_false h]; rfl
  have HR2 : Hid ((t.size ≤ 8000 ∧ l.length ≤ 16) → signedB t l = l.all SigV.ok) := fun h => by unfold signedB; rw [decide_eq_true h]; rfl
  obtain ⟨R, hRR⟩ : ∃ R, signedB t l = R := ⟨_, rfl⟩
  rw [hRR] at HR HR2 ⊢
  clear h hn hw hRR
  by_cases c1 : 8000 < t.size
  · have d1 : decide ((8000 : Int) < (t.size : Int)) = true := decide_eq_true (by omega)
    have HF : Hid (R = false) := HR.out (by omega)
    go_enter Try.func87, Try.ntmps87
    go_wp2_with (first
      | (with_reducible refine wpList_boxV (w := w) (by with_unfolding_all rfl) 67 (.tmp 0) (by with_unfolding_all rfl) (sgv t a n c) (by with_unfolding_all rfl) ?_; intro w1 hA1 hB1 hS1; obtain ⟨p0, p1⟩ := hA1.sg; clear hS1))
    go_ret
    exact ⟨retY HF.out.symm, hB1⟩
  have d1 : decide ((8000 : Int) < (t.size : Int)) = false := decide_eq_false (by omega)
  by_cases c2 : 16 < n
  · have d2 : decide ((16 : Int) < (n : Int)) = true := decide_eq_true (by omega)
    have HF : Hid (R = false) := HR.out (by rw [HN.out]; omega)
    go_enter Try.func87, Try.ntmps87
    go_wp2_with (first
      | (with_reducible refine wpList_boxV (w := w) (by with_unfolding_all rfl) 67 (.tmp 0) (by with_unfolding_all rfl) (sgv t a n c) (by with_unfolding_all rfl) ?_; intro w1 hA1 hB1 hS1; obtain ⟨p0, p1⟩ := hA1.sg; clear hS1))
    go_ret
    exact ⟨retY HF.out.symm, hB1⟩
  have d2 : decide ((16 : Int) < (n : Int)) = false := decide_eq_false (by omega)
  have HK : Hid (R = l.all SigV.ok) := HR2.out (by rw [HN.out]; omega)
  clear HR HR2
  go_enter Try.func87, Try.ntmps87
  go_wp2_with (first
    | (with_reducible refine wpList_boxV (w := w) (by with_unfolding_all rfl) 67 (.tmp 0) (by with_unfolding_all rfl) (sgv t a n c) (by with_unfolding_all rfl) ?_; intro w1 hA1 hB1 hS1; obtain ⟨p0, p1⟩ := hA1.sg; clear hS1))
  have HS := KpSg.start HA hB1 hA1
  clear hA1 hB1 p0 p1 HA d1 d2
  go_loopw [18] (fun vi wr => ∃ k : Nat, vi = .int .i64 (k : Int) ∧ k ≤ n ∧ Hid (∀ j (hj : j < l.length), j < k → l[j].ok = true) ∧ Hid (KpSg w w.heap.size t a n c l wr)) (fun vi _ => n - (intOf vi).toNat)
  case atStart => exact ⟨0, rfl, Nat.zero_le _, fun j hj h0 => absurd h0 (Nat.not_lt_zero _), HS⟩
  case round =>
    clear HS
    obtain ⟨k, rfl, hk, HT, HS⟩ := hrel
    obtain ⟨p0, p1⟩ := HS.out.row.sg
    by_cases hlt : k < n
    case neg =>
      obtain rfl : k = n := by omega
      have HF : Hid (R = true) := by show _ = _; rw [HK.out]; exact sigs_yes (fun j hj => HT.out j hj (by have := HN.out; omega))
      go_wp2
      go_ret
      exact ⟨retY HF.out.symm, HS.out.below⟩
    have hkl : k < l.length := by have := HN.out; omega
    obtain ⟨b, o, rfl, hc0, hc1, hc2⟩ := HS.out.sg k hkl
    obtain ⟨x1, x2, x3⟩ := HW.out l[k] (List.getElem_mem hkl)
    have lk : (k : Int) < n := by omega
    have l0 : (0 : Int) ≤ k := by omega
    have hG : ∀ w0, Calls Try.prog 128 #[.agg #[.int .i64 l[k].k, .int .i64 l[k].e, .int .i64 l[k].s]] w0 fun r w' => r = .returned (.bool l[k].ok) ∧ Below w0.heap.size w0 w' := fun w0 => implSigR l[k].k l[k].e l[k].s w0 x1
    have HYes : Hid (l[k].ok = true → ∀ j (hj : j < l.length), j < k + 1 → l[j].ok = true) := fun h j hj hjk => by
      by_cases hjk2 : j < k
      · exact HT.out j hj hjk2
      · obtain rfl : j = k := by omega
        exact h
    have HNo : Hid (l[k].ok = false → R = false) := fun h => by rw [HK.out]; exact sigs_no hkl h
    obtain ⟨ob, hob⟩ : ∃ ob, l[k].ok = ob := ⟨_, rfl⟩
    rw [hob] at hG HYes HNo
    generalize l[k].k = z0 at *
    generalize l[k].e = z1 at *
    generalize l[k].s = z2 at *
    clear hob x1 x2 x3 HT
    cases ob with
    | false =>
      as_aux_lemma =>
      have HF : Hid (R = false) := HNo.out rfl
      clear HYes HNo
      go_wp2_with (go_at_call 128; with_reducible refine (hG _).mono ?_; rintro r w5 ⟨rfl, hB5⟩; have HS5 := KpSg.call (KpSg.call HS (below_alloc _ _)) hB5)
      go_ret
      exact ⟨retY HF.out.symm, HS5.out.below⟩
    | true =>
      as_aux_lemma =>
      have HT2 : Hid (∀ j (hj : j < l.length), j < k + 1 → l[j].ok = true) := HYes.out rfl
      clear HYes HNo
      go_wp2_with (go_at_call 128; with_reducible refine (hG _).mono ?_; rintro r w5 ⟨rfl, hB5⟩; have HS5 := KpSg.call (KpSg.call HS (below_alloc _ _)) hB5)
      go_roundw
      case rel => exact ⟨k + 1, by go_num, by omega, HT2, HS5⟩
      case measure => simp [intOf]; omega
set_option maxRecDepth 100000 in
set_option maxHeartbeats 4000000 in
theorem implSignedB (t : ByteArray) (a : Option Addr) (c n : Nat) (l : List SigV) (w : World) (hn : l.length = n) (h : SgsAt w a l) (hnm : n ≤ maxLen) (hts : t.size ≤ maxLen) (hw : ∀ x ∈ l, x.w) :
    Calls Try.prog 37 #[.agg #[.string t, .slice a n c]] w fun r w' => r = .returned (.string (signedBy t l)) ∧ Below w.heap.size w w' := by
  have HN : Hid (l.length = n) := hn
  have HA : Hid (SgsAt w a l) := h
  have HW : Hid (∀ x ∈ l, x.w) := hw
  have hR : ∀ w0, Hid (KpSg w w.heap.size t a n c l w0) → Calls Try.prog 87 #[.agg #[.string t, .slice a n c]] w0 fun r w' => r = .returned (.bool (signedB t l)) ∧ Below w0.heap.size w0 w' := fun w0 h0 => implSigned t a c n l w0 hn h0.out.sg hnm hts hw
  have HR : Hid (signedBy t l = if signedB t l then signedT t l else ⟨#[]⟩) := rfl
  have hPt : ∀ w0, Calls Try.prog 81 #[.string t] w0 fun r w' => r = .returned (.string (putT t)) ∧ Below w0.heap.size w0 w' := fun w0 => implPutT t w0 hts
  unfold maxLen at hnm hts
  obtain ⟨R, hRR⟩ : ∃ R, signedBy t l = R := ⟨_, rfl⟩
  rw [hRR] at HR ⊢
  clear h hn hw hRR
  cases hb : signedB t l with
  | false =>
    have HF : Hid (R = ⟨#[]⟩) := by show _ = _; rw [HR.out, hb]; rfl
    rw [hb] at hR
    clear HR hb hPt
    go_enter Try.func37, Try.ntmps37
    go_wp2_with (first
      | (with_reducible refine wpList_boxV (w := w) (by with_unfolding_all rfl) 67 (.tmp 0) (by with_unfolding_all rfl) (sgv t a n c) (by with_unfolding_all rfl) ?_; intro w1 hA1 hB1 hS1; obtain ⟨p0, p1⟩ := hA1.sg; clear hS1)
      | (go_at_call 87; refine (hR w1 (KpSg.start HA hB1 hA1)).mono ?_; rintro r w2 ⟨rfl, hB2⟩))
    go_ret
    exact ⟨by rw [HF.out]; rfl, hB1.trans (hB2.mono hB1.size)⟩
  | true =>
  obtain ⟨ht8, hn16⟩ := signedB_of hb
  rw [HN.out] at hn16
  have HF : Hid (R = putSgs ((⟨#[83]⟩ ++ putT t) ++ putS (n : Int)) (l.drop 0)) := by show _ = _; rw [HR.out, hb, ← HN.out]; rfl
  rw [hb] at hR
  have hPn : ∀ w0, Calls Try.prog 72 #[.int .i64 (n : Int)] w0 fun r w' => r = .returned (.string (putS (n : Int))) ∧ Below w0.heap.size w0 w' := fun w0 => implPut (n : Int) w0 (i64_len (by omega))
  have hz1 := putT_size (t := t) (by omega)
  have hz2 := putS_size (n : Int)
  obtain ⟨X, hX⟩ : ∃ X, (⟨#[83]⟩ : ByteArray) ++ putT t = X := ⟨_, rfl⟩
  have hXs : X.size ≤ 20011 := by rw [← hX, ByteArray.size_append]; show 1 + _ ≤ _; omega
  obtain ⟨Y, hY⟩ : ∃ Y, X ++ putS (n : Int) = Y := ⟨_, rfl⟩
  have hYs : Y.size ≤ 20021 := by rw [← hY, ByteArray.size_append]; omega
  rw [hX, hY] at HF
  generalize putT t = pt at *
  generalize putS (n : Int) = pn at *
  have y1 : ¬ 9223372036854775807 < 1 + pt.size := by omega
  have y2 : ¬ 9223372036854775807 < X.size + pn.size := by omega
  clear HR hb
  go_enter Try.func37, Try.ntmps37
  go_wp2_with (first
    | (with_reducible refine wpList_boxV (w := w) (by with_unfolding_all rfl) 67 (.tmp 0) (by with_unfolding_all rfl) (sgv t a n c) (by with_unfolding_all rfl) ?_; intro w1 hA1 hB1 hS1; obtain ⟨p0, p1⟩ := hA1.sg; clear hS1)
    | (go_at_call 87; refine (hR w1 (KpSg.start HA hB1 hA1)).mono ?_; rintro r w2 ⟨rfl, hB2⟩; have HS2 := KpSg.call (KpSg.start HA hB1 hA1) hB2))
  have HS := KpSg.drew HS2
  clear HS2 p0 p1 hA1 hB1 hB2 hR HA
  go_region_held3 (fun w' => w'.cell? ⟨w.heap.size, 0, none⟩ = some (.string t) ∧ w'.cell? ⟨w.heap.size, 1, none⟩ = some (.slice a n c) ∧ Hid (KpSg w w.heap.size t a n c l w'))
    (first | exact KpSg.two HS | exact KpSg.two (KpSg.call HS h6) | exact KpSg.two (KpSg.call (KpSg.call HS h6) h7))
    (first
      | (go_at_call 81; with_reducible refine (hPt _).mono ?_; rintro r w6 ⟨rfl, h6⟩)
      | (go_at_call 72; with_reducible refine (hPn _).mono ?_; rintro r w7 ⟨rfl, h7⟩))
  all_goals
    have HS7 := KpSg.call (KpSg.call HS h6) h7
    clear HS h6 h7 hPt hPn y1 y2 hXs hz1 hz2 hX hY
    go_wp2_with fail
    go_loopw [3, 21] (fun vt vi wr => ∃ (i : Nat) (T : ByteArray), vi = .int .i64 (i : Int) ∧ vt = .string T ∧ i ≤ n ∧ T.size ≤ 20021 + 30 * i ∧ Hid (R = putSgs T (l.drop i)) ∧ Hid (KpSg w w.heap.size t a n c l wr)) (fun _ vi _ => n - (intOf vi).toNat)
    case atStart => exact ⟨0, Y, rfl, rfl, Nat.zero_le _, by omega, HF, HS7⟩
    case round =>
    clear HF HS7 hYs
    obtain ⟨i, T, rfl, rfl, hi, hTs, HT, HS⟩ := hrel
    obtain ⟨p0, p1⟩ := HS.out.row.sg
    by_cases hlt : i < n
    case neg =>
      obtain rfl : i = n := by omega
      have HE : Hid (R = T) := by
        show _ = _
        have := HT.out
        rw [← HN.out, putSgs_end] at this
        exact this
      go_wp2
      go_ret
      exact ⟨by rw [HE.out]; rfl, HS.out.below⟩
    have hil : i < l.length := by have := HN.out; omega
    obtain ⟨b, o, rfl, hc0, hc1, hc2⟩ := HS.out.sg i hil
    obtain ⟨x1, x2, x3⟩ := HW.out l[i] (List.getElem_mem hil)
    have HT2 : Hid (R = putSgs (T ++ putKs ⟨#[]⟩ [l[i].k, l[i].e, l[i].s]) (l.drop (i + 1))) := by show _ = _; rw [HT.out, putSgs_step hil, putKs_app, app_nil]; rfl
    generalize l[i].k = z0 at *
    generalize l[i].e = z1 at *
    generalize l[i].s = z2 at *
    have hP : ∀ w0 a, AI w0 a [z0, z1, z2] → Calls Try.prog 88 #[.slice a 3 3] w0 fun r w' => r = .returned (.string (putKs ⟨#[]⟩ [z0, z1, z2])) ∧ Below w0.heap.size w0 w' := fun w0 a h0 => putNumsI a 3 3 [z0, z1, z2] w0 rfl h0 (by omega) (by simp [x1, x2, x3])
    have hz1 : (putKs ⟨#[]⟩ [z0, z1, z2]).size ≤ 30 := putKs_size ⟨#[]⟩ [z0, z1, z2]
    generalize putKs ⟨#[]⟩ [z0, z1, z2] = X at *
    obtain ⟨T3, hT3⟩ : ∃ T3, T ++ X = T3 := ⟨_, rfl⟩
    have t3s : T3.size ≤ 20051 + 30 * i := by rw [← hT3, ByteArray.size_append]; omega
    rw [hT3] at HT2
    have y1 : ¬ 9223372036854775807 < T.size + X.size := by omega
    have li : (i : Int) < n := by omega
    have l0 : (0 : Int) ≤ i := by omega
    clear x1 x2 x3 hil HT
    go_wp2_with (first
      | (with_reducible refine wpList_build3G (by with_unfolding_all rfl) (.tmp 27) (.tmp 29) (.tmp 31) (by with_unfolding_all rfl) z0 z1 z2 (by with_unfolding_all rfl) (by with_unfolding_all rfl) (by with_unfolding_all rfl) (wr.heap.size + 1) (szA _ _) ?_; intro w8 hA8 hB8; have HS8 := KpSg.call (KpSg.call HS (below_alloc _ _)) hB8)
      | (go_at_call 88; with_reducible refine (hP _ _ hA8).mono ?_; rintro r w9 ⟨rfl, hB9⟩; have HS9 := KpSg.call HS8 hB9))
    go_roundw
    case rel => exact ⟨i + 1, T3, by go_num, rfl, by omega, by omega, HT2, HS9⟩
    case measure => simp [intOf]; omega
end Go.Proofs.Ytdfglpbappeoaaa
