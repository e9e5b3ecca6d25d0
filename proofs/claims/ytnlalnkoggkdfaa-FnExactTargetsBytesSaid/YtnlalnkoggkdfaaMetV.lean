/- The bytes of targets, on the specification's side. -/
import Derived.Test.YtnlalnkoggkdfaaMetU
namespace Go.Proofs.Ytnlalnkoggkdfaa
open Go.RowKit
set_option linter.unusedVariables false

def putTg (t : ByteArray) (x : TarV) : ByteArray := ((t ++ putT x.nm) ++ x.im) ++ putS x.sz
def putTgs (t : ByteArray) (l : List TarV) : ByteArray := l.foldl putTg t
def targetsT (v e : Int) (l : List TarV) : ByteArray := putTgs (((⟨#[84]⟩ ++ putS v) ++ putS e) ++ putS (l.length : Int)) l
def targetsBy (v e : Int) (l : List TarV) : ByteArray := if targetsB v e l then targetsT v e l else ⟨#[]⟩
theorem putTgs_step {t : ByteArray} {l : List TarV} {i : Nat} (h : i < l.length) : putTgs t (l.drop i) = putTgs (putTg t l[i]) (l.drop (i + 1)) := by
  rw [List.drop_eq_getElem_cons h]; rfl
theorem putTgs_end {t : ByteArray} {l : List TarV} : putTgs t (l.drop l.length) = t := by rw [List.drop_of_length_le (Nat.le_refl _)]; rfl
theorem putT_size' (t : ByteArray) : (putT t).size ≤ 20010 := by
  by_cases h : t.size ≤ 20000
  · exact putT_size h
  · unfold putT
    rw [if_pos (by omega)]
    exact Nat.zero_le _
theorem targetsB_of {v e : Int} {l : List TarV} (h : targetsB v e l = true) : l.length ≤ 20 ∧ ∀ k (hk : k < l.length), l[k].im.size = 32 := by
  unfold targetsB at h
  rw [Bool.and_eq_true, Bool.and_eq_true, Bool.and_eq_true, decide_eq_true_eq, tarsOk_iff] at h
  refine ⟨h.2.2.1, fun k hk => ?_⟩
  obtain ⟨_, h1, _⟩ := h.2.2.2 k hk
  unfold TarV.ok at h1
  rw [Bool.and_eq_true, decide_eq_true_eq] at h1
  exact h1.2.1
theorem KpTg.three {w w' : World} {g : Nat} {v e : Int} {a : Option Addr} {n c : Nat} {l : List TarV} (h : Hid (KpTg w g v e a n c l w')) : w'.cell? ⟨g, 0, none⟩ = some (.int .i64 v) ∧ w'.cell? ⟨g, 1, none⟩ = some (.int .i64 e) ∧ w'.cell? ⟨g, 2, none⟩ = some (.slice a n c) ∧ Hid (KpTg w g v e a n c l w') := ⟨h.out.row.rt3.1, h.out.row.rt3.2.1, h.out.row.rt3.2.2, h⟩
theorem KpTg.tgt {w w' : World} {g b o i : Nat} {v e : Int} {n c : Nat} {l : List TarV} {z0 z1 : ByteArray} {z2 : Int} (hr : Hid (True → ∃ h : i < l.length, l[i].nm = z0 ∧ l[i].im = z1 ∧ l[i].sz = z2)) (h : Hid (KpTg w g v e (some ⟨b, o, none⟩) n c l w')) :
    w'.cell? ⟨g, 2, none⟩ = some (.slice (some ⟨b, o, none⟩) n c) ∧ w'.cell? ⟨b, o + i * 3, none⟩ = some (.string z0) ∧ w'.cell? ⟨b, o + i * 3 + 1, none⟩ = some (.string z1) ∧ w'.cell? ⟨b, o + i * 3 + 2, none⟩ = some (.int .i64 z2) ∧ Hid (KpTg w g v e (some ⟨b, o, none⟩) n c l w') := by
  obtain ⟨hi, rfl, rfl, rfl⟩ := hr.out trivial
  obtain ⟨b', o', h1, h2, h3, h4⟩ := h.out.tg i hi
  injection h1 with h1
  injection h1 with e1 e2
  subst e1 e2
  exact ⟨h.out.row.rt3.2.2, h2, h3, h4, h⟩
set_option maxRecDepth 100000 in
set_option maxHeartbeats 4000000 in
theorem specTargetsB (v e : Int) (a : Option Addr) (c n : Nat) (l : List TarV) (w : World) (hn : l.length = n) (h : TgsAt w a l) (hnm : n ≤ maxLen) (hw : ∀ x ∈ l, x.w) (hv : I64 v) (he : I64 e) :
    Calls Try.prog 26 #[.agg #[.int .i64 v, .int .i64 e, .slice a n c]] w fun r w' => r = .returned (.string (targetsBy v e l)) ∧ Below w.heap.size w w' := by
  have HN : Hid (l.length = n) := hn
  have HA : Hid (TgsAt w a l) := h
  have HW : Hid (∀ x ∈ l, x.w) := hw
  have hR : ∀ w0, Hid (KpTg w w.heap.size v e a n c l w0) → Calls Try.prog 22 #[.agg #[.int .i64 v, .int .i64 e, .slice a n c]] w0 fun r w' => r = .returned (.bool (targetsB v e l)) ∧ Below w0.heap.size w0 w' := fun w0 h0 => specTargetsR v e a c n l w0 hn h0.out.tg hnm hw
  have HR : Hid (targetsBy v e l = if targetsB v e l then targetsT v e l else ⟨#[]⟩) := rfl
  unfold maxLen at hnm
  obtain ⟨R, hRR⟩ : ∃ R, targetsBy v e l = R := ⟨_, rfl⟩
  rw [hRR] at HR ⊢
  clear h hn hw hRR
  cases hb : targetsB v e l with
  | false =>
    have HF : Hid (R = ⟨#[]⟩) := by show _ = _; rw [HR.out, hb]; rfl
    rw [hb] at hR
    clear HR hb
    go_enter Try.func26, Try.ntmps26
    go_wp2_with (first
      | (with_reducible refine wpList_boxV (w := w) (by with_unfolding_all rfl) 41 (.tmp 0) (by with_unfolding_all rfl) (rtv v e a n c) (by with_unfolding_all rfl) ?_; intro w1 hA1 hB1 hS1; obtain ⟨p0, p1, p2⟩ := hA1.rt3; clear hS1)
      | (go_at_call 22; refine (hR w1 (KpTg.start HA hB1 hA1)).mono ?_; rintro r w2 ⟨rfl, hB2⟩))
    go_ret
    exact ⟨by rw [HF.out]; rfl, hB1.trans (hB2.mono hB1.size)⟩
  | true =>
  obtain ⟨hn20, him⟩ := targetsB_of hb
  rw [HN.out] at hn20
  have HI : Hid (∀ k (hk : k < l.length), l[k].im.size = 32) := him
  have HF : Hid (R = putTgs (((⟨#[84]⟩ ++ putS v) ++ putS e) ++ putS (n : Int)) (l.drop 0)) := by show _ = _; rw [HR.out, hb, ← HN.out]; rfl
  rw [hb] at hR
  have hP0 : ∀ w0, Calls Try.prog 65 #[.int .i64 v] w0 fun r w' => r = .returned (.string (putS v)) ∧ Below w0.heap.size w0 w' := fun w0 => specPut v w0 hv
  have hP1 : ∀ w0, Calls Try.prog 65 #[.int .i64 e] w0 fun r w' => r = .returned (.string (putS e)) ∧ Below w0.heap.size w0 w' := fun w0 => specPut e w0 he
  have hP2 : ∀ w0, Calls Try.prog 65 #[.int .i64 (n : Int)] w0 fun r w' => r = .returned (.string (putS (n : Int))) ∧ Below w0.heap.size w0 w' := fun w0 => specPut (n : Int) w0 (i64_len (by omega))
  have hz1 := putS_size v
  have hz2 := putS_size e
  have hz3 := putS_size (n : Int)
  obtain ⟨X, hX⟩ : ∃ X, (⟨#[84]⟩ : ByteArray) ++ putS v = X := ⟨_, rfl⟩
  have hXs : X.size ≤ 11 := by rw [← hX, ByteArray.size_append]; show 1 + _ ≤ _; omega
  obtain ⟨X2, hX2⟩ : ∃ X2, X ++ putS e = X2 := ⟨_, rfl⟩
  have hX2s : X2.size ≤ 21 := by rw [← hX2, ByteArray.size_append]; omega
  obtain ⟨Y, hY⟩ : ∃ Y, X2 ++ putS (n : Int) = Y := ⟨_, rfl⟩
  have hYs : Y.size ≤ 31 := by rw [← hY, ByteArray.size_append]; omega
  rw [hX, hX2, hY] at HF
  generalize putS v = pv at *
  generalize putS e = pe at *
  generalize putS (n : Int) = pn at *
  have y1 : ¬ 9223372036854775807 < 1 + pv.size := by omega
  have y2 : ¬ 9223372036854775807 < X.size + pe.size := by omega
  have y3 : ¬ 9223372036854775807 < X2.size + pn.size := by omega
  clear HR hb him
  go_enter Try.func26, Try.ntmps26
  go_wp2_with (first
    | (with_reducible refine wpList_boxV (w := w) (by with_unfolding_all rfl) 41 (.tmp 0) (by with_unfolding_all rfl) (rtv v e a n c) (by with_unfolding_all rfl) ?_; intro w1 hA1 hB1 hS1; obtain ⟨p0, p1, p2⟩ := hA1.rt3; clear hS1)
    | (go_at_call 22; refine (hR w1 (KpTg.start HA hB1 hA1)).mono ?_; rintro r w2 ⟨rfl, hB2⟩; have HS2 := KpTg.call (KpTg.start HA hB1 hA1) hB2))
  have HS := KpTg.drew HS2
  clear HS2 p0 p1 p2 hA1 hB1 hB2 hR HA
  go_region_held3 (fun w' => w'.cell? ⟨w.heap.size, 0, none⟩ = some (.int .i64 v) ∧ w'.cell? ⟨w.heap.size, 1, none⟩ = some (.int .i64 e) ∧ w'.cell? ⟨w.heap.size, 2, none⟩ = some (.slice a n c) ∧ Hid (KpTg w w.heap.size v e a n c l w'))
    (first | exact KpTg.three HS | exact KpTg.three (KpTg.call HS h6) | exact KpTg.three (KpTg.call (KpTg.call HS h6) h7) | exact KpTg.three (KpTg.call (KpTg.call (KpTg.call HS h6) h7) h8))
    (first
      | (go_at_call 65; with_reducible refine (hP0 _).mono ?_; rintro r w6 ⟨rfl, h6⟩)
      | (go_at_call 65; with_reducible refine (hP1 _).mono ?_; rintro r w7 ⟨rfl, h7⟩)
      | (go_at_call 65; with_reducible refine (hP2 _).mono ?_; rintro r w8 ⟨rfl, h8⟩))
  all_goals
    have HS7 := KpTg.call (KpTg.call (KpTg.call HS h6) h7) h8
    clear HS h6 h7 h8 hP0 hP1 hP2 y1 y2 y3 hXs hX2s hz1 hz2 hz3 hX hX2 hY
    go_wp2_with fail
    go_loopw [3, 4] (fun vt vi wr => ∃ (i : Nat) (T : ByteArray), vi = .int .i64 (i : Int) ∧ vt = .string T ∧ i ≤ n ∧ T.size ≤ 31 + 20060 * i ∧ Hid (R = putTgs T (l.drop i)) ∧ Hid (KpTg w w.heap.size v e a n c l wr)) (fun _ vi _ => n - (intOf vi).toNat)
    case atStart => exact ⟨0, Y, rfl, rfl, Nat.zero_le _, by omega, HF, HS7⟩
    case round =>
    clear HF HS7 hYs
    obtain ⟨i, T, rfl, rfl, hi, hTs, HT, HS⟩ := hrel
    obtain ⟨p0, p1, p2⟩ := HS.out.row.rt3
    by_cases hlt : i < n
    case neg =>
      obtain rfl : i = n := by omega
      have HE : Hid (R = T) := by
        show _ = _
        have := HT.out
        rw [← HN.out, putTgs_end] at this
        exact this
      go_wp2
      go_ret
      exact ⟨by rw [HE.out]; rfl, HS.out.below⟩
    have hil : i < l.length := by have := HN.out; omega
    obtain ⟨b, o, rfl, hc0, hc1, hc2⟩ := HS.out.tg i hil
    obtain ⟨x1, x2, x3⟩ := HW.out l[i] (List.getElem_mem hil)
    have x4 := HI.out i hil
    have HT2 : Hid (R = putTgs (((T ++ putT l[i].nm) ++ l[i].im) ++ putS l[i].sz) (l.drop (i + 1))) := by show _ = _; rw [HT.out, putTgs_step hil]; rfl
    obtain ⟨z0, hz0⟩ : ∃ z, l[i].nm = z := ⟨_, rfl⟩
    obtain ⟨z1, hz1⟩ : ∃ z, l[i].im = z := ⟨_, rfl⟩
    obtain ⟨z2, hz2⟩ : ∃ z, l[i].sz = z := ⟨_, rfl⟩
    have HRl : Hid (True → ∃ h : i < l.length, l[i].nm = z0 ∧ l[i].im = z1 ∧ l[i].sz = z2) := fun _ => ⟨hil, hz0, hz1, hz2⟩
    rw [hz0] at x1
    rw [hz1] at x4
    rw [hz2] at x3
    rw [hz0, hz1, hz2] at HT2
    clear hz0 hz1 hz2 hc0 hc1 hc2 p0 p1 p2 HT x2
    have hP0 : ∀ w0, Calls Try.prog 72 #[.string z0] w0 fun r w' => r = .returned (.string (putT z0)) ∧ Below w0.heap.size w0 w' := fun w0 => specPutT z0 w0 x1
    have hP2 : ∀ w0, Calls Try.prog 65 #[.int .i64 z2] w0 fun r w' => r = .returned (.string (putS z2)) ∧ Below w0.heap.size w0 w' := fun w0 => specPut z2 w0 x3
    have s0 := putT_size' z0
    have s2 := putS_size z2
    generalize putT z0 = q0 at *
    generalize putS z2 = q2 at *
    obtain ⟨T1, hT1⟩ : ∃ T1, T ++ q0 = T1 := ⟨_, rfl⟩
    have t1s : T1.size ≤ 20041 + 20060 * i := by rw [← hT1, ByteArray.size_append]; omega
    obtain ⟨T2, hT2⟩ : ∃ T2, T1 ++ z1 = T2 := ⟨_, rfl⟩
    have t2s : T2.size ≤ 20073 + 20060 * i := by rw [← hT2, ByteArray.size_append]; omega
    obtain ⟨T3, hT3⟩ : ∃ T3, T2 ++ q2 = T3 := ⟨_, rfl⟩
    have t3s : T3.size ≤ 31 + 20060 * (i + 1) := by rw [← hT3, ByteArray.size_append]; omega
    rw [hT1, hT2, hT3] at HT2
    have y1 : ¬ 9223372036854775807 < T.size + q0.size := by omega
    have y2 : ¬ 9223372036854775807 < T1.size + z1.size := by omega
    have y3 : ¬ 9223372036854775807 < T2.size + q2.size := by omega
    have li : (i : Int) < n := by omega
    have l0 : (0 : Int) ≤ i := by omega
    have HSd := KpTg.drew HS
    have p1 := HS.out.row.rt3.2.2
    clear HS x1 x3 x4 hil
    go_wp2_with fail
    go_region_held3 (fun w' => w'.cell? ⟨w.heap.size, 2, none⟩ = some (.slice (some ⟨b, o, none⟩) n c) ∧ w'.cell? ⟨b, o + i * 3, none⟩ = some (.string z0) ∧ w'.cell? ⟨b, o + i * 3 + 1, none⟩ = some (.string z1) ∧ w'.cell? ⟨b, o + i * 3 + 2, none⟩ = some (.int .i64 z2) ∧ Hid (KpTg w w.heap.size v e (some ⟨b, o, none⟩) n c l w'))
      (first | exact KpTg.tgt HRl HSd | exact KpTg.tgt HRl (KpTg.call HSd h8) | exact KpTg.tgt HRl (KpTg.call (KpTg.call HSd h8) h9))
      (first
        | (go_at_call 72; with_reducible refine (hP0 _).mono ?_; rintro r w8 ⟨rfl, h8⟩)
        | (go_at_call 65; with_reducible refine (hP2 _).mono ?_; rintro r w9 ⟨rfl, h9⟩))
    all_goals
      have HS9 := KpTg.call (KpTg.call HSd h8) h9
      go_wp2_with fail
      go_roundw
      case rel => exact ⟨i + 1, T3, by go_num, rfl, by omega, by omega, HT2, HS9⟩
      case measure => simp [intOf]; omega
end Go.Proofs.Ytnlalnkoggkdfaa
