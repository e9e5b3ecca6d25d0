/- The bytes of what is signed, on the specification's side. -/
import Derived.Test.YtdfglpbappeoaaaMetS
namespace Go.Proofs.Ytdfglpbappeoaaa
open Go.RowKit
set_option linter.unusedVariables false

def putSg (t : ByteArray) (x : SigV) : ByteArray := ((t ++ putS x.k) ++ putS x.e) ++ putS x.s
def putSgs (t : ByteArray) (l : List SigV) : ByteArray := l.foldl putSg t
def signedT (t : ByteArray) (l : List SigV) : ByteArray := putSgs ((⟨#[83]⟩ ++ putT t) ++ putS (l.length : Int)) l
def signedBy (t : ByteArray) (l : List SigV) : ByteArray := if signedB t l then signedT t l else ⟨#[]⟩
theorem putSgs_step {t : ByteArray} {l : List SigV} {i : Nat} (h : i < l.length) : putSgs t (l.drop i) = putSgs (putSg t l[i]) (l.drop (i + 1)) := by
  rw [List.drop_eq_getElem_cons h]; rfl
theorem putSgs_end {t : ByteArray} {l : List SigV} : putSgs t (l.drop l.length) = t := by rw [List.drop_of_length_le (Nat.le_refl _)]; rfl
theorem putT_size {t : ByteArray} (h : t.size ≤ 20000) : (putT t).size ≤ 20010 := by
  unfold putT
  rw [if_neg (by omega), ByteArray.size_append]
  have := putS_size (t.size : Int)
  omega
theorem signedB_of {t : ByteArray} {l : List SigV} (h : signedB t l = true) : t.size ≤ 8000 ∧ l.length ≤ 16 := by
  unfold signedB at h
  rw [Bool.and_eq_true, decide_eq_true_eq] at h
  exact h.1
theorem KpSg.sig {w w' : World} {g b o i : Nat} {t : ByteArray} {n c : Nat} {l : List SigV} {z0 z1 z2 : Int} (hr : Hid (∃ h : i < l.length, l[i].k = z0 ∧ l[i].e = z1 ∧ l[i].s = z2)) (h : Hid (KpSg w g t (some ⟨b, o, none⟩) n c l w')) :
    w'.cell? ⟨g, 1, none⟩ = some (.slice (some ⟨b, o, none⟩) n c) ∧ w'.cell? ⟨b, o + i * 3, none⟩ = some (.int .i64 z0) ∧ w'.cell? ⟨b, o + i * 3 + 1, none⟩ = some (.int .i64 z1) ∧ w'.cell? ⟨b, o + i * 3 + 2, none⟩ = some (.int .i64 z2) ∧ Hid (KpSg w g t (some ⟨b, o, none⟩) n c l w') := by
  obtain ⟨hi, rfl, rfl, rfl⟩ := hr.out
  obtain ⟨b', o', h1, h2, h3, h4⟩ := h.out.sg i hi
  injection h1 with h1
  injection h1 with e1 e2
  subst e1 e2
  exact ⟨h.out.row.sg.2, h2, h3, h4, h⟩
set_option maxRecDepth 100000 in
set_option maxHeartbeats 4000000 in
theorem specSignedB (t : ByteArray) (a : Option Addr) (c n : Nat) (l : List SigV) (w : World) (hn : l.length = n) (h : SgsAt w a l) (hnm : n ≤ maxLen) (hts : t.size ≤ maxLen) (hw : ∀ x ∈ l, x.w) :
    Calls Try.prog 38 #[.agg #[.string t, .slice a n c]] w fun r w' => r = .returned (.string (signedBy t l)) ∧ Below w.heap.size w w' := by
  have HN : Hid (l.length = n) := hn
  have HA : Hid (SgsAt w a l) := h
  have HW : Hid (∀ x ∈ l, x.w) := hw
  have hR : ∀ w0, Hid (KpSg w w.heap.size t a n c l w0) → Calls Try.prog 89 #[.agg #[.string t, .slice a n c]] w0 fun r w' => r = .returned (.bool (signedB t l)) ∧ Below w0.heap.size w0 w' := fun w0 h0 => specSigned t a c n l w0 hn h0.out.sg hnm hts hw
  have HR : Hid (signedBy t l = if signedB t l then signedT t l else ⟨#[]⟩) := rfl
  have hPt : ∀ w0, Calls Try.prog 78 #[.string t] w0 fun r w' => r = .returned (.string (putT t)) ∧ Below w0.heap.size w0 w' := fun w0 => specPutT t w0 hts
  unfold maxLen at hnm hts
  obtain ⟨R, hRR⟩ : ∃ R, signedBy t l = R := ⟨_, rfl⟩
  rw [hRR] at HR ⊢
  clear h hn hw hRR
  cases hb : signedB t l with
  | false =>
    have HF : Hid (R = ⟨#[]⟩) := by show _ = _; rw [HR.out, hb]; rfl
    rw [hb] at hR
    clear HR hb hPt
    go_enter Try.func38, Try.ntmps38
    go_wp2_with (first
      | (with_reducible refine wpList_boxV (w := w) (by with_unfolding_all rfl) 67 (.tmp 0) (by with_unfolding_all rfl) (sgv t a n c) (by with_unfolding_all rfl) ?_; intro w1 hA1 hB1 hS1; obtain ⟨p0, p1⟩ := hA1.sg; clear hS1)
      | (go_at_call 89; refine (hR w1 (KpSg.start HA hB1 hA1)).mono ?_; rintro r w2 ⟨rfl, hB2⟩))
    go_ret
    exact ⟨by rw [HF.out]; rfl, hB1.trans (hB2.mono hB1.size)⟩
  | true =>
  obtain ⟨ht8, hn16⟩ := signedB_of hb
  rw [HN.out] at hn16
  have HF : Hid (R = putSgs ((⟨#[83]⟩ ++ putT t) ++ putS (n : Int)) (l.drop 0)) := by show _ = _; rw [HR.out, hb, ← HN.out]; rfl
  rw [hb] at hR
  have hPn : ∀ w0, Calls Try.prog 70 #[.int .i64 (n : Int)] w0 fun r w' => r = .returned (.string (putS (n : Int))) ∧ Below w0.heap.size w0 w' := fun w0 => specPut (n : Int) w0 (i64_len (by omega))
  have hz1 := putT_size (t := t) (by omega)
  have hz2 := putS_size (n : Int)
  obtain ⟨X, hX⟩ : ∃ X, (⟨#[83]⟩ : ByteArray) ++ putT t = X := ⟨_, rfl⟩
  have hXs : X.size ≤ 20011 := by rw [← hX, ByteArray.size_append]; show 1 + _ ≤ _; omega
  obtain ⟨Y, hY⟩ : ∃ Y, X ++ putS (n : Int) = Y := ⟨_, rfl⟩
  have hYs : Y.size ≤ 20021 := by rw [← hY, ByteArray.size_append]; omega
  rw [hX, hY] at HF
  generalize putT t = pt at *
  generalize putS (n : Int) = pn at *
  have y1 : ¬ 9223372036854775807 < 1 + pt.size := by omega
  have y2 : ¬ 9223372036854775807 < X.size + pn.size := by omega
  clear HR hb
  go_enter Try.func38, Try.ntmps38
  go_wp2_with (first
    | (with_reducible refine wpList_boxV (w := w) (by with_unfolding_all rfl) 67 (.tmp 0) (by with_unfolding_all rfl) (sgv t a n c) (by with_unfolding_all rfl) ?_; intro w1 hA1 hB1 hS1; obtain ⟨p0, p1⟩ := hA1.sg; clear hS1)
    | (go_at_call 89; refine (hR w1 (KpSg.start HA hB1 hA1)).mono ?_; rintro r w2 ⟨rfl, hB2⟩; have HS2 := KpSg.call (KpSg.start HA hB1 hA1) hB2))
  have HS := KpSg.drew HS2
  clear HS2 p0 p1 hA1 hB1 hB2 hR HA
  go_region_held3 (fun w' => w'.cell? ⟨w.heap.size, 0, none⟩ = some (.string t) ∧ w'.cell? ⟨w.heap.size, 1, none⟩ = some (.slice a n c) ∧ Hid (KpSg w w.heap.size t a n c l w'))
    (first | exact KpSg.two HS | exact KpSg.two (KpSg.call HS h6) | exact KpSg.two (KpSg.call (KpSg.call HS h6) h7))
    (first
      | (go_at_call 78; with_reducible refine (hPt _).mono ?_; rintro r w6 ⟨rfl, h6⟩)
      | (go_at_call 70; with_reducible refine (hPn _).mono ?_; rintro r w7 ⟨rfl, h7⟩))
  all_goals
    have HS7 := KpSg.call (KpSg.call HS h6) h7
    clear HS h6 h7 hPt hPn y1 y2 hXs hz1 hz2 hX hY
    go_wp2_with fail
    go_loopw [3, 4] (fun vt vi wr => ∃ (i : Nat) (T : ByteArray), vi = .int .i64 (i : Int) ∧ vt = .string T ∧ i ≤ n ∧ T.size ≤ 20021 + 30 * i ∧ Hid (R = putSgs T (l.drop i)) ∧ Hid (KpSg w w.heap.size t a n c l wr)) (fun _ vi _ => n - (intOf vi).toNat)
    case atStart => exact ⟨0, Y, rfl, rfl, Nat.zero_le _, by omega, HF, HS7⟩
    case round =>
    clear HF HS7 hYs
    obtain ⟨i, T, rfl, rfl, hi, hTs, HT, HS⟩ := hrel
    obtain ⟨p0, p1⟩ := HS.out.row.sg
    by_cases hlt : i < n
    case neg =>
      obtain rfl : i = n := by omega
      have HE : Hid (R = T) := by
        show _ = _
        have := HT.out
        rw [← HN.out, putSgs_end] at this
        exact this
      go_wp2
      go_ret
      exact ⟨by rw [HE.out]; rfl, HS.out.below⟩
    have hil : i < l.length := by have := HN.out; omega
    obtain ⟨b, o, rfl, hc0, hc1, hc2⟩ := HS.out.sg i hil
    obtain ⟨x1, x2, x3⟩ := HW.out l[i] (List.getElem_mem hil)
    have HT2 : Hid (R = putSgs (((T ++ putS l[i].k) ++ putS l[i].e) ++ putS l[i].s) (l.drop (i + 1))) := by show _ = _; rw [HT.out, putSgs_step hil]; rfl
    obtain ⟨z0, hz0⟩ : ∃ z, l[i].k = z := ⟨_, rfl⟩
    obtain ⟨z1, hz1⟩ : ∃ z, l[i].e = z := ⟨_, rfl⟩
    obtain ⟨z2, hz2⟩ : ∃ z, l[i].s = z := ⟨_, rfl⟩
    have HRl : Hid (∃ h : i < l.length, l[i].k = z0 ∧ l[i].e = z1 ∧ l[i].s = z2) := ⟨hil, hz0, hz1, hz2⟩
    rw [hz0] at x1
    rw [hz1] at x2
    rw [hz2] at x3
    rw [hz0, hz1, hz2] at HT2
    clear hz0 hz1 hz2 hc0 hc1 hc2 p0 p1 HT
    have hP0 : ∀ w0, Calls Try.prog 70 #[.int .i64 z0] w0 fun r w' => r = .returned (.string (putS z0)) ∧ Below w0.heap.size w0 w' := fun w0 => specPut z0 w0 x1
    have hP1 : ∀ w0, Calls Try.prog 70 #[.int .i64 z1] w0 fun r w' => r = .returned (.string (putS z1)) ∧ Below w0.heap.size w0 w' := fun w0 => specPut z1 w0 x2
    have hP2 : ∀ w0, Calls Try.prog 70 #[.int .i64 z2] w0 fun r w' => r = .returned (.string (putS z2)) ∧ Below w0.heap.size w0 w' := fun w0 => specPut z2 w0 x3
    have s0 := putS_size z0
    have s1 := putS_size z1
    have s2 := putS_size z2
    generalize putS z0 = q0 at *
    generalize putS z1 = q1 at *
    generalize putS z2 = q2 at *
    obtain ⟨T1, hT1⟩ : ∃ T1, T ++ q0 = T1 := ⟨_, rfl⟩
    have t1s : T1.size ≤ 20031 + 30 * i := by rw [← hT1, ByteArray.size_append]; omega
    obtain ⟨T2, hT2⟩ : ∃ T2, T1 ++ q1 = T2 := ⟨_, rfl⟩
    have t2s : T2.size ≤ 20041 + 30 * i := by rw [← hT2, ByteArray.size_append]; omega
    obtain ⟨T3, hT3⟩ : ∃ T3, T2 ++ q2 = T3 := ⟨_, rfl⟩
    have t3s : T3.size ≤ 20051 + 30 * i := by rw [← hT3, ByteArray.size_append]; omega
    rw [hT1, hT2, hT3] at HT2
    have y1 : ¬ 9223372036854775807 < T.size + q0.size := by omega
    have y2 : ¬ 9223372036854775807 < T1.size + q1.size := by omega
    have y3 : ¬ 9223372036854775807 < T2.size + q2.size := by omega
    have li : (i : Int) < n := by omega
    have l0 : (0 : Int) ≤ i := by omega
    have HSd := KpSg.drew HS
    have p1 := HS.out.row.sg.2
    clear HS x1 x2 x3 hil
    go_wp2_with fail
    go_region_held3 (fun w' => w'.cell? ⟨w.heap.size, 1, none⟩ = some (.slice (some ⟨b, o, none⟩) n c) ∧ w'.cell? ⟨b, o + i * 3, none⟩ = some (.int .i64 z0) ∧ w'.cell? ⟨b, o + i * 3 + 1, none⟩ = some (.int .i64 z1) ∧ w'.cell? ⟨b, o + i * 3 + 2, none⟩ = some (.int .i64 z2) ∧ Hid (KpSg w w.heap.size t (some ⟨b, o, none⟩) n c l w'))
      (first | exact KpSg.sig HRl HSd | exact KpSg.sig HRl (KpSg.call HSd h8) | exact KpSg.sig HRl (KpSg.call (KpSg.call HSd h8) h9) | exact KpSg.sig HRl (KpSg.call (KpSg.call (KpSg.call HSd h8) h9) h10))
      (first
        | (go_at_call 70; with_reducible refine (hP0 _).mono ?_; rintro r w8 ⟨rfl, h8⟩)
        | (go_at_call 70; with_reducible refine (hP1 _).mono ?_; rintro r w9 ⟨rfl, h9⟩)
        | (go_at_call 70; with_reducible refine (hP2 _).mono ?_; rintro r w10 ⟨rfl, h10⟩))
    all_goals
      have HS9 := KpSg.call (KpSg.call (KpSg.call HSd h8) h9) h10
      go_wp2_with fail
      go_roundw
      case rel => exact ⟨i + 1, T3, by go_num, rfl, by omega, by omega, HT2, HS9⟩
      case measure => simp [intOf]; omega
end Go.Proofs.Ytdfglpbappeoaaa
