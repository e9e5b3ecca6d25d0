/- What is signed, on the specification's side: its signatures lie in a row of three cells each. The bytes of what is signed, on the specification's side. -/
import Derived.Test.YtdfglpbappeoaaaMetB
import Derived.Test.YtdfglpbappeoaaaSigR
namespace Go.Proofs.Ytdfglpbappeoaaa
open Go.RowKit
set_option linter.unusedVariables false

structure SigV where
  k : Int
  e : Int
  s : Int
def SigV.ok (x : SigV) : Bool := sigB x.k x.e x.s
def SigV.w (x : SigV) : Prop := I64 x.k ∧ I64 x.e ∧ I64 x.s
def SgsAt (w : World) (a : Option Addr) (l : List SigV) : Prop := ∀ i (h : i < l.length), ∃ b o, a = some ⟨b, o, none⟩ ∧ w.cell? ⟨b, o + i * 3, none⟩ = some (.int .i64 l[i].k) ∧ w.cell? ⟨b, o + i * 3 + 1, none⟩ = some (.int .i64 l[i].e) ∧ w.cell? ⟨b, o + i * 3 + 2, none⟩ = some (.int .i64 l[i].s)
theorem SgsAt.below {w w' : World} {a : Option Addr} {l : List SigV} (h : SgsAt w a l) (hb : Below w.heap.size w w') : SgsAt w' a l := fun i hi => by
  obtain ⟨b, o, h1, h2, h3, h4⟩ := h i hi
  exact ⟨b, o, h1, (hb.cell (p := ⟨b, o + i * 3, none⟩) (cellLt h2)).trans h2, (hb.cell (p := ⟨b, o + i * 3 + 1, none⟩) (cellLt h3)).trans h3, (hb.cell (p := ⟨b, o + i * 3 + 2, none⟩) (cellLt h4)).trans h4⟩
def signedB (t : ByteArray) (l : List SigV) : Bool := decide (t.size ≤ 8000 ∧ l.length ≤ 16) && l.all SigV.ok
theorem sigs_yes {l : List SigV} (h : ∀ k (hk : k < l.length), l[k].ok = true) : l.all SigV.ok = true := by
  rw [List.all_eq_true]
  intro x hx
  obtain ⟨k, hk, rfl⟩ := List.mem_iff_getElem.1 hx
  exact h k hk
theorem sigs_no {l : List SigV} {k : Nat} (hk : k < l.length) (h : l[k].ok = false) : l.all SigV.ok = false := by
  cases ho : l.all SigV.ok with
  | false => rfl
  | true =>
    rw [List.all_eq_true] at ho
    have := ho _ (List.getElem_mem hk)
    rw [h] at this
    cases this
def sgv (t : ByteArray) (a : Option Addr) (n c : Nat) : List Value := [.string t, .slice a n c]
theorem RowV.sg {w : World} {g : Nat} {t : ByteArray} {a : Option Addr} {n c : Nat} (h : RowV w g (sgv t a n c)) : w.cell? ⟨g, 0, none⟩ = some (.string t) ∧ w.cell? ⟨g, 1, none⟩ = some (.slice a n c) := ⟨h.cell (k := 0) rfl, h.cell (k := 1) rfl⟩
theorem sgv_ne (t : ByteArray) (a : Option Addr) (n c : Nat) : sgv t a n c ≠ [] := by simp [sgv]
structure KpSg (w : World) (g : Nat) (t : ByteArray) (a : Option Addr) (n c : Nat) (l : List SigV) (w' : World) : Prop where
  below : Below w.heap.size w w'
  row : RowV w' g (sgv t a n c)
  sg : SgsAt w' a l
theorem KpSg.start {w w' : World} {g : Nat} {t : ByteArray} {a : Option Addr} {n c : Nat} {l : List SigV} (h : Hid (SgsAt w a l)) (h1 : Below w.heap.size w w') (h2 : RowV w' g (sgv t a n c)) : Hid (KpSg w g t a n c l w') := ⟨h1, h2, h.out.below h1⟩
theorem KpSg.call {w w' w2 : World} {g : Nat} {t : ByteArray} {a : Option Addr} {n c : Nat} {l : List SigV} (h : Hid (KpSg w g t a n c l w')) (hb : Below w'.heap.size w' w2) : Hid (KpSg w g t a n c l w2) :=
  ⟨h.out.below.trans (hb.mono h.out.below.size), h.out.row.below hb (h.out.row.lt (sgv_ne _ _ _ _)), h.out.sg.below hb⟩
theorem KpSg.drew {w w' : World} {g : Nat} {t : ByteArray} {a : Option Addr} {n c : Nat} {l : List SigV} (h : Hid (KpSg w g t a n c l w')) : Hid (KpSg w g t a n c l w'.drew) := ⟨h.out.below.drew, h.out.row.drew, h.out.sg⟩
theorem KpSg.two {w w' : World} {g : Nat} {t : ByteArray} {a : Option Addr} {n c : Nat} {l : List SigV} (h : Hid (KpSg w g t a n c l w')) : w'.cell? ⟨g, 0, none⟩ = some (.string t) ∧ w'.cell? ⟨g, 1, none⟩ = some (.slice a n c) ∧ Hid (KpSg w g t a n c l w') := ⟨h.out.row.sg.1, h.out.row.sg.2, h⟩
set_option maxRecDepth 100000 in
set_option maxHeartbeats 2000000 in
theorem specSigned (t : ByteArray) (a : Option Addr) (c n : Nat) (l : List SigV) (w : World) (hn : l.length = n) (h : SgsAt w a l) (hnm : n ≤ maxLen) (hts : t.size ≤ maxLen) (hw : ∀ x ∈ l, x.w) :
    Calls Try.prog 89 #[.agg #[.string t, .slice a n c]] w fun r w' => r = .returned (.bool (signedB t l)) ∧ Below w.heap.size w w' := by
  unfold maxLen at hnm hts
  have HN : Hid (l.length = n) := hn
  have HA : Hid (SgsAt w a l) := h
  have HW : Hid (∀ x ∈ l, x.w) := hw
  have HR : Hid (¬ (t.size ≤ 8000 ∧ l.length ≤ 16) → signedB t l = false) := fun h => by unfold signedB; rw [decide_eq_false h]; rfl
  have HR2 : Hid ((t.size ≤ 8000 ∧ l.length ≤ 16) → signedB t l = l.all SigV.ok) := fun h => by unfold signedB; rw [decide_eq_true h]; rfl
  obtain ⟨R, hRR⟩ : ∃ R, signedB t l = R := ⟨_, rfl⟩
  rw [hRR] at HR HR2 ⊢
  clear h hn hw hRR
  by_cases c1 : 8000 < t.size
  · have d1 : decide ((8000 : Int) < (t.size : Int)) = true := decide_eq_true (by omega)
    have HF : Hid (R = false) := HR.out (by omega)
    go_enter Try.func89, Try.ntmps89
    go_wp2_with (first
      | (with_reducible refine wpList_boxV (w := w) (by with_unfolding_all rfl) 67 (.tmp 0) (by with_unfolding_all rfl) (sgv t a n c) (by with_unfolding_all rfl) ?_; intro w1 hA1 hB1 hS1; obtain ⟨p0, p1⟩ := hA1.sg; clear hS1))
    go_ret
    exact ⟨retY HF.out.symm, hB1⟩
  have d1 : decide ((8000 : Int) < (t.size : Int)) = false := decide_eq_false (by omega)
  by_cases c2 : 16 < n
  · have d2 : decide ((16 : Int) < (n : Int)) = true := decide_eq_true (by omega)
    have HF : Hid (R = false) := HR.out (by rw [HN.out]; omega)
    go_enter Try.func89, Try.ntmps89
    go_wp2_with (first
      | (with_reducible refine wpList_boxV (w := w) (by with_unfolding_all rfl) 67 (.tmp 0) (by with_unfolding_all rfl) (sgv t a n c) (by with_unfolding_all rfl) ?_; intro w1 hA1 hB1 hS1; obtain ⟨p0, p1⟩ := hA1.sg; clear hS1))
    go_ret
    exact ⟨retY HF.out.symm, hB1⟩
  have d2 : decide ((16 : Int) < (n : Int)) = false := decide_eq_false (by omega)
  have HK : Hid (R = l.all SigV.ok) := HR2.out (by rw [HN.out]; omega)
  clear HR HR2
  go_enter Try.func89, Try.ntmps89
  go_wp2_with (first
    | (with_reducible refine wpList_boxV (w := w) (by with_unfolding_all rfl) 67 (.tmp 0) (by with_unfolding_all rfl) (sgv t a n c) (by with_unfolding_all rfl) ?_; intro w1 hA1 hB1 hS1; obtain ⟨p0, p1⟩ := hA1.sg; clear hS1))
  have HS := KpSg.start HA hB1 hA1
  clear hA1 hB1 p0 p1 HA d1 d2
  go_loopw [3] (fun vi wr => ∃ k : Nat, vi = .int .i64 (k : Int) ∧ k ≤ n ∧ Hid (∀ j (hj : j < l.length), j < k → l[j].ok = true) ∧ Hid (KpSg w w.heap.size t a n c l wr)) (fun vi _ => n - (intOf vi).toNat)
  case atStart => exact ⟨0, rfl, Nat.zero_le _, fun j hj h0 => absurd h0 (Nat.not_lt_zero _), HS⟩
  case round =>
    clear HS
    obtain ⟨k, rfl, hk, HT, HS⟩ := hrel
    obtain ⟨p0, p1⟩ := HS.out.row.sg
    by_cases hlt : k < n
    case neg =>
      obtain rfl : k = n := by omega
      have HF : Hid (R = true) := by show _ = _; rw [HK.out]; exact sigs_yes (fun j hj => HT.out j hj (by have := HN.out; omega))
      go_wp2
      go_ret
      exact ⟨retY HF.out.symm, HS.out.below⟩
    have hkl : k < l.length := by have := HN.out; omega
    obtain ⟨b, o, rfl, hc0, hc1, hc2⟩ := HS.out.sg k hkl
    obtain ⟨x1, x2, x3⟩ := HW.out l[k] (List.getElem_mem hkl)
    have lk : (k : Int) < n := by omega
    have l0 : (0 : Int) ≤ k := by omega
    have HG : Hid (Calls Try.prog 129 #[SVal l[k].k l[k].e l[k].s] wr fun r w' => r = .returned (.bool l[k].ok) ∧ Below wr.heap.size wr w') := specSigR l[k].k l[k].e l[k].s wr x1
    have HYes : Hid (l[k].ok = true → ∀ j (hj : j < l.length), j < k + 1 → l[j].ok = true) := fun h j hj hjk => by
      by_cases hjk2 : j < k
      · exact HT.out j hj hjk2
      · obtain rfl : j = k := by omega
        exact h
    have HNo : Hid (l[k].ok = false → R = false) := fun h => by rw [HK.out]; exact sigs_no hkl h
    obtain ⟨ob, hob⟩ : ∃ ob, l[k].ok = ob := ⟨_, rfl⟩
    rw [hob] at HG HYes HNo
    generalize l[k].k = z0 at *
    generalize l[k].e = z1 at *
    generalize l[k].s = z2 at *
    clear hob x1 x2 x3 HT
    cases ob with
    | false =>
      as_aux_lemma =>
      have HF : Hid (R = false) := HNo.out rfl
      clear HYes HNo
      go_wp2_with (go_at_call 129; refine Calls.mono HG.out ?_; rintro r w5 ⟨rfl, hB5⟩; have HS5 := KpSg.call HS hB5)
      go_ret
      exact ⟨retY HF.out.symm, HS5.out.below⟩
    | true =>
      as_aux_lemma =>
      have HT2 : Hid (∀ j (hj : j < l.length), j < k + 1 → l[j].ok = true) := HYes.out rfl
      clear HYes HNo
      go_wp2_with (go_at_call 129; refine Calls.mono HG.out ?_; rintro r w5 ⟨rfl, hB5⟩; have HS5 := KpSg.call HS hB5)
      go_roundw
      case rel => exact ⟨k + 1, by go_num, by omega, HT2, HS5⟩
      case measure => simp [intOf]; omega
end Go.Proofs.Ytdfglpbappeoaaa
namespace Go.Proofs.Ytdfglpbappeoaaa
open Go.RowKit
set_option linter.unusedVariables false

def putSg (t : ByteArray) (x : SigV) : ByteArray := ((t ++ putS x.k) ++ putS x.e) ++ putS x.s
def putSgs (t : ByteArray) (l : List SigV) : ByteArray := l.foldl putSg t
def signedT (t : ByteArray) (l : List SigV) : ByteArray := putSgs ((⟨#[83]⟩ ++ putT t) ++ putS (l.length : Int)) l
def signedBy (t : ByteArray) (l : List SigV) : ByteArray := if signedB t l then signedT t l else ⟨#[]⟩
theorem putSgs_step {t : ByteArray} {l : List SigV} {i : Nat} (h : i < l.length) : putSgs t (l.drop i) = putSgs (putSg t l[i]) (l.drop (i + 1)) := by
  rw [List.drop_eq_getElem_cons h]; rfl
theorem putSgs_end {t : ByteArray} {l : List SigV} : putSgs t (l.drop l.length) = t := by rw [List.drop_of_length_le (Nat.le_refl _)]; rfl
theorem putT_size {t : ByteArray} (h : t.size ≤ 20000) : (putT t).size ≤ 20010 := by
  unfold putT
  rw [if_neg (by omega), ByteArray.size_append]
  have := putS_size (t.size : Int)
  omega
theorem signedB_of {t : ByteArray} {l : List SigV} (h : signedB t l = true) : t.size ≤ 8000 ∧ l.length ≤ 16 := by
  unfold signedB at h
  rw [Bool.and_eq_true, decide_eq_true_eq] at h
  exact h.1
theorem KpSg.sig {w w' : World} {g b o i : Nat} {t : ByteArray} {n c : Nat} {l : List SigV} {z0 z1 z2 : Int} (hr : Hid (∃ h : i < l.length, l[i].k = z0 ∧ l[i].e = z1 ∧ l[i].s = z2)) (h : Hid (KpSg w g t (some ⟨b, o, none⟩) n c l w')) :
    w'.cell? ⟨g, 1, none⟩ = some (.slice (some ⟨b, o, none⟩) n c) ∧ w'.cell? ⟨b, o + i * 3, none⟩ = some (.int .i64 z0) ∧ w'.cell? ⟨b, o + i * 3 + 1, none⟩ = some (.int .i64 z1) ∧ w'.cell? ⟨b, o + i * 3 + 2, none⟩ = some (.int .i64 z2) ∧ Hid (KpSg w g t (some ⟨b, o, none⟩) n c l w') := by
  obtain ⟨hi, rfl, rfl, rfl⟩ := hr.out
  obtain ⟨b', o', h1, h2, h3, h4⟩ := h.out.sg i hi
  injection h1 with h1
  injection h1 with e1 e2
  subst e1 e2
  exact ⟨h.out.row.sg.2, h2, h3, h4, h⟩
set_option maxRecDepth 100000 in
set_option maxHeartbeats 4000000 in
theorem specSignedB (t : ByteArray) (a : Option Addr) (c n : Nat) (l : List SigV) (w : World) (hn : l.length = n) (h : SgsAt w a l) (hnm : n ≤ maxLen) (hts : t.size ≤ maxLen) (hw : ∀ x ∈ l, x.w) :
    Calls Try.prog 38 #[.agg #[.string t, .slice a n c]] w fun r w' => r = .returned (.string (signedBy t l)) ∧ Below w.heap.size w w' := by
  have HN : Hid (l.length = n) := hn
  have HA : Hid (SgsAt w a l) := h
  have HW : Hid (∀ x ∈ l, x.w) := hw
  have hR : ∀ w0, Hid (KpSg w w.heap.size t a n c l w0) → Calls Try.prog 89 #[.agg #[.string t, .slice a n c]] w0 fun r w' => r = .returned (.bool (signedB t l)) ∧ Below w0.heap.size w0 w' := fun w0 h0 => specSigned t a c n l w0 hn h0.out.sg hnm hts hw
  have HR : Hid (signedBy t l = if signedB t l then signedT t l else ⟨#[]⟩) := rfl
  have hPt : ∀ w0, Calls Try.prog 78 #[.string t] w0 fun r w' => r = .returned (.string (putT t)) ∧ Below w0.heap.size w0 w' := fun w0 => specPutT t w0 hts
  unfold maxLen at hnm hts
  obtain ⟨R, hRR⟩ : ∃ R, signedBy t l = R := ⟨_, rfl⟩
  rw [hRR] at HR ⊢
  clear h hn hw hRR
  cases hb : signedB t l with
  | false =>
    have HF : Hid (R = ⟨#[]⟩) := by show _ = _; rw [HR.out, hb]; rfl
    rw [hb] at hR
    clear HR hb hPt
    go_enter Try.func38, Try.ntmps38
    go_wp2_with (first
      | (with_reducible refine wpList_boxV (w := w) (by with_unfolding_all rfl) 67 (.tmp 0) (by with_unfolding_all rfl) (sgv t a n c) (by with_unfolding_all rfl) ?_; intro w1 hA1 hB1 hS1; obtain ⟨p0, p1⟩ := hA1.sg; clear hS1)
      | (go_at_call 89; refine (hR w1 (KpSg.start HA hB1 hA1)).mono ?_; rintro r w2 ⟨rfl, hB2⟩))
    go_ret
    exact ⟨by rw [HF.out]; rfl, hB1.trans (hB2.mono hB1.size)⟩
  | true =>
  obtain ⟨ht8, hn16⟩ := signedB_of hb
  rw [HN.out] at hn16
  have HF : Hid (R = putSgs ((⟨#[83]⟩ ++ putT t) ++ putS (n : Int)) (l.drop 0)) := by show _ = _; rw [HR.out, hb, ← HN.out]; rfl
  rw [hb] at hR
  have hPn : ∀ w0, Calls Try.prog 70 #[.int .i64 (n : Int)] w0 fun r w' => r = .returned (.string (putS (n : Int))) ∧ Below w0.heap.size w0 w' := fun w0 => specPut (n : Int) w0 (i64_len (by omega))
  have hz1 := putT_size (t := t) (by omega)
  have hz2 := putS_size (n : Int)
  obtain ⟨X, hX⟩ : ∃ X, (⟨#[83]⟩ : ByteArray) ++ putT t = X := ⟨_, rfl⟩
  have hXs : X.size ≤ 20011 := by rw [← hX, ByteArray.size_append]; show 1 + _ ≤ _; omega
  obtain ⟨Y, hY⟩ : ∃ Y, X ++ putS (n : Int) = Y := ⟨_, rfl⟩
  have hYs : Y.size ≤ 20021 := by rw [← hY, ByteArray.size_append]; omega
  rw [hX, hY] at HF
  generalize putT t = pt at *
  generalize putS (n : Int) = pn at *
  have y1 : ¬ 9223372036854775807 < 1 + pt.size := by omega
  have y2 : ¬ 9223372036854775807 < X.size + pn.size := by omega
  clear HR hb
  go_enter Try.func38, Try.ntmps38
  go_wp2_with (first
    | (with_reducible refine wpList_boxV (w := w) (by with_unfolding_all rfl) 67 (.tmp 0) (by with_unfolding_all rfl) (sgv t a n c) (by with_unfolding_all rfl) ?_; intro w1 hA1 hB1 hS1; obtain ⟨p0, p1⟩ := hA1.sg; clear hS1)
    | (go_at_call 89; refine (hR w1 (KpSg.start HA hB1 hA1)).mono ?_; rintro r w2 ⟨rfl, hB2⟩; have HS2 := KpSg.call (KpSg.start HA hB1 hA1) hB2))
  have HS := KpSg.drew HS2
  clear HS2 p0 p1 hA1 hB1 hB2 hR HA
  go_region_held3 (fun w' => w'.cell? ⟨w.heap.size, 0, none⟩ = some (.string t) ∧ w'.cell? ⟨w.heap.size, 1, none⟩ = some (.slice a n c) ∧ Hid (KpSg w w.heap.size t a n c l w'))
    (first | exact KpSg.two HS | exact KpSg.two (KpSg.call HS h6) | exact KpSg.two (KpSg.call (KpSg.call HS h6) h7))
    (first
      | (go_at_call 78; with_reducible refine (hPt _).mono ?_; rintro r w6 ⟨rfl, h6⟩)
      | (go_at_call 70; with_reducible refine (hPn _).mono ?_; rintro r w7 ⟨rfl, h7⟩))
  all_goals
    have HS7 := KpSg.call (KpSg.call HS h6) h7
    clear HS h6 h7 hPt hPn y1 y2 hXs hz1 hz2 hX hY
    go_wp2_with fail
    go_loopw [3, 4] (fun vt vi wr => ∃ (i : Nat) (T : ByteArray), vi = .int .i64 (i : Int) ∧ vt = .string T ∧ i ≤ n ∧ T.size ≤ 20021 + 30 * i ∧ Hid (R = putSgs T (l.drop i)) ∧ Hid (KpSg w w.heap.size t a n c l wr)) (fun _ vi _ => n - (intOf vi).toNat)
    case atStart => exact ⟨0, Y, rfl, rfl, Nat.zero_le _, by omega, HF, HS7⟩
    case round =>
    clear HF HS7 hYs
    obtain ⟨i, T, rfl, rfl, hi, hTs, HT, HS⟩ := hrel
    obtain ⟨p0, p1⟩ := HS.out.row.sg
    by_cases hlt : i < n
    case neg =>
      obtain rfl : i = n := by omega
      have HE : Hid (R = T) := by
        show _ = _
        have := HT.out
        rw [← HN.out, putSgs_end] at this
        exact this
      go_wp2
      go_ret
      exact ⟨by rw [HE.out]; rfl, HS.out.below⟩
    have hil : i < l.length := by have := HN.out; omega
    obtain ⟨b, o, rfl, hc0, hc1, hc2⟩ := HS.out.sg i hil
    obtain ⟨x1, x2, x3⟩ := HW.out l[i] (List.getElem_mem hil)
    have HT2 : Hid (R = putSgs (((T ++ putS l[i].k) ++ putS l[i].e) ++ putS l[i].s) (l.drop (i + 1))) := by show _ = _; rw [HT.out, putSgs_step hil]; rfl
    obtain ⟨z0, hz0⟩ : ∃ z, l[i].k = z := ⟨_, rfl⟩
    obtain ⟨z1, hz1⟩ : ∃ z, l[i].e = z := ⟨_, rfl⟩
    obtain ⟨z2, hz2⟩ : ∃ z, l[i].s = z := ⟨_, rfl⟩
    have HRl : Hid (∃ h : i < l.length, l[i].k = z0 ∧ l[i].e = z1 ∧ l[i].s = z2) := ⟨hil, hz0, hz1, hz2⟩
    rw [hz0] at x1
    rw [hz1] at x2
    rw [hz2] at x3
    rw [hz0, hz1, hz2] at HT2
    clear hz0 hz1 hz2 hc0 hc1 hc2 p0 p1 HT
    have hP0 : ∀ w0, Calls Try.prog 70 #[.int .i64 z0] w0 fun r w' => r = .returned (.string (putS z0)) ∧ Below w0.heap.size w0 w' := fun w0 => specPut z0 w0 x1
    have hP1 : ∀ w0, Calls Try.prog 70 #[.int .i64 z1] w0 fun r w' => r = .returned (.string (putS z1)) ∧ Below w0.heap.size w0 w' := fun w0 => specPut z1 w0 x2
    have hP2 : ∀ w0, Calls Try.prog 70 #[.int .i64 z2] w0 fun r w' => r = .returned (.string (putS z2)) ∧ Below w0.heap.size w0 w' := fun w0 => specPut z2 w0 x3
    have s0 := putS_size z0
    have s1 := putS_size z1
    have s2 := putS_size z2
    generalize putS z0 = q0 at *
    generalize putS z1 = q1 at *
    generalize putS z2 = q2 at *
    obtain ⟨T1, hT1⟩ : ∃ T1, T ++ q0 = T1 := ⟨_, rfl⟩
    have t1s : T1.size ≤ 20031 + 30 * i := by rw [← hT1, ByteArray.size_append]; omega
    obtain ⟨T2, hT2⟩ : ∃ T2, T1 ++ q1 = T2 := ⟨_, rfl⟩
    have t2s : T2.size ≤ 20041 + 30 * i := by rw [← hT2, ByteArray.size_append]; omega
    obtain ⟨T3, hT3⟩ : ∃ T3, T2 ++ q2 = T3 := ⟨_, rfl⟩
    have t3s : T3.size ≤ 20051 + 30 * i := by rw [← hT3, ByteArray.size_append]; omega
    rw [hT1, hT2, hT3] at HT2
    have y1 : ¬ 9223372036854775807 < T.size + q0.size := by omega
    have y2 : ¬ 9223372036854775807 < T1.size + q1.size := by omega
    have y3 : ¬ 9223372036854775807 < T2.size + q2.size := by omega
    have li : (i : Int) < n := by omega
    have l0 : (0 : Int) ≤ i := by omega
    have HSd := KpSg.drew HS
    have p1 := HS.out.row.sg.2
    clear HS x1 x2 x3 hil
    go_wp2_with fail
    go_region_held3 (fun w' => w'.cell? ⟨w.heap.size, 1, none⟩ = some (.slice (some ⟨b, o, none⟩) n c) ∧ w'.cell? ⟨b, o + i * 3, none⟩ = some (.int .i64 z0) ∧ w'.cell? ⟨b, o + i * 3 + 1, none⟩ = some (.int .i64 z1) ∧ w'.cell? ⟨b, o + i * 3 + 2, none⟩ = some (.int .i64 z2) ∧ Hid (KpSg w w.heap.size t (some ⟨b, o, none⟩) n c l w'))
      (first | exact KpSg.sig HRl HSd | exact KpSg.sig HRl (KpSg.call HSd h8) | exact KpSg.sig HRl (KpSg.call (KpSg.call HSd h8) h9) | exact KpSg.sig HRl (KpSg.call (KpSg.call (KpSg.call HSd h8) h9) h10))
      (first
        | (go_at_call 70; with_reducible refine (hP0 _).mono ?_; rintro r w8 ⟨rfl, h8⟩)
        | (go_at_call 70; with_reducible refine (hP1 _).mono ?_; rintro r w9 ⟨rfl, h9⟩)
        | (go_at_call 70; with_reducible refine (hP2 _).mono ?_; rintro r w10 ⟨rfl, h10⟩))
    all_goals
      have HS9 := KpSg.call (KpSg.call (KpSg.call HSd h8) h9) h10
      go_wp2_with fail
      go_roundw
      case rel => exact ⟨i + 1, T3, by go_num, rfl, by omega, by omega, HT2, HS9⟩
      case measure => simp [intOf]; omega
end Go.Proofs.Ytdfglpbappeoaaa
