/- The bytes of a root, on the specification's side. -/
import Derived.Test.YtnlalnkoggkdfaaMetR
import Derived.Test.YtnlalnkoggkdfaaPutT
import Derived.Deep.RegionHeld3
namespace Go.Proofs.Ytnlalnkoggkdfaa
open Go.RowKit
set_option linter.unusedVariables false

def putKs (t : ByteArray) (ks : List Int) : ByteArray := ks.foldl (fun t k => t ++ putS k) t
def putRl (t : ByteArray) (r : RoleV) : ByteArray := putKs ((t ++ putS r.need) ++ putS (r.ks.length : Int)) r.ks
def putRls (t : ByteArray) (rs : List RoleV) : ByteArray := rs.foldl putRl t
def rootT (v e : Int) (rs : List RoleV) : ByteArray := putRls ((⟨#[82]⟩ ++ putS v) ++ putS e) rs
def rootBy (v e : Int) (rs : List RoleV) : ByteArray := if rootB v e rs then rootT v e rs else ⟨#[]⟩
theorem putKs_step {t : ByteArray} {ks : List Int} {j : Nat} (h : j < ks.length) : putKs t (ks.drop j) = putKs (t ++ putS ks[j]) (ks.drop (j + 1)) := by
  rw [List.drop_eq_getElem_cons h]; rfl
theorem putKs_end {t : ByteArray} {ks : List Int} : putKs t (ks.drop ks.length) = t := by rw [List.drop_of_length_le (Nat.le_refl _)]; rfl
theorem putRls_step {t : ByteArray} {rs : List RoleV} {i : Nat} (h : i < rs.length) : putRls t (rs.drop i) = putRls (putRl t rs[i]) (rs.drop (i + 1)) := by
  rw [List.drop_eq_getElem_cons h]; rfl
theorem putRls_end {t : ByteArray} {rs : List RoleV} : putRls t (rs.drop rs.length) = t := by rw [List.drop_of_length_le (Nat.le_refl _)]; rfl
theorem roleB_len {nd : Int} {ks : List Int} (h : roleB nd ks = true) : ks.length ≤ 8 := by
  unfold roleB at h
  rw [Bool.and_eq_true, decide_eq_true_eq] at h
  exact h.1.2.1
theorem rootB_of {v e : Int} {rs : List RoleV} (h : rootB v e rs = true) : rs.length = 5 ∧ ∀ k (hk : k < rs.length), roleB rs[k].need rs[k].ks = true := by
  unfold rootB at h
  rw [Bool.and_eq_true, Bool.and_eq_true, Bool.and_eq_true, decide_eq_true_eq] at h
  refine ⟨h.2.2.1, fun k hk => ?_⟩
  have := h.2.2.2
  unfold rolesB at this
  rw [List.all_eq_true] at this
  exact this _ (List.getElem_mem hk)
theorem i64_len {n : Nat} (h : n ≤ 9223372036854775807) : I64 (n : Int) := by
  unfold I64
  simp [Lit.wf, IntKind.min, IntKind.max, IntKind.signed, IntKind.bits]
  omega
theorem KpRt.drew {w w' : World} {g : Nat} {v e : Int} {a : Option Addr} {n c : Nat} {rs : List RoleV} (h : Hid (KpRt w g v e a n c rs w')) : Hid (KpRt w g v e a n c rs w'.drew) := ⟨h.out.below.drew, h.out.row.drew, h.out.rl⟩
theorem KpRt.three {w w' : World} {g : Nat} {v e : Int} {a : Option Addr} {n c : Nat} {rs : List RoleV} (h : Hid (KpRt w g v e a n c rs w')) : w'.cell? ⟨g, 0, none⟩ = some (.int .i64 v) ∧ w'.cell? ⟨g, 1, none⟩ = some (.int .i64 e) ∧ Hid (KpRt w g v e a n c rs w') := ⟨h.out.row.rt3.1, h.out.row.rt3.2.1, h⟩
/- The cells of one role, wherever the walk is. -/
theorem KpRt.role {w w' : World} {g b o i : Nat} {v e : Int} {n c : Nat} {rs : List RoleV} {nd : Int} {ka : Option Addr} {kc m : Nat} (hr : Hid (∃ h : i < rs.length, rs[i].need = nd ∧ rs[i].ka = ka ∧ rs[i].kc = kc ∧ rs[i].ks.length = m)) (h : Hid (KpRt w g v e (some ⟨b, o, none⟩) n c rs w')) :
    w'.cell? ⟨g, 2, none⟩ = some (.slice (some ⟨b, o, none⟩) n c) ∧ w'.cell? ⟨b, o + i * 2, none⟩ = some (.int .i64 nd) ∧ w'.cell? ⟨b, o + i * 2 + 1, none⟩ = some (.slice ka m kc) ∧ Hid (KpRt w g v e (some ⟨b, o, none⟩) n c rs w') := by
  obtain ⟨hi, rfl, rfl, rfl, rfl⟩ := hr.out
  obtain ⟨b', o', h1, h2, h3, _⟩ := h.out.rl i hi
  injection h1 with h1
  injection h1 with e1 e2
  subst e1 e2
  exact ⟨h.out.row.rt3.2.2, h2, h3, h⟩
set_option maxRecDepth 100000 in
set_option maxHeartbeats 4000000 in
theorem specRootB (v e : Int) (a : Option Addr) (c n : Nat) (rs : List RoleV) (w : World) (hn : rs.length = n) (h : RlsAt w a rs) (hnm : n ≤ maxLen) (hw : ∀ r ∈ rs, RoleW r) (hv : I64 v) (he : I64 e) :
    Calls Try.prog 19 #[.agg #[.int .i64 v, .int .i64 e, .slice a n c]] w fun r w' => r = .returned (.string (rootBy v e rs)) ∧ Below w.heap.size w w' := by
  have HN : Hid (rs.length = n) := hn
  have HA : Hid (RlsAt w a rs) := h
  have HW : Hid (∀ r ∈ rs, RoleW r) := hw
  have hR : ∀ w0, Hid (KpRt w w.heap.size v e a n c rs w0) → Calls Try.prog 15 #[.agg #[.int .i64 v, .int .i64 e, .slice a n c]] w0 fun r w' => r = .returned (.bool (rootB v e rs)) ∧ Below w0.heap.size w0 w' := fun w0 h0 => specRootR v e a c n rs w0 hn h0.out.rl hnm hw
  unfold maxLen at hnm
  have HR : Hid (rootBy v e rs = if rootB v e rs then rootT v e rs else ⟨#[]⟩) := rfl
  obtain ⟨R, hRR⟩ : ∃ R, rootBy v e rs = R := ⟨_, rfl⟩
  rw [hRR] at HR ⊢
  clear h hn hw hRR
  cases hb : rootB v e rs with
  | false =>
    have HF : Hid (R = ⟨#[]⟩) := by show _ = _; rw [HR.out, hb]; rfl
    rw [hb] at hR
    clear HR hb
    go_enter Try.func19, Try.ntmps19
    go_wp2_with (first
      | (with_reducible refine wpList_boxV (w := w) (by with_unfolding_all rfl) 29 (.tmp 0) (by with_unfolding_all rfl) (rtv v e a n c) (by with_unfolding_all rfl) ?_; intro w1 hA1 hB1 hS1; obtain ⟨p0, p1, p2⟩ := hA1.rt3; clear hS1)
      | (go_at_call 15; refine (hR w1 (KpRt.mk hB1 hA1 (HA.out.below hB1))).mono ?_; rintro r w2 ⟨rfl, hB2⟩))
    go_ret
    exact ⟨by rw [HF.out]; rfl, hB1.trans (hB2.mono hB1.size)⟩
  | true =>
  obtain ⟨h5, hro⟩ := rootB_of hb
  have HRo : Hid (∀ k (hk : k < rs.length), roleB rs[k].need rs[k].ks = true) := hro
  have HF : Hid (R = putRls ((⟨#[82]⟩ ++ putS v) ++ putS e) (rs.drop 0)) := by show _ = _; rw [HR.out, hb]; rfl
  rw [hb] at hR
  rw [HN.out] at h5
  subst h5
  have hPv : ∀ w0, Calls Try.prog 65 #[.int .i64 v] w0 fun r w' => r = .returned (.string (putS v)) ∧ Below w0.heap.size w0 w' := fun w0 => specPut v w0 hv
  have hPe : ∀ w0, Calls Try.prog 65 #[.int .i64 e] w0 fun r w' => r = .returned (.string (putS e)) ∧ Below w0.heap.size w0 w' := fun w0 => specPut e w0 he
  have hz1 := putS_size v
  have hz2 := putS_size e
  obtain ⟨X, hX⟩ : ∃ X, (⟨#[82]⟩ : ByteArray) ++ putS v = X := ⟨_, rfl⟩
  have hXs : X.size ≤ 11 := by rw [← hX, ByteArray.size_append]; show 1 + _ ≤ _; omega
  obtain ⟨Y, hY⟩ : ∃ Y, X ++ putS e = Y := ⟨_, rfl⟩
  have hYs : Y.size ≤ 21 := by rw [← hY, ByteArray.size_append]; omega
  rw [hX, hY] at HF
  generalize putS v = pv at *
  generalize putS e = pe at *
  have y1 : ¬ 9223372036854775807 < 1 + pv.size := by omega
  have y2 : ¬ 9223372036854775807 < X.size + pe.size := by omega
  clear HR hb hro
  go_enter Try.func19, Try.ntmps19
  go_wp2_with (first
    | (with_reducible refine wpList_boxV (w := w) (by with_unfolding_all rfl) 29 (.tmp 0) (by with_unfolding_all rfl) (rtv v e a 5 c) (by with_unfolding_all rfl) ?_; intro w1 hA1 hB1 hS1; obtain ⟨p0, p1, p2⟩ := hA1.rt3; clear hS1)
    | (go_at_call 15; refine (hR w1 (KpRt.mk hB1 hA1 (HA.out.below hB1))).mono ?_; rintro r w2 ⟨rfl, hB2⟩; have HS2 : Hid (KpRt w w.heap.size v e a 5 c rs w2) := KpRt.call (show Hid (KpRt w w.heap.size v e a 5 c rs w1) from KpRt.mk hB1 hA1 (HA.out.below hB1)) hB2))
  have HS : Hid (KpRt w w.heap.size v e a 5 c rs w2.drew) := KpRt.drew HS2
  clear HS2 p0 p1 p2 hA1 hB1 hB2 hR HA
  go_region_held3 (fun w' => w'.cell? ⟨w.heap.size, 0, none⟩ = some (.int .i64 v) ∧ w'.cell? ⟨w.heap.size, 1, none⟩ = some (.int .i64 e) ∧ Hid (KpRt w w.heap.size v e a 5 c rs w'))
    (first | exact KpRt.three HS | exact KpRt.three (KpRt.call HS h6) | exact KpRt.three (KpRt.call (KpRt.call HS h6) h7))
    (first
      | (go_at_call 65; with_reducible refine (hPv _).mono ?_; rintro r w6 ⟨rfl, h6⟩)
      | (go_at_call 65; with_reducible refine (hPe _).mono ?_; rintro r w7 ⟨rfl, h7⟩))
  all_goals
    have HS7 := KpRt.call (KpRt.call HS h6) h7
    clear HS h6 h7 hPv hPe y1 y2 hXs hz1 hz2 hX hY
    go_wp2_with fail
    go_loopw [3, 4] (fun vt vi wr => ∃ (i : Nat) (T : ByteArray), vi = .int .i64 (i : Int) ∧ vt = .string T ∧ i ≤ 5 ∧ T.size ≤ 21 + 120 * i ∧ Hid (R = putRls T (rs.drop i)) ∧ Hid (KpRt w w.heap.size v e a 5 c rs wr)) (fun _ vi _ => 5 - (intOf vi).toNat)
    case atStart => exact ⟨0, Y, rfl, rfl, Nat.zero_le _, by omega, HF, HS7⟩
    case round =>
    clear HF HS7 hYs
    obtain ⟨i, T, rfl, rfl, hi, hTs, HT, HS⟩ := hrel
    by_cases hlt : i < 5
    case neg =>
      obtain rfl : i = 5 := by omega
      have HE : Hid (R = T) := by
        show _ = _
        have := HT.out
        rw [← HN.out, putRls_end] at this
        exact this
      go_wp2
      go_ret
      exact ⟨by rw [HE.out]; rfl, HS.out.below⟩
    have hil : i < rs.length := by have := HN.out; omega
    obtain ⟨b, o, rfl, hc0, hc1, hai⟩ := HS.out.rl i hil
    have HAi : Hid (∀ w0, KpRt w w.heap.size v e (some ⟨b, o, none⟩) 5 c rs w0 → AI w0 rs[i].ka rs[i].ks) := fun w0 h0 => by
      obtain ⟨_, _, _, _, _, h4⟩ := h0.rl i hil
      exact h4
    obtain ⟨x1, x2, x3⟩ := HW.out rs[i] (List.getElem_mem hil)
    have hm8 := roleB_len (HRo.out i hil)
    have HT2 : Hid (R = putRls (putRl T rs[i]) (rs.drop (i + 1))) := by show _ = _; rw [HT.out, putRls_step hil]
    have HRl : Hid (∃ h : i < rs.length, rs[i].need = rs[i].need ∧ rs[i].ka = rs[i].ka ∧ rs[i].kc = rs[i].kc ∧ rs[i].ks.length = rs[i].ks.length) := ⟨hil, rfl, rfl, rfl, rfl⟩
    have HPt : Hid (putRl T rs[i] = putKs ((T ++ putS rs[i].need) ++ putS (rs[i].ks.length : Int)) (rs[i].ks.drop 0)) := rfl
    have HI : Hid (∀ x ∈ rs[i].ks, I64 x) := x3
    obtain ⟨nd, hnd⟩ : ∃ nd, rs[i].need = nd := ⟨_, rfl⟩
    obtain ⟨ka, hka⟩ : ∃ ka, rs[i].ka = ka := ⟨_, rfl⟩
    obtain ⟨kc, hkc⟩ : ∃ kc, rs[i].kc = kc := ⟨_, rfl⟩
    obtain ⟨ks, hks⟩ : ∃ ks, rs[i].ks = ks := ⟨_, rfl⟩
    obtain ⟨TT, hTT⟩ : ∃ TT, putRl T rs[i] = TT := ⟨_, rfl⟩
    rw [hTT] at HT2 HPt
    have HRl2 : Hid (∃ h : i < rs.length, rs[i].need = nd ∧ rs[i].ka = ka ∧ rs[i].kc = kc ∧ rs[i].ks.length = ks.length) := ⟨hil, hnd, hka, hkc, by rw [hks]⟩
    rw [hnd] at x1 hc0 HPt
    rw [hka, hks] at HAi
    rw [hks] at hm8 HPt HI hc1 x2
    rw [hka, hkc] at hc1
    obtain ⟨m, hm⟩ : ∃ m, ks.length = m := ⟨_, rfl⟩
    have HMk : Hid (ks.length = m) := hm
    rw [hm] at HRl2 hm8 HPt hc1 x2
    clear hai HRl hnd hka hkc hks hTT hm x3 hc0 hc1 HT
    have hP1 : ∀ w0, Calls Try.prog 65 #[.int .i64 nd] w0 fun r w' => r = .returned (.string (putS nd)) ∧ Below w0.heap.size w0 w' := fun w0 => specPut nd w0 x1
    have hP2 : ∀ w0, Calls Try.prog 65 #[.int .i64 (m : Int)] w0 fun r w' => r = .returned (.string (putS (m : Int))) ∧ Below w0.heap.size w0 w' := fun w0 => specPut (m : Int) w0 (i64_len (by omega))
    have z1 := putS_size nd
    have z2 := putS_size (m : Int)
    obtain ⟨T1, hT1⟩ : ∃ T1, T ++ putS nd = T1 := ⟨_, rfl⟩
    have t1s : T1.size ≤ 31 + 120 * i := by rw [← hT1, ByteArray.size_append]; omega
    obtain ⟨T2, hT2⟩ : ∃ T2, T1 ++ putS (m : Int) = T2 := ⟨_, rfl⟩
    have t2s : T2.size ≤ 41 + 120 * i := by rw [← hT2, ByteArray.size_append]; omega
    rw [hT1, hT2] at HPt
    generalize putS nd = pn at *
    generalize putS (m : Int) = pm at *
    have y1 : ¬ 9223372036854775807 < T.size + pn.size := by omega
    have y2 : ¬ 9223372036854775807 < T1.size + pm.size := by omega
    have li : (i : Int) < 5 := by omega
    have l0 : (0 : Int) ≤ i := by omega
    have HSd := KpRt.drew HS
    clear HS x1 x2 hil
    go_wp2_with fail
    go_region_held3 (fun w' => w'.cell? ⟨w.heap.size, 2, none⟩ = some (.slice (some ⟨b, o, none⟩) 5 c) ∧ w'.cell? ⟨b, o + i * 2, none⟩ = some (.int .i64 nd) ∧ w'.cell? ⟨b, o + i * 2 + 1, none⟩ = some (.slice ka m kc) ∧ Hid (KpRt w w.heap.size v e (some ⟨b, o, none⟩) 5 c rs w'))
      (first | exact KpRt.role HRl2 HSd | exact KpRt.role HRl2 (KpRt.call HSd h8) | exact KpRt.role HRl2 (KpRt.call (KpRt.call HSd h8) h9))
      (first
        | (go_at_call 65; with_reducible refine (hP1 _).mono ?_; rintro r w8 ⟨rfl, h8⟩)
        | (go_at_call 65; with_reducible refine (hP2 _).mono ?_; rintro r w9 ⟨rfl, h9⟩))
    all_goals
      have HS9 := KpRt.call (KpRt.call HSd h8) h9
      clear HSd h8 h9 hP1 hP2 y1 y2 z1 z2 hT1 hT2 t1s
      go_wp2_with fail
      go_loopw [3, 5] (fun vt vj wr => ∃ (j : Nat) (U : ByteArray), vj = .int .i64 (j : Int) ∧ vt = .string U ∧ j ≤ m ∧ U.size ≤ 41 + 120 * i + 10 * j ∧ Hid (TT = putKs U (ks.drop j)) ∧ Hid (KpRt w w.heap.size v e (some ⟨b, o, none⟩) 5 c rs wr)) (fun _ vj _ => m - (intOf vj).toNat)
      case atStart => exact ⟨0, T2, rfl, rfl, Nat.zero_le _, by omega, HPt, HS9⟩
      case round =>
      clear HPt HS9 t2s
      obtain ⟨j, U, rfl, rfl, hj, hUs, HU, HS⟩ := hrel
      obtain ⟨q0, q1, q2, -⟩ := KpRt.role HRl2 HS
      by_cases hjm : j < m
      case neg =>
        as_aux_lemma =>
        obtain rfl : j = m := by omega
        have HE : Hid (TT = U) := by
          show _ = _
          have := HU.out
          rw [← HMk.out, putKs_end] at this
          exact this
        go_wp2
        go_roundw
        case rel => exact ⟨i + 1, U, by go_num, rfl, by omega, by omega, by show _ = _; rw [HT2.out, HE.out], HS⟩
        case measure => simp [intOf]; omega
      have hjl : j < ks.length := by have := HMk.out; omega
      obtain ⟨kb, ko, rfl, hkc⟩ := HAi.out wr HS.out j hjl
      have hPk : ∀ w0, Calls Try.prog 65 #[.int .i64 ks[j]] w0 fun r w' => r = .returned (.string (putS ks[j])) ∧ Below w0.heap.size w0 w' := fun w0 => specPut ks[j] w0 (HI.out _ (List.getElem_mem hjl))
      have HU2 : Hid (TT = putKs (U ++ putS ks[j]) (ks.drop (j + 1))) := by show _ = _; rw [HU.out, putKs_step hjl]
      have z1 := putS_size ks[j]
      generalize ks[j] = z at *
      generalize putS z = pz at *
      have y1 : ¬ 9223372036854775807 < U.size + pz.size := by omega
      have lj : (j : Int) < m := by omega
      have l1 : (0 : Int) ≤ j := by omega
      go_wp2_with (go_at_call 65; with_reducible refine (hPk _).mono ?_; rintro r w10 ⟨rfl, h10⟩)
      go_roundw
      case rel => exact ⟨j + 1, U ++ pz, by go_num, rfl, by omega, by rw [ByteArray.size_append]; omega, HU2, KpRt.call HS h10⟩
      case measure => simp [intOf]; omega
end Go.Proofs.Ytnlalnkoggkdfaa
