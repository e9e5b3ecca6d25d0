/- Roots, on the specification's side: their roles lie in a row of two cells each. -/
import Derived.Test.YtaalegjhhpfhbaaMet
namespace Go.Proofs.Ytaalegjhhpfhbaa
open Go.RowKit
set_option linter.unusedVariables false

structure RoleV where
  need : Int
  ka : Option Addr
  kc : Nat
  ks : List Int
def RoleV.val (r : RoleV) : Value := .agg #[.int .i64 r.need, .slice r.ka r.ks.length r.kc]
def RlsAt (w : World) (a : Option Addr) (rs : List RoleV) : Prop := ∀ i (h : i < rs.length), ∃ b o, a = some ⟨b, o, none⟩ ∧ w.cell? ⟨b, o + i * 2, none⟩ = some (.int .i64 rs[i].need) ∧ w.cell? ⟨b, o + i * 2 + 1, none⟩ = some (.slice rs[i].ka rs[i].ks.length rs[i].kc) ∧ AI w rs[i].ka rs[i].ks
theorem RlsAt.below {w w' : World} {a : Option Addr} {rs : List RoleV} (h : RlsAt w a rs) (hb : Below w.heap.size w w') : RlsAt w' a rs := fun i hi => by
  obtain ⟨b, o, h1, h2, h3, h4⟩ := h i hi
  exact ⟨b, o, h1, (hb.cell (p := ⟨b, o + i * 2, none⟩) (cellLt h2)).trans h2, (hb.cell (p := ⟨b, o + i * 2 + 1, none⟩) (cellLt h3)).trans h3, h4.below hb⟩
/- A role that an int64 and a slice can be. -/
def RoleW (r : RoleV) : Prop := I64 r.need ∧ r.ks.length ≤ maxLen ∧ ∀ x ∈ r.ks, I64 x
def rolesB (rs : List RoleV) : Bool := rs.all (fun r => roleB r.need r.ks)
def rootB (v e : Int) (rs : List RoleV) : Bool := verB v && (timB e && (decide (rs.length = 5) && rolesB rs))
theorem rolesB_yes {rs : List RoleV} (h : ∀ k (hk : k < rs.length), roleB rs[k].need rs[k].ks = true) : rolesB rs = true := by
  unfold rolesB
  rw [List.all_eq_true]
  intro x hx
  obtain ⟨k, hk, rfl⟩ := List.mem_iff_getElem.1 hx
  exact h k hk
theorem rolesB_no {rs : List RoleV} {k : Nat} (hk : k < rs.length) (h : roleB rs[k].need rs[k].ks = false) : rolesB rs = false := by
  cases ho : rolesB rs with
  | false => rfl
  | true =>
    unfold rolesB at ho
    rw [List.all_eq_true] at ho
    have := ho _ (List.getElem_mem hk)
    rw [h] at this
    cases this
def rtv (v e : Int) (a : Option Addr) (n c : Nat) : List Value := [.int .i64 v, .int .i64 e, .slice a n c]
theorem RowV.rt3 {w : World} {g : Nat} {v e : Int} {a : Option Addr} {n c : Nat} (h : RowV w g (rtv v e a n c)) : w.cell? ⟨g, 0, none⟩ = some (.int .i64 v) ∧ w.cell? ⟨g, 1, none⟩ = some (.int .i64 e) ∧ w.cell? ⟨g, 2, none⟩ = some (.slice a n c) := ⟨h.cell (k := 0) rfl, h.cell (k := 1) rfl, h.cell (k := 2) rfl⟩
theorem rtv_ne (v e : Int) (a : Option Addr) (n c : Nat) : rtv v e a n c ≠ [] := by simp [rtv]
structure KpRt (w : World) (g : Nat) (v e : Int) (a : Option Addr) (n c : Nat) (rs : List RoleV) (w' : World) : Prop where
  below : Below w.heap.size w w'
  row : RowV w' g (rtv v e a n c)
  rl : RlsAt w' a rs
theorem KpRt.call {w w' w2 : World} {g : Nat} {v e : Int} {a : Option Addr} {n c : Nat} {rs : List RoleV} (h : Hid (KpRt w g v e a n c rs w')) (hb : Below w'.heap.size w' w2) : Hid (KpRt w g v e a n c rs w2) :=
  ⟨h.out.below.trans (hb.mono h.out.below.size), h.out.row.below hb (h.out.row.lt (rtv_ne _ _ _ _ _)), h.out.rl.below hb⟩
set_option maxRecDepth 100000 in
set_option maxHeartbeats 2000000 in
theorem specRootR (v e : Int) (a : Option Addr) (c n : Nat) (rs : List RoleV) (w : World) (hn : rs.length = n) (h : RlsAt w a rs) (hnm : n ≤ maxLen) (hw : ∀ r ∈ rs, RoleW r) :
    Calls Try.prog 109 #[.agg #[.int .i64 v, .int .i64 e, .slice a n c]] w fun r w' => r = .returned (.bool (rootB v e rs)) ∧ Below w.heap.size w w' := by
  unfold maxLen at hnm
  have HN : Hid (rs.length = n) := hn
  have HA : Hid (RlsAt w a rs) := h
  have HW : Hid (∀ r ∈ rs, RoleW r) := hw
  have hV : ∀ w0, Calls Try.prog 86 #[.int .i64 v] w0 fun r w' => r = .returned (.bool (verB v)) ∧ w0 = w' := fun w0 => specVer v w0
  have hT : ∀ w0, Calls Try.prog 87 #[.int .i64 e] w0 fun r w' => r = .returned (.bool (timB e)) ∧ w0 = w' := fun w0 => specTim e w0
  have HR : Hid (rootB v e rs = (verB v && (timB e && (decide (rs.length = 5) && rolesB rs)))) := rfl
  obtain ⟨R, hRR⟩ : ∃ R, rootB v e rs = R := ⟨_, rfl⟩
  rw [hRR] at HR ⊢
  clear h hn hw hRR
  cases hv : verB v with
  | false =>
    have HF : Hid (R = false) := by show _ = _; rw [HR.out, hv]; rfl
    rw [hv] at hV
    clear HR hv hT
    go_enter Try.func109, Try.ntmps109
    go_wp2_with (first
      | (with_reducible refine wpList_boxV (w := w) (by with_unfolding_all rfl) 45 (.tmp 0) (by with_unfolding_all rfl) (rtv v e a n c) (by with_unfolding_all rfl) ?_; intro w1 hA1 hB1 hS1; obtain ⟨p0, p1, p2⟩ := hA1.rt3; clear hS1)
      | (go_at_call 86; refine (hV _).mono ?_; rintro r w' ⟨rfl, rfl⟩))
    go_ret
    exact ⟨retY HF.out.symm, hB1⟩
  | true =>
  rw [hv] at hV
  cases ht : timB e with
  | false =>
    have HF : Hid (R = false) := by show _ = _; rw [HR.out, hv, ht]; rfl
    rw [ht] at hT
    clear HR hv ht
    go_enter Try.func109, Try.ntmps109
    go_wp2_with (first
      | (with_reducible refine wpList_boxV (w := w) (by with_unfolding_all rfl) 45 (.tmp 0) (by with_unfolding_all rfl) (rtv v e a n c) (by with_unfolding_all rfl) ?_; intro w1 hA1 hB1 hS1; obtain ⟨p0, p1, p2⟩ := hA1.rt3; clear hS1)
      | (go_at_call 86; refine (hV _).mono ?_; rintro r w' ⟨rfl, rfl⟩)
      | (go_at_call 87; refine (hT _).mono ?_; rintro r w' ⟨rfl, rfl⟩))
    go_ret
    exact ⟨retY HF.out.symm, hB1⟩
  | true =>
  rw [ht] at hT
  by_cases h5 : n = 5
  case neg =>
    have HF : Hid (R = false) := by show _ = _; rw [HR.out, hv, ht, decide_eq_false (by rw [HN.out]; exact h5)]; rfl
    have d5 : ((n : Int) == 5) = false := beq_eq_false_iff_ne.2 (by omega)
    have d5' : ((n : Int) != 5) = true := by simp; omega
    clear HR hv ht h5
    go_enter Try.func109, Try.ntmps109
    go_wp2_with (first
      | (with_reducible refine wpList_boxV (w := w) (by with_unfolding_all rfl) 45 (.tmp 0) (by with_unfolding_all rfl) (rtv v e a n c) (by with_unfolding_all rfl) ?_; intro w1 hA1 hB1 hS1; obtain ⟨p0, p1, p2⟩ := hA1.rt3; clear hS1)
      | (go_at_call 86; refine (hV _).mono ?_; rintro r w' ⟨rfl, rfl⟩)
      | (go_at_call 87; refine (hT _).mono ?_; rintro r w' ⟨rfl, rfl⟩))
    go_ret
    exact ⟨retY HF.out.symm, hB1⟩
  have HK : Hid (R = rolesB rs) := by show _ = _; rw [HR.out, hv, ht, decide_eq_true (by rw [HN.out]; exact h5)]; rfl
  subst h5
  clear HR hv ht
  go_enter Try.func109, Try.ntmps109
  go_wp2_with (first
    | (with_reducible refine wpList_boxV (w := w) (by with_unfolding_all rfl) 45 (.tmp 0) (by with_unfolding_all rfl) (rtv v e a 5 c) (by with_unfolding_all rfl) ?_; intro w1 hA1 hB1 hS1; obtain ⟨p0, p1, p2⟩ := hA1.rt3; clear hS1)
    | (go_at_call 86; refine (hV _).mono ?_; rintro r w' ⟨rfl, rfl⟩)
    | (go_at_call 87; refine (hT _).mono ?_; rintro r w' ⟨rfl, rfl⟩))
  have HS : Hid (KpRt w w.heap.size v e a 5 c rs w1) := ⟨hB1, hA1, HA.out.below hB1⟩
  clear hA1 hB1 p0 p1 p2 HA hV hT
  go_loopw [3] (fun vi wr => ∃ k : Nat, vi = .int .i64 (k : Int) ∧ k ≤ 5 ∧ Hid (∀ j (hj : j < rs.length), j < k → roleB rs[j].need rs[j].ks = true) ∧ Hid (KpRt w w.heap.size v e a 5 c rs wr)) (fun vi _ => 5 - (intOf vi).toNat)
  case atStart => exact ⟨0, rfl, Nat.zero_le _, fun j hj h0 => absurd h0 (Nat.not_lt_zero _), HS⟩
  case round =>
    clear HS
    obtain ⟨k, rfl, hk, HT, HS⟩ := hrel
    obtain ⟨p0, p1, p2⟩ := HS.out.row.rt3
    by_cases hlt : k < 5
    case neg =>
      obtain rfl : k = 5 := by omega
      have HF : Hid (R = true) := by show _ = _; rw [HK.out]; exact rolesB_yes (fun j hj => HT.out j hj (by have := HN.out; omega))
      go_wp2
      go_ret
      exact ⟨retY HF.out.symm, HS.out.below⟩
    have hkl : k < rs.length := by have := HN.out; omega
    obtain ⟨b, o, rfl, hc0, hc1, hai⟩ := HS.out.rl k hkl
    obtain ⟨w1, w2, w3⟩ := HW.out rs[k] (List.getElem_mem hkl)
    have lk : (k : Int) < 5 := by omega
    have l0 : (0 : Int) ≤ k := by omega
    have HG : Hid (Calls Try.prog 139 #[.agg #[.int .i64 rs[k].need, .slice rs[k].ka rs[k].ks.length rs[k].kc]] wr fun r w' => r = .returned (.bool (roleB rs[k].need rs[k].ks)) ∧ Below wr.heap.size wr w') := specRole rs[k].need rs[k].ka rs[k].kc _ rs[k].ks wr rfl hai w2 w3
    have HYes : Hid (roleB rs[k].need rs[k].ks = true → ∀ j (hj : j < rs.length), j < k + 1 → roleB rs[j].need rs[j].ks = true) := fun h j hj hjk => by
      by_cases hjk2 : j < k
      · exact HT.out j hj hjk2
      · obtain rfl : j = k := by omega
        exact h
    have HNo : Hid (roleB rs[k].need rs[k].ks = false → R = false) := fun h => by rw [HK.out]; exact rolesB_no hkl h
    generalize rs[k].need = nd at *
    generalize rs[k].ka = ka at *
    generalize rs[k].kc = kc at *
    generalize rs[k].ks = ks at *
    obtain ⟨m, hm⟩ : ∃ m, ks.length = m := ⟨_, rfl⟩
    rw [hm] at hc1 HG
    clear hm hai w1 w2 w3 HT
    cases hb : roleB nd ks with
    | false =>
      as_aux_lemma =>
      have HF : Hid (R = false) := HNo.out hb
      rw [hb] at HG
      clear HYes HNo hb
      go_wp2_with (go_at_call 139; refine Calls.mono HG.out ?_; rintro r w5 ⟨rfl, hB5⟩; have HS5 := KpRt.call HS hB5)
      go_ret
      exact ⟨retY HF.out.symm, HS5.out.below⟩
    | true =>
      as_aux_lemma =>
      have HT2 : Hid (∀ j (hj : j < rs.length), j < k + 1 → roleB rs[j].need rs[j].ks = true) := HYes.out hb
      rw [hb] at HG
      clear HYes HNo hb
      go_wp2_with (go_at_call 139; refine Calls.mono HG.out ?_; rintro r w5 ⟨rfl, hB5⟩; have HS5 := KpRt.call HS hB5)
      go_roundw
      case rel => exact ⟨k + 1, by go_num, by omega, HT2, HS5⟩
      case measure => simp [intOf]; omega
end Go.Proofs.Ytaalegjhhpfhbaa
