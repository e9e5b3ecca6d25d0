/- Right versions, times and roles, on the specification's side. Roots, on the specification's side: their roles lie in a row of two cells each. -/
import Derived.Test.YtdfglpbappeoaaaGreatDoorJn6
import Derived.Test.YtdfglpbappeoaaaGreatDoorJn9
import Derived.Test.YtdfglpbappeoaaaGreatDoorElm
import Derived.Test.YtdfglpbappeoaaaGreatDoorSRow
namespace Go.Proofs.YtdfglpbappeoaaaGreatDoor
open Go.RowKit
set_option linter.unusedVariables false

def verB (n : Int) : Bool := decide (1 ≤ n ∧ n ≤ 1000000)
def timB (n : Int) : Bool := decide (0 ≤ n ∧ n ≤ 1000000000)
theorem specVer (n : Int) (w : World) : Calls Tryz.prog 92 #[.int .i64 n] w fun e w' => e = .returned (.bool (verB n)) ∧ w = w' := by
  unfold verB
  by_cases h1 : 1 ≤ n
  · have d1 : decide (1 ≤ n) = true := decide_eq_true h1
    by_cases h2 : n ≤ 1000000
    · have d2 : decide (n ≤ 1000000) = true := decide_eq_true h2
      rw [decide_eq_true ⟨h1, h2⟩]
      go_enter Tryz.func92, Tryz.ntmps92
      go_wp2
      go_ret
      exact ⟨rfl, rfl⟩
    · have d2 : decide (n ≤ 1000000) = false := decide_eq_false h2
      rw [decide_eq_false (fun h => h2 h.2)]
      go_enter Tryz.func92, Tryz.ntmps92
      go_wp2
      go_ret
      exact ⟨rfl, rfl⟩
  · have d1 : decide (1 ≤ n) = false := decide_eq_false h1
    rw [decide_eq_false (fun h => h1 h.1)]
    go_enter Tryz.func92, Tryz.ntmps92
    go_wp2
    go_ret
    exact ⟨rfl, rfl⟩
theorem specTim (n : Int) (w : World) : Calls Tryz.prog 48 #[.int .i64 n] w fun e w' => e = .returned (.bool (timB n)) ∧ w = w' := by
  unfold timB
  by_cases h1 : 0 ≤ n
  · have d1 : decide (0 ≤ n) = true := decide_eq_true h1
    by_cases h2 : n ≤ 1000000000
    · have d2 : decide (n ≤ 1000000000) = true := decide_eq_true h2
      rw [decide_eq_true ⟨h1, h2⟩]
      go_enter Tryz.func48, Tryz.ntmps48
      go_wp2
      go_ret
      exact ⟨rfl, rfl⟩
    · have d2 : decide (n ≤ 1000000000) = false := decide_eq_false h2
      rw [decide_eq_false (fun h => h2 h.2)]
      go_enter Tryz.func48, Tryz.ntmps48
      go_wp2
      go_ret
      exact ⟨rfl, rfl⟩
  · have d1 : decide (0 ≤ n) = false := decide_eq_false h1
    rw [decide_eq_false (fun h => h1 h.1)]
    go_enter Tryz.func48, Tryz.ntmps48
    go_wp2
    go_ret
    exact ⟨rfl, rfl⟩
/- A role: how many are needed, and the keys. -/
def KeyOk (ks : List Int) (k : Nat) : Prop := ∃ h : k < ks.length, grB ks[k] = true ∧ (0 < k → ks.getD (k - 1) 0 < ks[k])
def okKs (ks : List Int) : Bool := ks.all grB && (ks.zip (ks.drop 1)).all (fun x => decide (x.1 < x.2))
def roleB (need : Int) (ks : List Int) : Bool := decide (1 ≤ ks.length ∧ ks.length ≤ 8 ∧ 1 ≤ need ∧ need ≤ (ks.length : Int)) && okKs ks
theorem okKs_yes {ks : List Int} (h : ∀ k, k < ks.length → KeyOk ks k) : okKs ks = true := by
  unfold okKs
  rw [Bool.and_eq_true, List.all_eq_true, List.all_eq_true]
  constructor
  · intro x hx
    obtain ⟨k, hk, rfl⟩ := List.mem_iff_getElem.1 hx
    obtain ⟨_, h1, _⟩ := h k hk
    exact h1
  · intro x hx
    obtain ⟨k, hk, rfl⟩ := List.mem_iff_getElem.1 hx
    rw [List.length_zip, List.length_drop] at hk
    rw [List.getElem_zip, decide_eq_true_eq, List.getElem_drop]
    obtain ⟨h1, _, h3⟩ := h (1 + k) (by omega)
    have h4 := h3 (by omega)
    rw [show 1 + k - 1 = k by omega, List.getD_eq_getElem?_getD, List.getElem?_eq_getElem (by omega)] at h4
    exact h4
theorem okKs_no {ks : List Int} {k : Nat} (hk : k < ks.length) (h : ¬ KeyOk ks k) : okKs ks = false := by
  cases ho : okKs ks with
  | false => rfl
  | true =>
    exfalso
    unfold okKs at ho
    rw [Bool.and_eq_true, List.all_eq_true, List.all_eq_true] at ho
    refine h ⟨hk, ho.1 _ (List.getElem_mem hk), fun h0 => ?_⟩
    have hz : k - 1 < (ks.zip (ks.drop 1)).length := by rw [List.length_zip, List.length_drop]; omega
    have := ho.2 _ (List.getElem_mem hz)
    rw [List.getElem_zip, decide_eq_true_eq, List.getElem_drop] at this
    rw [List.getD_eq_getElem?_getD, List.getElem?_eq_getElem (by omega)]
    have e : ks[1 + (k - 1)]'(by omega) = ks[k] := by congr 1; omega
    rw [e] at this
    exact this
def rlv (need : Int) (a : Option Addr) (n c : Nat) : List Value := [.int .i64 need, .slice a n c]
theorem RowV.rl {w : World} {g : Nat} {need : Int} {a : Option Addr} {n c : Nat} (h : RowV w g (rlv need a n c)) : w.cell? ⟨g, 0, none⟩ = some (.int .i64 need) ∧ w.cell? ⟨g, 1, none⟩ = some (.slice a n c) := ⟨h.cell (k := 0) rfl, h.cell (k := 1) rfl⟩
structure KpRl (w : World) (g : Nat) (need : Int) (a : Option Addr) (n c : Nat) (ks : List Int) (w' : World) : Prop where
  below : Below w.heap.size w w'
  v : RowV w' g (rlv need a n c)
  ai : AI w' a ks
theorem KpRl.drewN {w w' : World} {g : Nat} {need : Int} {a : Option Addr} {n c : Nat} {ks : List Int} (h : Hid (KpRl w g need a n c ks w')) (k : Nat) : Hid (KpRl w g need a n c ks (w'.drewN k)) := ⟨belowN h.out.below k, h.out.v.drewN k, h.out.ai⟩
set_option maxRecDepth 100000 in
set_option maxHeartbeats 2000000 in
theorem specRole (need : Int) (a : Option Addr) (c n : Nat) (ks : List Int) (w : World) (hn : ks.length = n) (h : AI w a ks) (hnm : n ≤ maxLen) (hw : ∀ x ∈ ks, I64 x) :
    Calls Tryz.prog 93 #[.agg #[.int .i64 need, .slice a n c]] w fun e w' => e = .returned (.bool (roleB need ks)) ∧ Below w.heap.size w w' := by
  unfold maxLen at hnm
  have HN : Hid (ks.length = n) := hn
  have HA : Hid (AI w a ks) := h
  have HW : Hid (∀ x ∈ ks, I64 x) := hw
  have HR : Hid (¬ (1 ≤ ks.length ∧ ks.length ≤ 8 ∧ 1 ≤ need ∧ need ≤ (ks.length : Int)) → roleB need ks = false) := fun h => by unfold roleB; rw [decide_eq_false h]; rfl
  have HR2 : Hid ((1 ≤ ks.length ∧ ks.length ≤ 8 ∧ 1 ≤ need ∧ need ≤ (ks.length : Int)) → roleB need ks = okKs ks) := fun h => by unfold roleB; rw [decide_eq_true h]; rfl
  obtain ⟨R, hRR⟩ : ∃ R, roleB need ks = R := ⟨_, rfl⟩
  rw [hRR] at HR HR2 ⊢
  clear h hn hw hRR
  by_cases c1 : n < 1
  · have d1 : decide ((n : Int) < 1) = true := decide_eq_true (by omega)
    have HF : Hid (R = false) := HR.out (by rw [HN.out]; omega)
    go_enter Tryz.func93, Tryz.ntmps93
    go_wp2_with (first
      | (with_reducible refine wpList_boxV (w := w) (by with_unfolding_all rfl) 122 (.tmp 0) (by with_unfolding_all rfl) (rlv need a n c) (by with_unfolding_all rfl) ?_; intro w1 hA1 hB1 hS1; obtain ⟨p0, p1⟩ := hA1.rl; clear hS1))
    go_ret
    exact ⟨retY HF.out.symm, hB1⟩
  have d1 : decide ((n : Int) < 1) = false := decide_eq_false (by omega)
  by_cases c2 : 8 < n
  · have d2 : decide ((8 : Int) < (n : Int)) = true := decide_eq_true (by omega)
    have HF : Hid (R = false) := HR.out (by rw [HN.out]; omega)
    go_enter Tryz.func93, Tryz.ntmps93
    go_wp2_with (first
      | (with_reducible refine wpList_boxV (w := w) (by with_unfolding_all rfl) 122 (.tmp 0) (by with_unfolding_all rfl) (rlv need a n c) (by with_unfolding_all rfl) ?_; intro w1 hA1 hB1 hS1; obtain ⟨p0, p1⟩ := hA1.rl; clear hS1))
    go_ret
    exact ⟨retY HF.out.symm, hB1⟩
  have d2 : decide ((8 : Int) < (n : Int)) = false := decide_eq_false (by omega)
  by_cases c3 : need < 1
  · have d3 : decide (need < 1) = true := decide_eq_true c3
    have HF : Hid (R = false) := HR.out (by omega)
    go_enter Tryz.func93, Tryz.ntmps93
    go_wp2_with (first
      | (with_reducible refine wpList_boxV (w := w) (by with_unfolding_all rfl) 122 (.tmp 0) (by with_unfolding_all rfl) (rlv need a n c) (by with_unfolding_all rfl) ?_; intro w1 hA1 hB1 hS1; obtain ⟨p0, p1⟩ := hA1.rl; clear hS1))
    go_ret
    exact ⟨retY HF.out.symm, hB1⟩
  have d3 : decide (need < 1) = false := decide_eq_false c3
  by_cases c4 : (n : Int) < need
  · have d4 : decide ((n : Int) < need) = true := decide_eq_true c4
    have HF : Hid (R = false) := HR.out (by rw [HN.out]; omega)
    go_enter Tryz.func93, Tryz.ntmps93
    go_wp2_with (first
      | (with_reducible refine wpList_boxV (w := w) (by with_unfolding_all rfl) 122 (.tmp 0) (by with_unfolding_all rfl) (rlv need a n c) (by with_unfolding_all rfl) ?_; intro w1 hA1 hB1 hS1; obtain ⟨p0, p1⟩ := hA1.rl; clear hS1))
    go_ret
    exact ⟨retY HF.out.symm, hB1⟩
  have d4 : decide ((n : Int) < need) = false := decide_eq_false c4
  have HK : Hid (R = okKs ks) := HR2.out (by rw [HN.out]; omega)
  clear HR HR2
  go_enter Tryz.func93, Tryz.ntmps93
  go_wp2_with (first
    | (with_reducible refine wpList_boxV (w := w) (by with_unfolding_all rfl) 122 (.tmp 0) (by with_unfolding_all rfl) (rlv need a n c) (by with_unfolding_all rfl) ?_; intro w1 hA1 hB1 hS1; obtain ⟨p0, p1⟩ := hA1.rl; clear hS1))
  have HS : Hid (KpRl w w.heap.size need a n c ks w1) := ⟨hB1, hA1, HA.out.below hB1⟩
  clear hA1 hB1 p0 p1 HA d1 d2 d3 d4
  go_loopw [3] (fun vi wr => ∃ k : Nat, vi = .int .i64 (k : Int) ∧ k ≤ n ∧ Hid (∀ j, j < k → KeyOk ks j) ∧ Hid (KpRl w w.heap.size need a n c ks wr)) (fun vi _ => n - (intOf vi).toNat)
  case atStart => exact ⟨0, rfl, Nat.zero_le _, fun j hj => absurd hj (Nat.not_lt_zero _), HS⟩
  case round =>
    clear HS
    obtain ⟨k, rfl, hk, HT, HS⟩ := hrel
    obtain ⟨p0, p1⟩ := HS.out.v.rl
    by_cases hlt : k < n
    case neg =>
      obtain rfl : k = n := by omega
      have HF : Hid (R = true) := by show _ = _; rw [HK.out]; exact okKs_yes (fun j hj => HT.out j (by have := HN.out; omega))
      go_wp2
      go_ret
      exact ⟨retY HF.out.symm, HS.out.below⟩
    have hkl : k < ks.length := by have := HN.out; omega
    obtain ⟨b, o, rfl, hc⟩ := HS.out.ai k hkl
    have hix := HW.out ks[k] (List.getElem_mem hkl)
    have lk : (k : Int) < n := by omega
    have l0 : (0 : Int) ≤ k := by omega
    have hG : ∀ w0, Calls Tryz.prog 116 #[.int .i64 ks[k]] w0 fun e w' => e = .returned (.bool (grB ks[k])) ∧ w' = w0 := fun w0 => specGRight ks[k] w0 hix
    have HKo : Hid (∀ h : grB ks[k] = true, (0 < k → ks.getD (k - 1) 0 < ks[k]) → ∀ j, j < k + 1 → KeyOk ks j) := fun h1 h2 j hj => by
      by_cases hjk : j < k
      · exact HT.out j hjk
      · obtain rfl : j = k := by omega
        exact ⟨hkl, h1, h2⟩
    have HNo : Hid (¬ (grB ks[k] = true ∧ (0 < k → ks.getD (k - 1) 0 < ks[k])) → R = false) := fun h => by
      rw [HK.out]
      exact okKs_no hkl (fun ⟨_, h1, h2⟩ => h ⟨h1, h2⟩)
    cases hg : grB ks[k] with
    | false =>
      as_aux_lemma =>
      have HF : Hid (R = false) := HNo.out (fun h => by rw [hg] at h; cases h.1)
      rw [hg] at hG
      generalize ks[k] = z at *
      clear HKo HNo HT hg
      go_wp2_with fail
      go_quiet (first | (go_at_call 116; exact Calls.quiet_of_same (hG _)))
      go_wp2
      go_ret
      exact ⟨retY HF.out.symm, belowN HS.out.below _⟩
    | true =>
    rw [hg] at hG
    by_cases hk0 : k = 0
    · as_aux_lemma =>
      subst hk0
      rw [Nat.add_zero] at hc
      have HT2 : Hid (∀ j, j < 1 → KeyOk ks j) := HKo.out hg (fun h => by omega)
      generalize ks[0] = z at *
      clear HKo HNo HT hg
      go_wp2_with fail
      go_quiet (first | (go_at_call 116; exact Calls.quiet_of_same (hG _)))
      go_wp2
      go_roundw
      case rel => exact ⟨1, rfl, by omega, HT2, KpRl.drewN HS _⟩
      case measure => simp [intOf]; omega
    have d5 : decide ((0 : Int) < (k : Int)) = true := decide_eq_true (by omega)
    have d6 : decide (0 < k) = true := decide_eq_true (by omega)
    obtain ⟨k1, hk1⟩ : ∃ k1, k - 1 = k1 := ⟨_, rfl⟩
    have ek : (k : Int) - 1 = (k1 : Int) := by omega
    have hk1l : k1 < ks.length := by omega
    obtain ⟨b', o', hb', hc'⟩ := HS.out.ai k1 hk1l
    injection hb' with hb'
    injection hb' with e1 e2
    subst e1 e2
    have hgd : ks.getD (k - 1) 0 = ks[k1] := by rw [hk1, List.getD_eq_getElem?_getD, List.getElem?_eq_getElem hk1l]; rfl
    rw [hgd] at HKo HNo
    have lk1 : (k1 : Int) < n := by omega
    have l01 : (0 : Int) ≤ k1 := by omega
    by_cases hlt2 : ks[k1] < ks[k]
    · as_aux_lemma =>
      have HT2 : Hid (∀ j, j < k + 1 → KeyOk ks j) := HKo.out hg (fun _ => hlt2)
      have d7 : decide (ks[k] ≤ ks[k1]) = false := decide_eq_false (by omega)
      generalize ks[k] = z at *
      generalize ks[k1] = z1 at *
      clear HKo HNo HT hg hgd
      go_wp2_with fail
      go_quiet (first | (go_at_call 116; exact Calls.quiet_of_same (hG _)))
      go_wp2
      go_roundw
      case rel => exact ⟨k + 1, by go_num, by omega, HT2, KpRl.drewN HS _⟩
      case measure => simp [intOf]; omega
    · as_aux_lemma =>
      have HF : Hid (R = false) := HNo.out (fun h => hlt2 (h.2 (by omega)))
      have d7 : decide (ks[k] ≤ ks[k1]) = true := decide_eq_true (by omega)
      generalize ks[k] = z at *
      generalize ks[k1] = z1 at *
      clear HKo HNo HT hg hgd
      go_wp2_with fail
      go_quiet (first | (go_at_call 116; exact Calls.quiet_of_same (hG _)))
      go_wp2
      go_ret
      exact ⟨retY HF.out.symm, belowN HS.out.below _⟩
end Go.Proofs.YtdfglpbappeoaaaGreatDoor
namespace Go.Proofs.YtdfglpbappeoaaaGreatDoor
open Go.RowKit
set_option linter.unusedVariables false

structure RoleV where
  need : Int
  ka : Option Addr
  kc : Nat
  ks : List Int
def RoleV.val (r : RoleV) : Value := .agg #[.int .i64 r.need, .slice r.ka r.ks.length r.kc]
def RlsAt (w : World) (a : Option Addr) (rs : List RoleV) : Prop := ∀ i (h : i < rs.length), ∃ b o, a = some ⟨b, o, none⟩ ∧ w.cell? ⟨b, o + i * 2, none⟩ = some (.int .i64 rs[i].need) ∧ w.cell? ⟨b, o + i * 2 + 1, none⟩ = some (.slice rs[i].ka rs[i].ks.length rs[i].kc) ∧ AI w rs[i].ka rs[i].ks
theorem RlsAt.below {w w' : World} {a : Option Addr} {rs : List RoleV} (h : RlsAt w a rs) (hb : Below w.heap.size w w') : RlsAt w' a rs := fun i hi => by
  obtain ⟨b, o, h1, h2, h3, h4⟩ := h i hi
  exact ⟨b, o, h1, (hb.cell (p := ⟨b, o + i * 2, none⟩) (cellLt h2)).trans h2, (hb.cell (p := ⟨b, o + i * 2 + 1, none⟩) (cellLt h3)).trans h3, h4.below hb⟩
/- A role that an int64 and a slice can be. -/
def RoleW (r : RoleV) : Prop := I64 r.need ∧ r.ks.length ≤ maxLen ∧ ∀ x ∈ r.ks, I64 x
def rolesB (rs : List RoleV) : Bool := rs.all (fun r => roleB r.need r.ks)
def rootB (v e : Int) (rs : List RoleV) : Bool := verB v && (timB e && (decide (rs.length = 5) && rolesB rs))
theorem rolesB_yes {rs : List RoleV} (h : ∀ k (hk : k < rs.length), roleB rs[k].need rs[k].ks = true) : rolesB rs = true := by
  unfold rolesB
  rw [List.all_eq_true]
  intro x hx
  obtain ⟨k, hk, rfl⟩ := List.mem_iff_getElem.1 hx
  exact h k hk
theorem rolesB_no {rs : List RoleV} {k : Nat} (hk : k < rs.length) (h : roleB rs[k].need rs[k].ks = false) : rolesB rs = false := by
  cases ho : rolesB rs with
  | false => rfl
  | true =>
    unfold rolesB at ho
    rw [List.all_eq_true] at ho
    have := ho _ (List.getElem_mem hk)
    rw [h] at this
    cases this
def rtv (v e : Int) (a : Option Addr) (n c : Nat) : List Value := [.int .i64 v, .int .i64 e, .slice a n c]
theorem RowV.rt3 {w : World} {g : Nat} {v e : Int} {a : Option Addr} {n c : Nat} (h : RowV w g (rtv v e a n c)) : w.cell? ⟨g, 0, none⟩ = some (.int .i64 v) ∧ w.cell? ⟨g, 1, none⟩ = some (.int .i64 e) ∧ w.cell? ⟨g, 2, none⟩ = some (.slice a n c) := ⟨h.cell (k := 0) rfl, h.cell (k := 1) rfl, h.cell (k := 2) rfl⟩
theorem rtv_ne (v e : Int) (a : Option Addr) (n c : Nat) : rtv v e a n c ≠ [] := by simp [rtv]
structure KpRt (w : World) (g : Nat) (v e : Int) (a : Option Addr) (n c : Nat) (rs : List RoleV) (w' : World) : Prop where
  below : Below w.heap.size w w'
  row : RowV w' g (rtv v e a n c)
  rl : RlsAt w' a rs
theorem KpRt.call {w w' w2 : World} {g : Nat} {v e : Int} {a : Option Addr} {n c : Nat} {rs : List RoleV} (h : Hid (KpRt w g v e a n c rs w')) (hb : Below w'.heap.size w' w2) : Hid (KpRt w g v e a n c rs w2) :=
  ⟨h.out.below.trans (hb.mono h.out.below.size), h.out.row.below hb (h.out.row.lt (rtv_ne _ _ _ _ _)), h.out.rl.below hb⟩
set_option maxRecDepth 100000 in
set_option maxHeartbeats 2000000 in
theorem specRootR (v e : Int) (a : Option Addr) (c n : Nat) (rs : List RoleV) (w : World) (hn : rs.length = n) (h : RlsAt w a rs) (hnm : n ≤ maxLen) (hw : ∀ r ∈ rs, RoleW r) :
    Calls Tryz.prog 50 #[.agg #[.int .i64 v, .int .i64 e, .slice a n c]] w fun r w' => r = .returned (.bool (rootB v e rs)) ∧ Below w.heap.size w w' := by
  unfold maxLen at hnm
  have HN : Hid (rs.length = n) := hn
  have HA : Hid (RlsAt w a rs) := h
  have HW : Hid (∀ r ∈ rs, RoleW r) := hw
  have hV : ∀ w0, Calls Tryz.prog 92 #[.int .i64 v] w0 fun r w' => r = .returned (.bool (verB v)) ∧ w0 = w' := fun w0 => specVer v w0
  have hT : ∀ w0, Calls Tryz.prog 48 #[.int .i64 e] w0 fun r w' => r = .returned (.bool (timB e)) ∧ w0 = w' := fun w0 => specTim e w0
  have HR : Hid (rootB v e rs = (verB v && (timB e && (decide (rs.length = 5) && rolesB rs)))) := rfl
  obtain ⟨R, hRR⟩ : ∃ R, rootB v e rs = R := ⟨_, rfl⟩
  rw [hRR] at HR ⊢
  clear h hn hw hRR
  cases hv : verB v with
  | false =>
    have HF : Hid (R = false) := by show _ = _; rw [HR.out, hv]; rfl
    rw [hv] at hV
    clear HR hv hT
    go_enter Tryz.func50, Tryz.ntmps50
    go_wp2_with (first
      | (with_reducible refine wpList_boxV (w := w) (by with_unfolding_all rfl) 40 (.tmp 0) (by with_unfolding_all rfl) (rtv v e a n c) (by with_unfolding_all rfl) ?_; intro w1 hA1 hB1 hS1; obtain ⟨p0, p1, p2⟩ := hA1.rt3; clear hS1)
      | (go_at_call 92; refine (hV _).mono ?_; rintro r w' ⟨rfl, rfl⟩))
    go_ret
    exact ⟨retY HF.out.symm, hB1⟩
  | true =>
  rw [hv] at hV
  cases ht : timB e with
  | false =>
    have HF : Hid (R = false) := by show _ = _; rw [HR.out, hv, ht]; rfl
    rw [ht] at hT
    clear HR hv ht
    go_enter Tryz.func50, Tryz.ntmps50
    go_wp2_with (first
      | (with_reducible refine wpList_boxV (w := w) (by with_unfolding_all rfl) 40 (.tmp 0) (by with_unfolding_all rfl) (rtv v e a n c) (by with_unfolding_all rfl) ?_; intro w1 hA1 hB1 hS1; obtain ⟨p0, p1, p2⟩ := hA1.rt3; clear hS1)
      | (go_at_call 92; refine (hV _).mono ?_; rintro r w' ⟨rfl, rfl⟩)
      | (go_at_call 48; refine (hT _).mono ?_; rintro r w' ⟨rfl, rfl⟩))
    go_ret
    exact ⟨retY HF.out.symm, hB1⟩
  | true =>
  rw [ht] at hT
  by_cases h5 : n = 5
  case neg =>
    have HF : Hid (R = false) := by show _ = _; rw [HR.out, hv, ht, decide_eq_false (by rw [HN.out]; exact h5)]; rfl
    have d5 : ((n : Int) == 5) = false := beq_eq_false_iff_ne.2 (by omega)
    have d5' : ((n : Int) != 5) = true := by simp; omega
    clear HR hv ht h5
    go_enter Tryz.func50, Tryz.ntmps50
    go_wp2_with (first
      | (with_reducible refine wpList_boxV (w := w) (by with_unfolding_all rfl) 40 (.tmp 0) (by with_unfolding_all rfl) (rtv v e a n c) (by with_unfolding_all rfl) ?_; intro w1 hA1 hB1 hS1; obtain ⟨p0, p1, p2⟩ := hA1.rt3; clear hS1)
      | (go_at_call 92; refine (hV _).mono ?_; rintro r w' ⟨rfl, rfl⟩)
      | (go_at_call 48; refine (hT _).mono ?_; rintro r w' ⟨rfl, rfl⟩))
    go_ret
    exact ⟨retY HF.out.symm, hB1⟩
  have HK : Hid (R = rolesB rs) := by show _ = _; rw [HR.out, hv, ht, decide_eq_true (by rw [HN.out]; exact h5)]; rfl
  subst h5
  clear HR hv ht
  go_enter Tryz.func50, Tryz.ntmps50
  go_wp2_with (first
    | (with_reducible refine wpList_boxV (w := w) (by with_unfolding_all rfl) 40 (.tmp 0) (by with_unfolding_all rfl) (rtv v e a 5 c) (by with_unfolding_all rfl) ?_; intro w1 hA1 hB1 hS1; obtain ⟨p0, p1, p2⟩ := hA1.rt3; clear hS1)
    | (go_at_call 92; refine (hV _).mono ?_; rintro r w' ⟨rfl, rfl⟩)
    | (go_at_call 48; refine (hT _).mono ?_; rintro r w' ⟨rfl, rfl⟩))
  have HS : Hid (KpRt w w.heap.size v e a 5 c rs w1) := ⟨hB1, hA1, HA.out.below hB1⟩
  clear hA1 hB1 p0 p1 p2 HA hV hT
  go_loopw [3] (fun vi wr => ∃ k : Nat, vi = .int .i64 (k : Int) ∧ k ≤ 5 ∧ Hid (∀ j (hj : j < rs.length), j < k → roleB rs[j].need rs[j].ks = true) ∧ Hid (KpRt w w.heap.size v e a 5 c rs wr)) (fun vi _ => 5 - (intOf vi).toNat)
  case atStart => exact ⟨0, rfl, Nat.zero_le _, fun j hj h0 => absurd h0 (Nat.not_lt_zero _), HS⟩
  case round =>
    clear HS
    obtain ⟨k, rfl, hk, HT, HS⟩ := hrel
    obtain ⟨p0, p1, p2⟩ := HS.out.row.rt3
    by_cases hlt : k < 5
    case neg =>
      obtain rfl : k = 5 := by omega
      have HF : Hid (R = true) := by show _ = _; rw [HK.out]; exact rolesB_yes (fun j hj => HT.out j hj (by have := HN.out; omega))
      go_wp2
      go_ret
      exact ⟨retY HF.out.symm, HS.out.below⟩
    have hkl : k < rs.length := by have := HN.out; omega
    obtain ⟨b, o, rfl, hc0, hc1, hai⟩ := HS.out.rl k hkl
    obtain ⟨w1, w2, w3⟩ := HW.out rs[k] (List.getElem_mem hkl)
    have lk : (k : Int) < 5 := by omega
    have l0 : (0 : Int) ≤ k := by omega
    have HG : Hid (Calls Tryz.prog 93 #[.agg #[.int .i64 rs[k].need, .slice rs[k].ka rs[k].ks.length rs[k].kc]] wr fun r w' => r = .returned (.bool (roleB rs[k].need rs[k].ks)) ∧ Below wr.heap.size wr w') := specRole rs[k].need rs[k].ka rs[k].kc _ rs[k].ks wr rfl hai w2 w3
    have HYes : Hid (roleB rs[k].need rs[k].ks = true → ∀ j (hj : j < rs.length), j < k + 1 → roleB rs[j].need rs[j].ks = true) := fun h j hj hjk => by
      by_cases hjk2 : j < k
      · exact HT.out j hj hjk2
      · obtain rfl : j = k := by omega
        exact h
    have HNo : Hid (roleB rs[k].need rs[k].ks = false → R = false) := fun h => by rw [HK.out]; exact rolesB_no hkl h
    generalize rs[k].need = nd at *
    generalize rs[k].ka = ka at *
    generalize rs[k].kc = kc at *
    generalize rs[k].ks = ks at *
    obtain ⟨m, hm⟩ : ∃ m, ks.length = m := ⟨_, rfl⟩
    rw [hm] at hc1 HG
    clear hm hai w1 w2 w3 HT
    cases hb : roleB nd ks with
    | false =>
      as_aux_lemma =>
      have HF : Hid (R = false) := HNo.out hb
      rw [hb] at HG
      clear HYes HNo hb
      go_wp2_with (go_at_call 93; refine Calls.mono HG.out ?_; rintro r w5 ⟨rfl, hB5⟩; have HS5 := KpRt.call HS hB5)
      go_ret
      exact ⟨retY HF.out.symm, HS5.out.below⟩
    | true =>
      as_aux_lemma =>
      have HT2 : Hid (∀ j (hj : j < rs.length), j < k + 1 → roleB rs[j].need rs[j].ks = true) := HYes.out hb
      rw [hb] at HG
      clear HYes HNo hb
      go_wp2_with (go_at_call 93; refine Calls.mono HG.out ?_; rintro r w5 ⟨rfl, hB5⟩; have HS5 := KpRt.call HS hB5)
      go_roundw
      case rel => exact ⟨k + 1, by go_num, by omega, HT2, HS5⟩
      case measure => simp [intOf]; omega
end Go.Proofs.YtdfglpbappeoaaaGreatDoor
