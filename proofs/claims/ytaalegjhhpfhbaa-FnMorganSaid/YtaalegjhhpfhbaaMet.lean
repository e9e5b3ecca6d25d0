/- Right versions, times and roles, on the specification's side. -/
import Derived.Test.YtaalegjhhpfhbaaGrp
import Derived.Test.YtaalegjhhpfhbaaToI
import Derived.Test.YtaalegjhhpfhbaaElm
import Derived.Test.YtaalegjhhpfhbaaSRow
namespace Go.Proofs.Ytaalegjhhpfhbaa
open Go.RowKit
set_option linter.unusedVariables false

def verB (n : Int) : Bool := decide (1 ≤ n ∧ n ≤ 1000000)
def timB (n : Int) : Bool := decide (0 ≤ n ∧ n ≤ 1000000000)
theorem specVer (n : Int) (w : World) : Calls Try.prog 86 #[.int .i64 n] w fun e w' => e = .returned (.bool (verB n)) ∧ w = w' := by
  unfold verB
  by_cases h1 : 1 ≤ n
  · have d1 : decide (1 ≤ n) = true := decide_eq_true h1
    by_cases h2 : n ≤ 1000000
    · have d2 : decide (n ≤ 1000000) = true := decide_eq_true h2
      rw [decide_eq_true ⟨h1, h2⟩]
      go_enter Try.func86, Try.ntmps86
      go_wp2
      go_ret
      exact ⟨rfl, rfl⟩
    · have d2 : decide (n ≤ 1000000) = false := decide_eq_false h2
      rw [decide_eq_false (fun h => h2 h.2)]
      go_enter Try.func86, Try.ntmps86
      go_wp2
      go_ret
      exact ⟨rfl, rfl⟩
  · have d1 : decide (1 ≤ n) = false := decide_eq_false h1
    rw [decide_eq_false (fun h => h1 h.1)]
    go_enter Try.func86, Try.ntmps86
    go_wp2
    go_ret
    exact ⟨rfl, rfl⟩
theorem specTim (n : Int) (w : World) : Calls Try.prog 87 #[.int .i64 n] w fun e w' => e = .returned (.bool (timB n)) ∧ w = w' := by
  unfold timB
  by_cases h1 : 0 ≤ n
  · have d1 : decide (0 ≤ n) = true := decide_eq_true h1
    by_cases h2 : n ≤ 1000000000
    · have d2 : decide (n ≤ 1000000000) = true := decide_eq_true h2
      rw [decide_eq_true ⟨h1, h2⟩]
      go_enter Try.func87, Try.ntmps87
      go_wp2
      go_ret
      exact ⟨rfl, rfl⟩
    · have d2 : decide (n ≤ 1000000000) = false := decide_eq_false h2
      rw [decide_eq_false (fun h => h2 h.2)]
      go_enter Try.func87, Try.ntmps87
      go_wp2
      go_ret
      exact ⟨rfl, rfl⟩
  · have d1 : decide (0 ≤ n) = false := decide_eq_false h1
    rw [decide_eq_false (fun h => h1 h.1)]
    go_enter Try.func87, Try.ntmps87
    go_wp2
    go_ret
    exact ⟨rfl, rfl⟩
/- A role: how many are needed, and the keys. -/
def KeyOk (ks : List Int) (k : Nat) : Prop := ∃ h : k < ks.length, grB ks[k] = true ∧ (0 < k → ks.getD (k - 1) 0 < ks[k])
def okKs (ks : List Int) : Bool := ks.all grB && (ks.zip (ks.drop 1)).all (fun x => decide (x.1 < x.2))
def roleB (need : Int) (ks : List Int) : Bool := decide (1 ≤ ks.length ∧ ks.length ≤ 8 ∧ 1 ≤ need ∧ need ≤ (ks.length : Int)) && okKs ks
theorem okKs_yes {ks : List Int} (h : ∀ k, k < ks.length → KeyOk ks k) : okKs ks = true := by
  unfold okKs
  rw [Bool.and_eq_true, List.all_eq_true, List.all_eq_true]
  constructor
  · intro x hx
    obtain ⟨k, hk, rfl⟩ := List.mem_iff_getElem.1 hx
    obtain ⟨_, h1, _⟩ := h k hk
    exact h1
  · intro x hx
    obtain ⟨k, hk, rfl⟩ := List.mem_iff_getElem.1 hx
    rw [List.length_zip, List.length_drop] at hk
    rw [List.getElem_zip, decide_eq_true_eq, List.getElem_drop]
    obtain ⟨h1, _, h3⟩ := h (1 + k) (by omega)
    have h4 := h3 (by omega)
    rw [show 1 + k - 1 = k by omega, List.getD_eq_getElem?_getD, List.getElem?_eq_getElem (by omega)] at h4
    exact h4
theorem okKs_no {ks : List Int} {k : Nat} (hk : k < ks.length) (h : ¬ KeyOk ks k) : okKs ks = false := by
  cases ho : okKs ks with
  | false => rfl
  | true =>
    exfalso
    unfold okKs at ho
    rw [Bool.and_eq_true, List.all_eq_true, List.all_eq_true] at ho
    refine h ⟨hk, ho.1 _ (List.getElem_mem hk), fun h0 => ?_⟩
    have hz : k - 1 < (ks.zip (ks.drop 1)).length := by rw [List.length_zip, List.length_drop]; omega
    have := ho.2 _ (List.getElem_mem hz)
    rw [List.getElem_zip, decide_eq_true_eq, List.getElem_drop] at this
    rw [List.getD_eq_getElem?_getD, List.getElem?_eq_getElem (by omega)]
    have e : ks[1 + (k - 1)]'(by omega) = ks[k] := by congr 1; omega
    rw [e] at this
    exact this
def rlv (need : Int) (a : Option Addr) (n c : Nat) : List Value := [.int .i64 need, .slice a n c]
theorem RowV.rl {w : World} {g : Nat} {need : Int} {a : Option Addr} {n c : Nat} (h : RowV w g (rlv need a n c)) : w.cell? ⟨g, 0, none⟩ = some (.int .i64 need) ∧ w.cell? ⟨g, 1, none⟩ = some (.slice a n c) := ⟨h.cell (k := 0) rfl, h.cell (k := 1) rfl⟩
structure KpRl (w : World) (g : Nat) (need : Int) (a : Option Addr) (n c : Nat) (ks : List Int) (w' : World) : Prop where
  below : Below w.heap.size w w'
  v : RowV w' g (rlv need a n c)
  ai : AI w' a ks
theorem KpRl.drewN {w w' : World} {g : Nat} {need : Int} {a : Option Addr} {n c : Nat} {ks : List Int} (h : Hid (KpRl w g need a n c ks w')) (k : Nat) : Hid (KpRl w g need a n c ks (w'.drewN k)) := ⟨belowN h.out.below k, h.out.v.drewN k, h.out.ai⟩
set_option maxRecDepth 100000 in
set_option maxHeartbeats 2000000 in
theorem specRole (need : Int) (a : Option Addr) (c n : Nat) (ks : List Int) (w : World) (hn : ks.length = n) (h : AI w a ks) (hnm : n ≤ maxLen) (hw : ∀ x ∈ ks, I64 x) :
    Calls Try.prog 139 #[.agg #[.int .i64 need, .slice a n c]] w fun e w' => e = .returned (.bool (roleB need ks)) ∧ Below w.heap.size w w' := by
  unfold maxLen at hnm
  have HN : Hid (ks.length = n) := hn
  have HA : Hid (AI w a ks) := h
  have HW : Hid (∀ x ∈ ks, I64 x) := hw
  have HR : Hid (¬ (1 ≤ ks.length ∧ ks.length ≤ 8 ∧ 1 ≤ need ∧ need ≤ (ks.length : Int)) → roleB need ks = false) := fun h => by unfold roleB; rw [decide_eq_false h]; rfl
  have HR2 : Hid ((1 ≤ ks.length ∧ ks.length ≤ 8 ∧ 1 ≤ need ∧ need ≤ (ks.length : Int)) → roleB need ks = okKs ks) := fun h => by unfold roleB; rw [decide_eq_true h]; rfl
  obtain ⟨R, hRR⟩ : ∃ R, roleB need ks = R := ⟨_, rfl⟩
  rw [hRR] at HR HR2 ⊢
  clear h hn hw hRR
  by_cases c1 : n < 1
  · have d1 : decide ((n : Int) < 1) = true := decide_eq_true (by omega)
    have HF : Hid (R = false) := HR.out (by rw [HN.out]; omega)
    go_enter Try.func139, Try.ntmps139
    go_wp2_with (first
      | (with_reducible refine wpList_boxV (w := w) (by with_unfolding_all rfl) 134 (.tmp 0) (by with_unfolding_all rfl) (rlv need a n c) (by with_unfolding_all rfl) ?_; intro w1 hA1 hB1 hS1; obtain ⟨p0, p1⟩ := hA1.rl; clear hS1))
    go_ret
    exact ⟨retY HF.out.symm, hB1⟩
  have d1 : decide ((n : Int) < 1) = false := decide_eq_false (by omega)
  by_cases c2 : 8 < n
  · have d2 : decide ((8 : Int) < (n : Int)) = true := decide_eq_true (by omega)
    have HF : Hid (R = false) := HR.out (by rw [HN.out]; omega)
    go_enter Try.func139, Try.ntmps139
    go_wp2_with (first
      | (with_reducible refine wpList_boxV (w := w) (by with_unfolding_all rfl) 134 (.tmp 0) (by with_unfolding_all rfl) (rlv need a n c) (by with_unfolding_all rfl) ?_; intro w1 hA1 hB1 hS1; obtain ⟨p0, p1⟩ := hA1.rl; clear hS1))
    go_ret
    exact ⟨retY HF.out.symm, hB1⟩
  have d2 : decide ((8 : Int) < (n : Int)) = false := decide_eq_false (by omega)
  by_cases c3 : need < 1
  · have d3 : decide (need < 1) = true := decide_eq_true c3
    have HF : Hid (R = false) := HR.out (by omega)
    go_enter Try.func139, Try.ntmps139
    go_wp2_with (first
      | (with_reducible refine wpList_boxV (w := w) (by with_unfolding_all rfl) 134 (.tmp 0) (by with_unfolding_all rfl) (rlv need a n c) (by with_unfolding_all rfl) ?_; intro w1 hA1 hB1 hS1; obtain ⟨p0, p1⟩ := hA1.rl; clear hS1))
    go_ret
    exact ⟨retY HF.out.symm, hB1⟩
  have d3 : decide (need < 1) = false := decide_eq_false c3
  by_cases c4 : (n : Int) < need
  · have d4 : decide ((n : Int) < need) = true := decide_eq_true c4
    have HF : Hid (R = false) := HR.out (by rw [HN.out]; omega)
    go_enter Try.func139, Try.ntmps139
    go_wp2_with (first
      | (with_reducible refine wpList_boxV (w := w) (by with_unfolding_all rfl) 134 (.tmp 0) (by with_unfolding_all rfl) (rlv need a n c) (by with_unfolding_all rfl) ?_; intro w1 hA1 hB1 hS1; obtain ⟨p0, p1⟩ := hA1.rl; clear hS1))
    go_ret
    exact ⟨retY HF.out.symm, hB1⟩
  have d4 : decide ((n : Int) < need) = false := decide_eq_false c4
  have HK : Hid (R = okKs ks) := HR2.out (by rw [HN.out]; omega)
  clear HR HR2
  go_enter Try.func139, Try.ntmps139
  go_wp2_with (first
    | (with_reducible refine wpList_boxV (w := w) (by with_unfolding_all rfl) 134 (.tmp 0) (by with_unfolding_all rfl) (rlv need a n c) (by with_unfolding_all rfl) ?_; intro w1 hA1 hB1 hS1; obtain ⟨p0, p1⟩ := hA1.rl; clear hS1))
  have HS : Hid (KpRl w w.heap.size need a n c ks w1) := ⟨hB1, hA1, HA.out.below hB1⟩
  clear hA1 hB1 p0 p1 HA d1 d2 d3 d4
  go_loopw [3] (fun vi wr => ∃ k : Nat, vi = .int .i64 (k : Int) ∧ k ≤ n ∧ Hid (∀ j, j < k → KeyOk ks j) ∧ Hid (KpRl w w.heap.size need a n c ks wr)) (fun vi _ => n - (intOf vi).toNat)
  case atStart => exact ⟨0, rfl, Nat.zero_le _, fun j hj => absurd hj (Nat.not_lt_zero _), HS⟩
  case round =>
    clear HS
    obtain ⟨k, rfl, hk, HT, HS⟩ := hrel
    obtain ⟨p0, p1⟩ := HS.out.v.rl
    by_cases hlt : k < n
    case neg =>
      obtain rfl : k = n := by omega
      have HF : Hid (R = true) := by show _ = _; rw [HK.out]; exact okKs_yes (fun j hj => HT.out j (by have := HN.out; omega))
      go_wp2
      go_ret
      exact ⟨retY HF.out.symm, HS.out.below⟩
    have hkl : k < ks.length := by have := HN.out; omega
    obtain ⟨b, o, rfl, hc⟩ := HS.out.ai k hkl
    have hix := HW.out ks[k] (List.getElem_mem hkl)
    have lk : (k : Int) < n := by omega
    have l0 : (0 : Int) ≤ k := by omega
    have hG : ∀ w0, Calls Try.prog 157 #[.int .i64 ks[k]] w0 fun e w' => e = .returned (.bool (grB ks[k])) ∧ w' = w0 := fun w0 => specGRight ks[k] w0 hix
    have HKo : Hid (∀ h : grB ks[k] = true, (0 < k → ks.getD (k - 1) 0 < ks[k]) → ∀ j, j < k + 1 → KeyOk ks j) := fun h1 h2 j hj => by
      by_cases hjk : j < k
      · exact HT.out j hjk
      · obtain rfl : j = k := by omega
        exact ⟨hkl, h1, h2⟩
    have HNo : Hid (¬ (grB ks[k] = true ∧ (0 < k → ks.getD (k - 1) 0 < ks[k])) → R = false) := fun h => by
      rw [HK.out]
      exact okKs_no hkl (fun ⟨_, h1, h2⟩ => h ⟨h1, h2⟩)
    cases hg : grB ks[k] with
    | false =>
      as_aux_lemma =>
      have HF : Hid (R = false) := HNo.out (fun h => by rw [hg] at h; cases h.1)
      rw [hg] at hG
      generalize ks[k] = z at *
      clear HKo HNo HT hg
      go_wp2_with fail
      go_quiet (first | (go_at_call 157; exact Calls.quiet_of_same (hG _)))
      go_wp2
      go_ret
      exact ⟨retY HF.out.symm, belowN HS.out.below _⟩
    | true =>
    rw [hg] at hG
    by_cases hk0 : k = 0
    · as_aux_lemma =>
      subst hk0
      rw [Nat.add_zero] at hc
      have HT2 : Hid (∀ j, j < 1 → KeyOk ks j) := HKo.out hg (fun h => by omega)
      generalize ks[0] = z at *
      clear HKo HNo HT hg
      go_wp2_with fail
      go_quiet (first | (go_at_call 157; exact Calls.quiet_of_same (hG _)))
      go_wp2
      go_roundw
      case rel => exact ⟨1, rfl, by omega, HT2, KpRl.drewN HS _⟩
      case measure => simp [intOf]; omega
    have d5 : decide ((0 : Int) < (k : Int)) = true := decide_eq_true (by omega)
    have d6 : decide (0 < k) = true := decide_eq_true (by omega)
    obtain ⟨k1, hk1⟩ : ∃ k1, k - 1 = k1 := ⟨_, rfl⟩
    have ek : (k : Int) - 1 = (k1 : Int) := by omega
    have hk1l : k1 < ks.length := by omega
    obtain ⟨b', o', hb', hc'⟩ := HS.out.ai k1 hk1l
    injection hb' with hb'
    injection hb' with e1 e2
    subst e1 e2
    have hgd : ks.getD (k - 1) 0 = ks[k1] := by rw [hk1, List.getD_eq_getElem?_getD, List.getElem?_eq_getElem hk1l]; rfl
    rw [hgd] at HKo HNo
    have lk1 : (k1 : Int) < n := by omega
    have l01 : (0 : Int) ≤ k1 := by omega
    by_cases hlt2 : ks[k1] < ks[k]
    · as_aux_lemma =>
      have HT2 : Hid (∀ j, j < k + 1 → KeyOk ks j) := HKo.out hg (fun _ => hlt2)
      have d7 : decide (ks[k] ≤ ks[k1]) = false := decide_eq_false (by omega)
      generalize ks[k] = z at *
      generalize ks[k1] = z1 at *
      clear HKo HNo HT hg hgd
      go_wp2_with fail
      go_quiet (first | (go_at_call 157; exact Calls.quiet_of_same (hG _)))
      go_wp2
      go_roundw
      case rel => exact ⟨k + 1, by go_num, by omega, HT2, KpRl.drewN HS _⟩
      case measure => simp [intOf]; omega
    · as_aux_lemma =>
      have HF : Hid (R = false) := HNo.out (fun h => hlt2 (h.2 (by omega)))
      have d7 : decide (ks[k] ≤ ks[k1]) = true := decide_eq_true (by omega)
      generalize ks[k] = z at *
      generalize ks[k1] = z1 at *
      clear HKo HNo HT hg hgd
      go_wp2_with fail
      go_quiet (first | (go_at_call 157; exact Calls.quiet_of_same (hG _)))
      go_wp2
      go_ret
      exact ⟨retY HF.out.symm, belowN HS.out.below _⟩
end Go.Proofs.Ytaalegjhhpfhbaa
