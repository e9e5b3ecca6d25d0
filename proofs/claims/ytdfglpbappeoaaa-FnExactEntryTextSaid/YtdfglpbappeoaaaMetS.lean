/- What is signed, on the specification's side: its signatures lie in a row of three cells each. -/
import Derived.Test.YtdfglpbappeoaaaMetB
import Derived.Test.YtdfglpbappeoaaaSigR
namespace Go.Proofs.Ytdfglpbappeoaaa
open Go.RowKit
set_option linter.unusedVariables false

structure SigV where
  k : Int
  e : Int
  s : Int
def SigV.ok (x : SigV) : Bool := sigB x.k x.e x.s
def SigV.w (x : SigV) : Prop := I64 x.k ∧ I64 x.e ∧ I64 x.s
def SgsAt (w : World) (a : Option Addr) (l : List SigV) : Prop := ∀ i (h : i < l.length), ∃ b o, a = some ⟨b, o, none⟩ ∧ w.cell? ⟨b, o + i * 3, none⟩ = some (.int .i64 l[i].k) ∧ w.cell? ⟨b, o + i * 3 + 1, none⟩ = some (.int .i64 l[i].e) ∧ w.cell? ⟨b, o + i * 3 + 2, none⟩ = some (.int .i64 l[i].s)
theorem SgsAt.below {w w' : World} {a : Option Addr} {l : List SigV} (h : SgsAt w a l) (hb : Below w.heap.size w w') : SgsAt w' a l := fun i hi => by
  obtain ⟨b, o, h1, h2, h3, h4⟩ := h i hi
  exact ⟨b, o, h1, (hb.cell (p := ⟨b, o + i * 3, none⟩) (cellLt h2)).trans h2, (hb.cell (p := ⟨b, o + i * 3 + 1, none⟩) (cellLt h3)).trans h3, (hb.cell (p := ⟨b, o + i * 3 + 2, none⟩) (cellLt h4)).trans h4⟩
def signedB (t : ByteArray) (l : List SigV) : Bool := decide (t.size ≤ 8000 ∧ l.length ≤ 16) && l.all SigV.ok
theorem sigs_yes {l : List SigV} (h : ∀ k (hk : k < l.length), l[k].ok = true) : l.all SigV.ok = true := by
  rw [List.all_eq_true]
  intro x hx
  obtain ⟨k, hk, rfl⟩ := List.mem_iff_getElem.1 hx
  exact h k hk
theorem sigs_no {l : List SigV} {k : Nat} (hk : k < l.length) (h : l[k].ok = false) : l.all SigV.ok = false := by
  cases ho : l.all SigV.ok with
  | false => rfl
  | true =>
    rw [List.all_eq_true] at ho
    have := ho _ (List.getElem_mem hk)
    rw [h] at this
    cases this
def sgv (t : ByteArray) (a : Option Addr) (n c : Nat) : List Value := [.string t, .slice a n c]
theorem RowV.sg {w : World} {g : Nat} {t : ByteArray} {a : Option Addr} {n c : Nat} (h : RowV w g (sgv t a n c)) : w.cell? ⟨g, 0, none⟩ = some (.string t) ∧ w.cell? ⟨g, 1, none⟩ = some (.slice a n c) := ⟨h.cell (k := 0) rfl, h.cell (k := 1) rfl⟩
theorem sgv_ne (t : ByteArray) (a : Option Addr) (n c : Nat) : sgv t a n c ≠ [] := by simp [sgv]
structure KpSg (w : World) (g : Nat) (t : ByteArray) (a : Option Addr) (n c : Nat) (l : List SigV) (w' : World) : Prop where
  below : Below w.heap.size w w'
  row : RowV w' g (sgv t a n c)
  sg : SgsAt w' a l
theorem KpSg.start {w w' : World} {g : Nat} {t : ByteArray} {a : Option Addr} {n c : Nat} {l : List SigV} (h : Hid (SgsAt w a l)) (h1 : Below w.heap.size w w') (h2 : RowV w' g (sgv t a n c)) : Hid (KpSg w g t a n c l w') := ⟨h1, h2, h.out.below h1⟩
theorem KpSg.call {w w' w2 : World} {g : Nat} {t : ByteArray} {a : Option Addr} {n c : Nat} {l : List SigV} (h : Hid (KpSg w g t a n c l w')) (hb : Below w'.heap.size w' w2) : Hid (KpSg w g t a n c l w2) :=
  ⟨h.out.below.trans (hb.mono h.out.below.size), h.out.row.below hb (h.out.row.lt (sgv_ne _ _ _ _)), h.out.sg.below hb⟩
theorem KpSg.drew {w w' : World} {g : Nat} {t : ByteArray} {a : Option Addr} {n c : Nat} {l : List SigV} (h : Hid (KpSg w g t a n c l w')) : Hid (KpSg w g t a n c l w'.drew) := ⟨h.out.below.drew, h.out.row.drew, h.out.sg⟩
theorem KpSg.two {w w' : World} {g : Nat} {t : ByteArray} {a : Option Addr} {n c : Nat} {l : List SigV} (h : Hid (KpSg w g t a n c l w')) : w'.cell? ⟨g, 0, none⟩ = some (.string t) ∧ w'.cell? ⟨g, 1, none⟩ = some (.slice a n c) ∧ Hid (KpSg w g t a n c l w') := ⟨h.out.row.sg.1, h.out.row.sg.2, h⟩
set_option maxRecDepth 100000 in
set_option maxHeartbeats 2000000 in
theorem specSigned (t : ByteArray) (a : Option Addr) (c n : Nat) (l : List SigV) (w : World) (hn : l.length = n) (h : SgsAt w a l) (hnm : n ≤ maxLen) (hts : t.size ≤ maxLen) (hw : ∀ x ∈ l, x.w) :
    Calls Try.prog 89 #[.agg #[.string t, .slice a n c]] w fun r w' => r = .returned (.bool (signedB t l)) ∧ Below w.heap.size w w' := by
  unfold maxLen at hnm hts
  have HN : Hid (l.length = n) := hn
  have HA : Hid (SgsAt w a l) := h
  have HW : Hid (∀ x ∈ l, x.w) := hw
  have HR : Hid (¬ (t.size ≤ 8000 ∧ l.length ≤ 16) → signedB t l = false) := fun h => by unfold signedB; rw [decide_eq_false h]; rfl
  have HR2 : Hid ((t.size ≤ 8000 ∧ l.length ≤ 16) → signedB t l = l.all SigV.ok) := fun h => by unfold signedB; rw [decide_eq_true h]; rfl
  obtain ⟨R, hRR⟩ : ∃ R, signedB t l = R := ⟨_, rfl⟩
  rw [hRR] at HR HR2 ⊢
  clear h hn hw hRR
  by_cases c1 : 8000 < t.size
  · have d1 : decide ((8000 : Int) < (t.size : Int)) = true := decide_eq_true (by omega)
    have HF : Hid (R = false) := HR.out (by omega)
    go_enter Try.func89, Try.ntmps89
    go_wp2_with (first
      | (with_reducible refine wpList_boxV (w := w) (by with_unfolding_all rfl) 67 (.tmp 0) (by with_unfolding_all rfl) (sgv t a n c) (by with_unfolding_all rfl) ?_; intro w1 hA1 hB1 hS1; obtain ⟨p0, p1⟩ := hA1.sg; clear hS1))
    go_ret
    exact ⟨retY HF.out.symm, hB1⟩
  have d1 : decide ((8000 : Int) < (t.size : Int)) = false := decide_eq_false (by omega)
  by_cases c2 : 16 < n
  · have d2 : decide ((16 : Int) < (n : Int)) = true := decide_eq_true (by omega)
    have HF : Hid (R = false) := HR.out (by rw [HN.out]; omega)
    go_enter Try.func89, Try.ntmps89
    go_wp2_with (first
      | (with_reducible refine wpList_boxV (w := w) (by with_unfolding_all rfl) 67 (.tmp 0) (by with_unfolding_all rfl) (sgv t a n c) (by with_unfolding_all rfl) ?_; intro w1 hA1 hB1 hS1; obtain ⟨p0, p1⟩ := hA1.sg; clear hS1))
    go_ret
    exact ⟨retY HF.out.symm, hB1⟩
  have d2 : decide ((16 : Int) < (n : Int)) = false := decide_eq_false (by omega)
  have HK : Hid (R = l.all SigV.ok) := HR2.out (by rw [HN.out]; omega)
  clear HR HR2
  go_enter Try.func89, Try.ntmps89
  go_wp2_with (first
    | (with_reducible refine wpList_boxV (w := w) (by with_unfolding_all rfl) 67 (.tmp 0) (by with_unfolding_all rfl) (sgv t a n c) (by with_unfolding_all rfl) ?_; intro w1 hA1 hB1 hS1; obtain ⟨p0, p1⟩ := hA1.sg; clear hS1))
  have HS := KpSg.start HA hB1 hA1
  clear hA1 hB1 p0 p1 HA d1 d2
  go_loopw [3] (fun vi wr => ∃ k : Nat, vi = .int .i64 (k : Int) ∧ k ≤ n ∧ Hid (∀ j (hj : j < l.length), j < k → l[j].ok = true) ∧ Hid (KpSg w w.heap.size t a n c l wr)) (fun vi _ => n - (intOf vi).toNat)
  case atStart => exact ⟨0, rfl, Nat.zero_le _, fun j hj h0 => absurd h0 (Nat.not_lt_zero _), HS⟩
  case round =>
    clear HS
    obtain ⟨k, rfl, hk, HT, HS⟩ := hrel
    obtain ⟨p0, p1⟩ := HS.out.row.sg
    by_cases hlt : k < n
    case neg =>
      obtain rfl : k = n := by omega
      have HF : Hid (R = true) := by show _ = _; rw [HK.out]; exact sigs_yes (fun j hj => HT.out j hj (by have := HN.out; omega))
      go_wp2
      go_ret
      exact ⟨retY HF.out.symm, HS.out.below⟩
    have hkl : k < l.length := by have := HN.out; omega
    obtain ⟨b, o, rfl, hc0, hc1, hc2⟩ := HS.out.sg k hkl
    obtain ⟨x1, x2, x3⟩ := HW.out l[k] (List.getElem_mem hkl)
    have lk : (k : Int) < n := by omega
    have l0 : (0 : Int) ≤ k := by omega
    have HG : Hid (Calls Try.prog 129 #[SVal l[k].k l[k].e l[k].s] wr fun r w' => r = .returned (.bool l[k].ok) ∧ Below wr.heap.size wr w') := specSigR l[k].k l[k].e l[k].s wr x1
    have HYes : Hid (l[k].ok = true → ∀ j (hj : j < l.length), j < k + 1 → l[j].ok = true) := fun h j hj hjk => by
      by_cases hjk2 : j < k
      · exact HT.out j hj hjk2
      · obtain rfl : j = k := by omega
        exact h
    have HNo : Hid (l[k].ok = false → R = false) := fun h => by rw [HK.out]; exact sigs_no hkl h
    obtain ⟨ob, hob⟩ : ∃ ob, l[k].ok = ob := ⟨_, rfl⟩
    rw [hob] at HG HYes HNo
    generalize l[k].k = z0 at *
    generalize l[k].e = z1 at *
    generalize l[k].s = z2 at *
    clear hob x1 x2 x3 HT
    cases ob with
    | false =>
      as_aux_lemma =>
      have HF : Hid (R = false) := HNo.out rfl
      clear HYes HNo
      go_wp2_with (go_at_call 129; refine Calls.mono HG.out ?_; rintro r w5 ⟨rfl, hB5⟩; have HS5 := KpSg.call HS hB5)
      go_ret
      exact ⟨retY HF.out.symm, HS5.out.below⟩
    | true =>
      as_aux_lemma =>
      have HT2 : Hid (∀ j (hj : j < l.length), j < k + 1 → l[j].ok = true) := HYes.out rfl
      clear HYes HNo
      go_wp2_with (go_at_call 129; refine Calls.mono HG.out ?_; rintro r w5 ⟨rfl, hB5⟩; have HS5 := KpSg.call HS hB5)
      go_roundw
      case rel => exact ⟨k + 1, by go_num, by omega, HT2, HS5⟩
      case measure => simp [intOf]; omega
end Go.Proofs.Ytdfglpbappeoaaa
