/- What stands in a trust, as links (chain), and whether it stands (standing): on the program's side. -/
import Derived.Test.YtdfglpbappeoaabDoorErC
import Derived.Test.YtdfglpbappeoaabDoorTrA
import Derived.Great.FillDense
import Derived.Great.BuildSlice
namespace Go.Proofs.YtdfglpbappeoaabDoor
open Go.RowKit
set_option linter.unusedVariables false

structure LkV where
  v : Int
  e : Int
  x : Int
def LksAt (w : World) (a : Option Addr) (l : List LkV) : Prop := ∀ i (h : i < l.length), ∃ b o, a = some ⟨b, o, none⟩ ∧ w.cell? ⟨b, o + i * 3, none⟩ = some (.int .i64 l[i].v) ∧ w.cell? ⟨b, o + i * 3 + 1, none⟩ = some (.int .i64 l[i].e) ∧ w.cell? ⟨b, o + i * 3 + 2, none⟩ = some (.int .i64 l[i].x)
theorem LksAt.below {w w' : World} {a : Option Addr} {l : List LkV} (h : LksAt w a l) (hb : Below w.heap.size w w') : LksAt w' a l := fun i hi => by
  obtain ⟨b, o, h1, h2, h3, h4⟩ := h i hi
  exact ⟨b, o, h1, (hb.cell (p := ⟨b, o + i * 3, none⟩) (cellLt h2)).trans h2, (hb.cell (p := ⟨b, o + i * 3 + 1, none⟩) (cellLt h3)).trans h3, (hb.cell (p := ⟨b, o + i * 3 + 2, none⟩) (cellLt h4)).trans h4⟩
def zV (l : List LkV) : Bool := l.any fun x => decide (x.v = 0)
def eV (l : List LkV) (now : Int) : Bool := l.any fun x => decide (x.e ≤ now)
def nV (l : List LkV) : Bool := (List.range l.length).any fun i => decide (2 ≤ i) && !decide ((l.getD i ⟨0, 0, 0⟩).v = (l.getD (i - 1) ⟨0, 0, 0⟩).x)
def stC (l : List LkV) (now : Int) : Int := if zV l then 9 else if nV l then 7 else if eV l now then 8 else 0
def errV (E : ErV) (c : Int) : Value := if c = 9 then errP E.no else if c = 7 then errP E.ve else if c = 8 then errP E.ex else .nilIface
theorem any_yes {l : List LkV} {p : LkV → Bool} {k : Nat} (hk : k < l.length) (h : p l[k] = true) : l.any p = true := List.any_eq_true.2 ⟨_, List.getElem_mem hk, h⟩
theorem any_no {l : List LkV} {p : LkV → Bool} (h : ∀ k (hk : k < l.length), p l[k] = false) : l.any p = false := by
  cases ho : l.any p with
  | false => rfl
  | true =>
    obtain ⟨x, hx, hp⟩ := List.any_eq_true.1 ho
    obtain ⟨k, hk, rfl⟩ := List.mem_iff_getElem.1 hx
    rw [h k hk] at hp
    cases hp
theorem nV_yes {l : List LkV} {k k1 : Nat} (hk : k < l.length) (h2 : 2 ≤ k) (h1 : k1 < l.length) (e1 : k - 1 = k1) (h : ¬ l[k].v = l[k1].x) : nV l = true := by
  refine List.any_eq_true.2 ⟨k, List.mem_range.2 hk, ?_⟩
  rw [e1, List.getD_eq_getElem?_getD, List.getD_eq_getElem?_getD, List.getElem?_eq_getElem hk, List.getElem?_eq_getElem h1, decide_eq_true h2]
  show (true && !decide (l[k].v = l[k1].x)) = true
  rw [decide_eq_false h]
  rfl
theorem nV_no {l : List LkV} (h : ∀ k, 2 ≤ k → ∀ (hk : k < l.length) (h1 : k - 1 < l.length), l[k].v = l[k - 1].x) : nV l = false := by
  cases ho : nV l with
  | false => rfl
  | true =>
    obtain ⟨k, hk, hp⟩ := List.any_eq_true.1 ho
    rw [List.mem_range] at hk
    rw [Bool.and_eq_true, decide_eq_true_eq] at hp
    have := h k hp.1 hk (by omega)
    rw [List.getD_eq_getElem?_getD, List.getD_eq_getElem?_getD, List.getElem?_eq_getElem hk, List.getElem?_eq_getElem (show k - 1 < l.length by omega)] at hp
    have h2 := hp.2
    change (!decide (l[k].v = l[k - 1].x)) = true at h2
    rw [decide_eq_true this] at h2
    cases h2
structure KpLk3 (E : ErV) (w : World) (a : Option Addr) (l : List LkV) (w' : World) : Prop where
  below : Below w.heap.size w w'
  lk : LksAt w' a l
  er : Ers E w'
theorem KpLk3.call {E : ErV} {w w' w2 : World} {a : Option Addr} {l : List LkV} (h : Hid (KpLk3 E w a l w')) (hb : Below w'.heap.size w' w2) : Hid (KpLk3 E w a l w2) := ⟨h.out.below.trans (hb.mono h.out.below.size), h.out.lk.below hb, h.out.er.below hb⟩
theorem KpLk3.drewN {E : ErV} {w w' : World} {a : Option Addr} {l : List LkV} (h : Hid (KpLk3 E w a l w')) (n : Nat) : Hid (KpLk3 E w a l (w'.drewN n)) := ⟨belowN h.out.below n, h.out.lk, h.out.er.drewN n⟩
theorem KpLk3.errs {E : ErV} {w w' : World} {a : Option Addr} {l : List LkV} (h : Hid (KpLk3 E w a l w')) : w'.cell? ⟨3, 0, none⟩ = some (.iface 200 (.pointer (some E.ve))) ∧ w'.cell? ⟨4, 0, none⟩ = some (.iface 200 (.pointer (some E.ex))) ∧ w'.cell? ⟨5, 0, none⟩ = some (.iface 200 (.pointer (some E.no))) := ⟨h.out.er.ve.1, h.out.er.ex.1, h.out.er.no.1⟩
set_option maxRecDepth 100000 in
set_option maxHeartbeats 4000000 in
theorem standI (E : ErV) (a : Option Addr) (c n : Nat) (l : List LkV) (now : Int) (w : World) (hn : l.length = n) (h : LksAt w a l) (hE : Ers E w) (hm : n ≤ 1000) :
    Calls Tryd.prog 78 #[.slice a n c, .int .i64 now] w fun e w' => e = .returned (errV E (stC l now)) ∧ Below w.heap.size w w' := by
  have HS0 : Hid (KpLk3 E w a l w) := ⟨Below.refl _ _, h, hE⟩
  have HN : Hid (l.length = n) := hn
  have H9 : Hid (zV l = true → stC l now = 9) := fun h => if_pos h
  have H7 : Hid (zV l = false → nV l = true → stC l now = 7) := fun h1 h2 => by unfold stC; rw [h1, h2]; rfl
  have H8 : Hid (zV l = false → nV l = false → eV l now = true → stC l now = 8) := fun h1 h2 h3 => by unfold stC; rw [h1, h2, h3]; rfl
  have H0 : Hid (zV l = false → nV l = false → eV l now = false → stC l now = 0) := fun h1 h2 h3 => by unfold stC; rw [h1, h2, h3]; rfl
  obtain ⟨R, hR⟩ : ∃ R, stC l now = R := ⟨_, rfl⟩
  rw [hR] at H9 H7 H8 H0 ⊢
  clear hR hn h hE
  go_enter Tryd.func78, Tryd.ntmps78
  go_wp2_with fail
  go_loopw [12] (fun i wr => ∃ k : Nat, i = .int .i64 (k : Int) ∧ k ≤ n ∧ Hid (∀ j (hj : j < l.length), j < k → ¬ l[j].v = 0) ∧ Hid (KpLk3 E w a l wr)) (fun i _ => n - (intOf i).toNat)
  case atStart => exact ⟨0, rfl, Nat.zero_le _, fun j hj h0 => absurd h0 (Nat.not_lt_zero _), HS0⟩
  case round =>
    clear HS0
    obtain ⟨k, rfl, hk, HT, HS⟩ := hrel
    by_cases hlt : k < n
    case pos =>
      have k1 : k < l.length := by have := HN.out; omega
      obtain ⟨b, o, rfl, c0, c1, c2⟩ := HS.out.lk k k1
      have HY : Hid (l[k].v = 0 → R = 9) := fun h => H9.out (any_yes k1 (decide_eq_true h))
      have HNx : Hid (¬ l[k].v = 0 → ∀ j (hj : j < l.length), j < k + 1 → ¬ l[j].v = 0) := fun h j hj hjk => by
        by_cases hjk2 : j < k
        · exact HT.out j hj hjk2
        · obtain rfl : j = k := by omega
          exact h
      generalize l[k].v = x at *
      generalize l[k].e = y at *
      generalize l[k].x = z at *
      have lk : (k : Int) < n := by omega
      have l0 : (0 : Int) ≤ k := by omega
      have HSA := KpLk3.call HS (below_alloc _ (.cells #[.int .i64 x, .int .i64 y, .int .i64 z] 60))
      obtain ⟨_, _, p9⟩ := KpLk3.errs HSA
      clear k1 HT
      by_cases hx : x = 0
      · as_aux_lemma =>
        have HF : Hid (R = 9) := HY.out hx
        have f1 : (x == 0) = true := by simp [hx]
        clear HY HNx hx
        go_wp2_with fail
        go_ret
        exact ⟨by rw [HF.out]; rfl, HSA.out.below⟩
      · as_aux_lemma =>
        have HT3 : Hid (∀ j (hj : j < l.length), j < k + 1 → ¬ l[j].v = 0) := HNx.out hx
        have f1 : (x == 0) = false := beq_eq_false_iff_ne.2 hx
        clear HY HNx hx
        go_wp2_with fail
        go_roundw
        case rel => exact ⟨k + 1, by go_num, hlt, HT3, HSA⟩
        case measure => simp [intOf]; omega
    obtain rfl : k = n := by omega
    have HZ : Hid (zV l = false) := any_no fun j hj => decide_eq_false (HT.out j hj (by have := HN.out; omega))
    clear HT hlt hk
    go_wp2_with fail
    go_loopw [7] (fun i wr => ∃ i0 : Nat, i = .int .i64 (i0 : Int) ∧ 2 ≤ i0 ∧ i0 ≤ max 2 k ∧ Hid (∀ j, 2 ≤ j → j < i0 → ∀ (hj : j < l.length) (h1 : j - 1 < l.length), l[j].v = l[j - 1].x) ∧ Hid (KpLk3 E w a l wr)) (fun i _ => k - (intOf i).toNat)
    case atStart => exact ⟨2, rfl, Nat.le_refl _, Nat.le_max_left _ _, fun j hj h0 => absurd h0 (by omega), HS⟩
    case round =>
    clear HS
    obtain ⟨i, rfl, hi2, hik, HT, HS⟩ := hrel
    by_cases hlt : i < k
    case pos =>
      have k1 : i < l.length := by have := HN.out; omega
      obtain ⟨i1, hi1⟩ : ∃ i1, i - 1 = i1 := ⟨_, rfl⟩
      have k2 : i1 < l.length := by have := HN.out; omega
      obtain ⟨b, o, rfl, c0, c1, c2⟩ := HS.out.lk i k1
      obtain ⟨b', o', hb', d0, d1, d2⟩ := HS.out.lk i1 k2
      injection hb' with hb'
      injection hb' with e1 e2
      subst e1 e2
      have HY : Hid (¬ l[i].v = l[i1].x → R = 7) := fun h => H7.out HZ.out (nV_yes k1 hi2 k2 hi1 h)
      have HNx : Hid (l[i].v = l[i1].x → ∀ j, 2 ≤ j → j < i + 1 → ∀ (hj : j < l.length) (h1 : j - 1 < l.length), l[j].v = l[j - 1].x) := fun h j h2 hj hj1 hj2 => by
        by_cases hjk2 : j < i
        · exact HT.out j h2 hjk2 hj1 hj2
        · obtain rfl : j = i := by omega
          subst hi1
          exact h
      generalize l[i].v = x at *
      generalize l[i].e = y at *
      generalize l[i].x = z at *
      generalize l[i1].v = x' at *
      generalize l[i1].e = y' at *
      generalize l[i1].x = z' at *
      have ek : (i : Int) - 1 = (i1 : Int) := by omega
      have lk : (i : Int) < k := by omega
      have l0 : (0 : Int) ≤ i := by omega
      have lk1 : (i1 : Int) < k := by omega
      have l01 : (0 : Int) ≤ i1 := by omega
      obtain ⟨p7, _, _⟩ := KpLk3.errs HS
      clear k1 k2 HT hi1
      by_cases hx : x = z'
      · as_aux_lemma =>
        subst hx
        have HT3 := HNx.out rfl
        have HT4 : Hid (∀ j, 2 ≤ j → j < i + 1 → ∀ (hj : j < l.length) (h1 : j - 1 < l.length), l[j].v = l[j - 1].x) := HT3
        have f1 : (x == x) = true := by simp
        have f2 : (x != x) = false := by simp
        clear HY HNx HT3
        go_wp2_with fail
        go_quiet (fail)
        go_wp2
        go_roundw
        case rel => exact ⟨i + 1, by go_num, by omega, by omega, HT4, KpLk3.drewN HS _⟩
        case measure => simp [intOf]; omega
      · as_aux_lemma =>
        have HF : Hid (R = 7) := HY.out hx
        have f1 : (x == z') = false := beq_eq_false_iff_ne.2 hx
        have f2 : (x != z') = true := by simp [hx]
        clear HY HNx hx
        go_wp2_with fail
        go_quiet (fail)
        go_wp2
        go_ret
        exact ⟨by rw [HF.out]; rfl, belowN HS.out.below _⟩
    have HV : Hid (nV l = false) := nV_no fun j h2 hj h1 => HT.out j h2 (by have := HN.out; omega) hj h1
    have gi : ¬ ((i : Int) < (k : Int)) := by omega
    clear HT hlt hik hi2
    go_wp2_with fail
    go_loopw [42] (fun i wr => ∃ m : Nat, i = .int .i64 (m : Int) ∧ m ≤ k ∧ Hid (∀ j (hj : j < l.length), j < m → ¬ l[j].e ≤ now) ∧ Hid (KpLk3 E w a l wr)) (fun i _ => k - (intOf i).toNat)
    case atStart => exact ⟨0, rfl, Nat.zero_le _, fun j hj h0 => absurd h0 (Nat.not_lt_zero _), HS⟩
    case round =>
    clear HS
    obtain ⟨m, rfl, hmk, HT, HS⟩ := hrel
    by_cases hlt : m < k
    case pos =>
      have k1 : m < l.length := by have := HN.out; omega
      obtain ⟨b, o, rfl, c0, c1, c2⟩ := HS.out.lk m k1
      have HY : Hid (l[m].e ≤ now → R = 8) := fun h => H8.out HZ.out HV.out (any_yes k1 (decide_eq_true h))
      have HNx : Hid (¬ l[m].e ≤ now → ∀ j (hj : j < l.length), j < m + 1 → ¬ l[j].e ≤ now) := fun h j hj hjk => by
        by_cases hjk2 : j < m
        · exact HT.out j hj hjk2
        · obtain rfl : j = m := by omega
          exact h
      generalize l[m].v = x at *
      generalize l[m].e = y at *
      generalize l[m].x = z at *
      have lk : (m : Int) < k := by omega
      have l0 : (0 : Int) ≤ m := by omega
      have HSA := KpLk3.call HS (below_alloc _ (.cells #[.int .i64 x, .int .i64 y, .int .i64 z] 60))
      obtain ⟨_, p8, _⟩ := KpLk3.errs HSA
      clear k1 HT
      by_cases hx : y ≤ now
      · as_aux_lemma =>
        have HF : Hid (R = 8) := HY.out hx
        have f1 : decide (y ≤ now) = true := decide_eq_true hx
        clear HY HNx hx
        go_wp2_with fail
        go_ret
        exact ⟨by rw [HF.out]; rfl, HSA.out.below⟩
      · as_aux_lemma =>
        have HT3 : Hid (∀ j (hj : j < l.length), j < m + 1 → ¬ l[j].e ≤ now) := HNx.out hx
        have f1 : decide (y ≤ now) = false := decide_eq_false hx
        clear HY HNx hx
        go_wp2_with fail
        go_roundw
        case rel => exact ⟨m + 1, by go_num, by omega, HT3, HSA⟩
        case measure => simp [intOf]; omega
    obtain rfl : m = k := by omega
    have HF : Hid (R = 0) := H0.out HZ.out HV.out (any_no fun j hj => decide_eq_false (HT.out j hj (by have := HN.out; omega)))
    go_wp2
    go_ret
    exact ⟨by rw [HF.out]; rfl, HS.out.below⟩
end Go.Proofs.YtdfglpbappeoaabDoor
