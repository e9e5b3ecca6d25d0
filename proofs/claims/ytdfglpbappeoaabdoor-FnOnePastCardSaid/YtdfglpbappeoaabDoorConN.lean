/- ConsistencyCheck of both sides where the proof is none. -/
import Derived.Test.YtdfglpbappeoaabDoorConE
import Derived.Test.YtdfglpbappeoaabDoorDrwP
namespace Go.Proofs.YtdfglpbappeoaabDoor
open Go.RowKit
set_option linter.unusedVariables false

theorem one_lit (w : World) (x : ByteArray) : SA (w.alloc (.cells #[.string x] 9)) (some ⟨w.heap.size, 0, none⟩) [x] := lit_sa w x 9
theorem own_none {W : World} {ops : Array Oper} {rest : List Oper} {o : Oper} {a : Act} {Q : Exit → Act → World → Prop} (hgd : o.guard = none) (s x : Operand) (ho : o.op = .call { callee := .builtin .append, args := #[s, x], argTypes := #[23, 23] })
    (base : Nat) (v : Value) (n : Nat) (l1 : List ByteArray) (hs : a.eval s = v) (hown : W.ownsRow base 9 1 v n (svl l1)) (hx : a.eval x = .slice none 0 0)
    (h : wpList Tryd.prog ops Q rest (a.put o.dst v) W) : wpList Tryd.prog ops Q (o :: rest) a W := by
  obtain ⟨i0, hi, hz0, hz1, hz2⟩ := info_parts Tryd.infoStr
  exact wpList_append_own_none hgd s x 23 ho base 9 i0 1 Tryd.underlying23 hi v n (svl l1) hs hown hx h
set_option maxRecDepth 100000 in
set_option maxHeartbeats 2000000 in
theorem conIN (old root : ByteArray) (i n : Int) (w : World) (hl : old.size ≤ maxLen) (hr : root.size ≤ maxLen) (hk : ArrU w 8 keys) (h0 : 8 < w.heap.size) :
    Calls Tryd.prog 17 #[.int .i64 i, .int .i64 n, .slice none 0 0, .string old, .string root] w fun e w' => e = .returned (.bool (conB i n [] old root)) ∧ Below w.heap.size w w' := by
  by_cases hok : ConOk i n [] old root
  case neg =>
    have HR : Hid (conB i n [] old root = false) := conB_no hok
    have hH1 : ∀ w0, Calls Tryd.prog 45 #[.string old] w0 fun e w' => e = .returned (.bool (decide (old.size = 32))) ∧ w0 = w' := fun w0 => ownH32B old w0 hl
    have hH2 : ∀ w0, Calls Tryd.prog 45 #[.string root] w0 fun e w' => e = .returned (.bool (decide (root.size = 32))) ∧ w0 = w' := fun w0 => ownH32B root w0 hr
    have hH4 : ∀ w0, Calls Tryd.prog 46 #[.int .i64 n] w0 fun e w' => e = .returned (.bool (decide (1 ≤ n ∧ n ≤ 1099511627776))) ∧ w0 = w' := fun w0 => sizeRI n w0
    have HH3 : Hid (Calls Tryd.prog 44 #[.slice none 0 0] w fun e w' => e = .returned (.bool true) ∧ w = w') := proofRI none 0 0 [] w rfl (SA.nil _ _) (by omega) (fun x hx => by simp at hx)
    have HO : Hid (old.size = 32 → root.size = 32 → (1 ≤ n ∧ n ≤ 1099511627776) → 1 ≤ i → i ≤ n → False) := fun e2 e3 e4 e5 e6 => hok ⟨e2, e3, Nat.zero_le _, rfl, e4.1, e4.2, e5, e6⟩
    generalize conB i n [] old root = R at *
    clear hok hk
    by_cases q1 : old.size = 32
    case neg =>
      rw [decide_eq_false q1] at hH1
      clear HO
      go_enter Tryd.func17, Tryd.ntmps17
      go_wp2_with (first
        | (go_at_call 44; refine Calls.mono HH3.out ?_; rintro e w' ⟨rfl, rfl⟩)
        | (go_at_call 45; with_reducible refine (hH1 _).mono ?_; rintro e w' ⟨rfl, rfl⟩)
        | (go_at_call 45; with_reducible refine (hH2 _).mono ?_; rintro e w' ⟨rfl, rfl⟩)
        | (go_at_call 46; refine (hH4 _).mono ?_; rintro e w' ⟨rfl, rfl⟩))
      go_ret
      exact ⟨retY HR.out.symm, Below.refl _ _⟩
    rw [decide_eq_true q1] at hH1
    by_cases q2 : root.size = 32
    case neg =>
      rw [decide_eq_false q2] at hH2
      clear HO
      go_enter Tryd.func17, Tryd.ntmps17
      go_wp2_with (first
        | (go_at_call 44; refine Calls.mono HH3.out ?_; rintro e w' ⟨rfl, rfl⟩)
        | (go_at_call 45; with_reducible refine (hH1 _).mono ?_; rintro e w' ⟨rfl, rfl⟩)
        | (go_at_call 45; with_reducible refine (hH2 _).mono ?_; rintro e w' ⟨rfl, rfl⟩)
        | (go_at_call 46; refine (hH4 _).mono ?_; rintro e w' ⟨rfl, rfl⟩))
      go_ret
      exact ⟨retY HR.out.symm, Below.refl _ _⟩
    rw [decide_eq_true q2] at hH2
    by_cases q3 : 1 ≤ n ∧ n ≤ 1099511627776
    case neg =>
      rw [decide_eq_false q3] at hH4
      clear HO
      go_enter Tryd.func17, Tryd.ntmps17
      go_wp2_with (first
        | (go_at_call 44; refine Calls.mono HH3.out ?_; rintro e w' ⟨rfl, rfl⟩)
        | (go_at_call 45; with_reducible refine (hH1 _).mono ?_; rintro e w' ⟨rfl, rfl⟩)
        | (go_at_call 45; with_reducible refine (hH2 _).mono ?_; rintro e w' ⟨rfl, rfl⟩)
        | (go_at_call 46; refine (hH4 _).mono ?_; rintro e w' ⟨rfl, rfl⟩))
      go_ret
      exact ⟨retY HR.out.symm, Below.refl _ _⟩
    rw [decide_eq_true q3] at hH4
    by_cases c2 : i < 1
    · have e2 : decide (i < 1) = true := decide_eq_true c2
      clear HO
      go_enter Tryd.func17, Tryd.ntmps17
      go_wp2_with (first
        | (go_at_call 44; refine Calls.mono HH3.out ?_; rintro e w' ⟨rfl, rfl⟩)
        | (go_at_call 45; with_reducible refine (hH1 _).mono ?_; rintro e w' ⟨rfl, rfl⟩)
        | (go_at_call 45; with_reducible refine (hH2 _).mono ?_; rintro e w' ⟨rfl, rfl⟩)
        | (go_at_call 46; refine (hH4 _).mono ?_; rintro e w' ⟨rfl, rfl⟩))
      go_ret
      exact ⟨retY HR.out.symm, Below.refl _ _⟩
    have e2 : decide (i < 1) = false := decide_eq_false c2
    by_cases c3 : n < i
    · have e3 : decide (n < i) = true := decide_eq_true c3
      clear HO
      go_enter Tryd.func17, Tryd.ntmps17
      go_wp2_with (first
        | (go_at_call 44; refine Calls.mono HH3.out ?_; rintro e w' ⟨rfl, rfl⟩)
        | (go_at_call 45; with_reducible refine (hH1 _).mono ?_; rintro e w' ⟨rfl, rfl⟩)
        | (go_at_call 45; with_reducible refine (hH2 _).mono ?_; rintro e w' ⟨rfl, rfl⟩)
        | (go_at_call 46; refine (hH4 _).mono ?_; rintro e w' ⟨rfl, rfl⟩))
      go_ret
      exact ⟨retY HR.out.symm, Below.refl _ _⟩
    exact absurd (HO.out q1 q2 q3 (by omega) (by omega)) id
  rw [conB_yes hok]
  by_cases hne : i = n
  · exact conIE old root i n none 0 0 [] w rfl (SA.nil _ _) hl hr (by omega) (fun x hx => by simp at hx) hk h0 hok hne
  have hH1 : ∀ w0, Calls Tryd.prog 45 #[.string old] w0 fun e w' => e = .returned (.bool (decide (old.size = 32))) ∧ w0 = w' := fun w0 => ownH32B old w0 hl
  have hH2 : ∀ w0, Calls Tryd.prog 45 #[.string root] w0 fun e w' => e = .returned (.bool (decide (root.size = 32))) ∧ w0 = w' := fun w0 => ownH32B root w0 hr
  have hH4 : ∀ w0, Calls Tryd.prog 46 #[.int .i64 n] w0 fun e w' => e = .returned (.bool (decide (1 ≤ n ∧ n ≤ 1099511627776))) ∧ w0 = w' := fun w0 => sizeRI n w0
  have HH3 : Hid (Calls Tryd.prog 44 #[.slice none 0 0] w fun e w' => e = .returned (.bool true) ∧ w = w') := proofRI none 0 0 [] w rfl (SA.nil _ _) (by omega) (fun x hx => by simp at hx)
  obtain ⟨q1, q2, h3, q3, h5, h6, h7, h8⟩ := hok
  rw [decide_eq_true q1] at hH1
  rw [decide_eq_true q2] at hH2
  rw [decide_eq_true ⟨h5, h6⟩] at hH4
  have e0 : decide (i < 1) = false := decide_eq_false (by omega)
  have e1 : decide (n < i) = false := decide_eq_false (by omega)
  have e4 : (i == n) = false := beq_eq_false_iff_ne.2 hne
  obtain ⟨f0, rfl⟩ := Int.eq_ofNat_of_zero_le (show 0 ≤ i by omega)
  obtain ⟨n0, rfl⟩ := Int.eq_ofNat_of_zero_le (show 0 ≤ n by omega)
  have u4 : decide (n0 < f0) = false := decide_eq_false (by omega)
  have u8 : (f0 == n0) = false := beq_eq_false_iff_ne.2 (by omega)
  have es : (n0 : Int) - 1 = ((n0 - 1 : Nat) : Int) := by omega
  have ef : (f0 : Int) - 1 = ((f0 - 1 : Nat) : Int) := by omega
  obtain ⟨F0, S0, hFS⟩ : ∃ F S, Mer.strip (f0 - 1) (n0 - 1) = (F, S) := ⟨_, _, rfl⟩
  have hpb : ∀ w0, Calls Tryd.prog 50 #[.int .i64 (f0 : Int)] w0 fun e w' => e = .returned (.bool (pwB f0)) ∧ w0 = w' := fun w0 => powI f0 w0 (by omega) (by omega)
  obtain ⟨R, hR⟩ : ∃ R, conR f0 n0 [] old root = R := ⟨_, rfl⟩
  rw [hR]
  have HK : Hid (ArrU w 8 keys) := hk
  cases hpw : pwB f0 with
  | false =>
    rw [hpw] at hpb
    have HF2 : Hid (R = false) := by
      show _ = _
      rw [← hR]
      exact conR_none hne (by unfold conLs; rw [hpw]; rfl)
    clear hpw hR hFS hk
    go_enter Tryd.func17, Tryd.ntmps17
    go_wp2_with (first
      | (go_at_call 44; refine Calls.mono HH3.out ?_; rintro e w' ⟨rfl, rfl⟩)
      | (go_at_call 45; with_reducible refine (hH1 _).mono ?_; rintro e w' ⟨rfl, rfl⟩)
      | (go_at_call 45; with_reducible refine (hH2 _).mono ?_; rintro e w' ⟨rfl, rfl⟩)
      | (go_at_call 46; refine (hH4 _).mono ?_; rintro e w' ⟨rfl, rfl⟩)
      | (go_at_call 50; refine (hpb _).mono ?_; rintro e w' ⟨rfl, rfl⟩))
    go_ret
    exact ⟨retY HF2.out.symm, Below.refl _ _⟩
  | true =>
    rw [hpw] at hpb
    have HC : Hid (Calls Tryd.prog 51 #[.agg #[.int .i64 ((f0 - 1 : Nat) : Int), .int .i64 ((n0 - 1 : Nat) : Int)], .slice (some ⟨w.heap.size, 0, none⟩) 1 1, .string old, .string root] (w.alloc (.cells #[.string old] 9)) fun e w' => e = .returned (.bool R) ∧ Below (w.alloc (.cells #[.string old] 9)).heap.size (w.alloc (.cells #[.string old] 9)) w') := by
      have B : Below w.heap.size w (w.alloc (.cells #[.string old] 9)) := (Below.refl _ _).alloc (Nat.le_refl _) _
      have := leadI old root old [] (f0 - 1) (n0 - 1) F0 S0 (some ⟨w.heap.size, 0, none⟩) 1 0 (w.alloc (.cells #[.string old] 9)) rfl (by omega) (one_lit w old) (fun x hx => by rw [List.mem_singleton.1 hx]; exact q1) (by omega) (by omega) (by omega) hFS (hk.below B h0) (Nat.lt_of_lt_of_le h0 B.size)
      rw [← hR, conR_rest hne (L := [old]) (by unfold conLs; rw [hpw]; rfl) (by simp) F0 S0 hFS]
      exact this
    have HB1 : Hid (Below w.heap.size w (w.alloc (.cells #[.string old] 9))) := (Below.refl _ _).alloc (Nat.le_refl _) _
    have HO1 : Hid ((w.alloc (.cells #[.string old] 9)).ownsRow w.heap.size 9 1 (.slice (some ⟨w.heap.size, 0, none⟩) 1 1) 1 (svl [old])) := World.ownsRow_lit w #[.string old] 1 (Nat.le_refl _) (by unfold maxLen; omega) rfl
    obtain ⟨f1, hf1⟩ : ∃ f1, f0 - 1 = f1 := ⟨_, rfl⟩
    obtain ⟨n1, hn1⟩ : ∃ n1, n0 - 1 = n1 := ⟨_, rfl⟩
    rw [hf1] at ef HC
    rw [hn1] at es HC
    clear hpw hR hFS hk hf1 hn1
    go_enter Tryd.func17, Tryd.ntmps17
    go_wp2_with (first
      | (go_at_call 44; refine Calls.mono HH3.out ?_; rintro e w' ⟨rfl, rfl⟩)
      | (go_at_call 45; with_reducible refine (hH1 _).mono ?_; rintro e w' ⟨rfl, rfl⟩)
      | (go_at_call 45; with_reducible refine (hH2 _).mono ?_; rintro e w' ⟨rfl, rfl⟩)
      | (go_at_call 46; refine (hH4 _).mono ?_; rintro e w' ⟨rfl, rfl⟩)
      | (go_at_call 50; refine (hpb _).mono ?_; rintro e w' ⟨rfl, rfl⟩)
      | (at_builtin; refine own_none rfl _ _ rfl w.heap.size (.slice (some ⟨w.heap.size, 0, none⟩) 1 1) 1 [old] rfl HO1.out rfl ?_)
      | (go_at_call 51; refine Calls.mono HC.out ?_; rintro e w9 ⟨rfl, hB9⟩))
    go_ret
    exact ⟨rfl, HB1.out.trans (hB9.mono HB1.out.size)⟩
end Go.Proofs.YtdfglpbappeoaabDoor
