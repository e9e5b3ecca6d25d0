/- Is a policy right? On the specification's side. -/
import Derived.Test.YtaalegjhhpfhbaaNdR
namespace Go.Proofs.Ytaalegjhhpfhbaa
open Go.RowKit
set_option linter.unusedVariables false

/- The cases of a step, each by itself. -/
theorem step_split {st : List Nd} {op : Int} {k v : ByteArray} {n : Nat} (hn : st.length = n) (h : (¬ InsOk op k v ∧ stepN st op k v = none) ∨ (InsOk op k v ∧ ∃ y, Leaf op k v y ∧ stepN st op k v = some (y :: st)) ∨
    (InsOk op k v ∧ op = 3 ∧ st = [] ∧ stepN st op k v = none) ∨ (InsOk op k v ∧ op = 3 ∧ ∃ n r, st = n :: r ∧ stepN st op k v = some (.neg n :: r)) ∨
    (InsOk op k v ∧ (op = 4 ∨ op = 5) ∧ st.length < 2 ∧ stepN st op k v = none) ∨ (InsOk op k v ∧ (op = 4 ∨ op = 5) ∧ ∃ a b r, st = b :: a :: r ∧ stepN st op k v = some (.par op a b :: r))) :
    (¬ InsOk op k v ∧ stepN st op k v = none) ∨ (InsOk op k v ∧ ∃ y, op = 1 ∧ stepN st op k v = some (y :: st)) ∨ (InsOk op k v ∧ ∃ y, op = 2 ∧ stepN st op k v = some (y :: st)) ∨
    (InsOk op k v ∧ op = 3 ∧ st = [] ∧ stepN st op k v = none) ∨ (InsOk op k v ∧ op = 3 ∧ ∃ n r, st = n :: r ∧ stepN st op k v = some (.neg n :: r)) ∨
    (InsOk op k v ∧ op = 4 ∧ n < 1 ∧ stepN st op k v = none) ∨ (InsOk op k v ∧ op = 4 ∧ n = 1 ∧ stepN st op k v = none) ∨ (InsOk op k v ∧ op = 5 ∧ n < 1 ∧ stepN st op k v = none) ∨ (InsOk op k v ∧ op = 5 ∧ n = 1 ∧ stepN st op k v = none) ∨
    (InsOk op k v ∧ op = 4 ∧ ∃ a b r, st = b :: a :: r ∧ stepN st op k v = some (.par op a b :: r)) ∨ (InsOk op k v ∧ op = 5 ∧ ∃ a b r, st = b :: a :: r ∧ stepN st op k v = some (.par op a b :: r)) := by
  rcases h with h | ⟨ho, y, ⟨h, _⟩ | ⟨h, _⟩, hs⟩ | h | h | ⟨ho, h | h, hl, hs⟩ | ⟨ho, h | h, hx⟩
  · exact Or.inl h
  · exact Or.inr (Or.inl ⟨ho, y, h, hs⟩)
  · exact Or.inr (Or.inr (Or.inl ⟨ho, y, h, hs⟩))
  · exact Or.inr (Or.inr (Or.inr (Or.inl h)))
  · exact Or.inr (Or.inr (Or.inr (Or.inr (Or.inl h))))
  · by_cases g : n < 1
    · exact Or.inr (Or.inr (Or.inr (Or.inr (Or.inr (Or.inl ⟨ho, h, g, hs⟩)))))
    · exact Or.inr (Or.inr (Or.inr (Or.inr (Or.inr (Or.inr (Or.inl ⟨ho, h, by omega, hs⟩))))))
  · by_cases g : n < 1
    · exact Or.inr (Or.inr (Or.inr (Or.inr (Or.inr (Or.inr (Or.inr (Or.inl ⟨ho, h, g, hs⟩)))))))
    · exact Or.inr (Or.inr (Or.inr (Or.inr (Or.inr (Or.inr (Or.inr (Or.inr (Or.inl ⟨ho, h, by omega, hs⟩))))))))
  · exact Or.inr (Or.inr (Or.inr (Or.inr (Or.inr (Or.inr (Or.inr (Or.inr (Or.inr (Or.inl ⟨ho, h, hx⟩)))))))))
  · exact Or.inr (Or.inr (Or.inr (Or.inr (Or.inr (Or.inr (Or.inr (Or.inr (Or.inr (Or.inr ⟨ho, h, hx⟩)))))))))
set_option maxRecDepth 100000 in
set_option maxHeartbeats 8000000 in
theorem specPolR (a : Option Addr) (c n : Nat) (l : List InsV) (w : World) (hn : l.length = n) (h : InsAt w a l) (hm : n ≤ maxLen) (hw : ∀ x ∈ l, x.w) :
    Calls Try.prog 12 #[.slice a n c] w fun r w' => r = .returned (.bool (nodeN l).isSome) ∧ Below w.heap.size w w' := by
  unfold maxLen at hm
  have HN := hidP hn
  have HW := hidP hw
  have hC1 : ∀ w0 (x0 : Int) (x1 : ByteArray) (x2 : ByteArray), (x1.size ≤ maxLen) → (x2.size ≤ maxLen) → (¬ InsOk x0 x1 x2) → Calls Try.prog 48 #[.agg #[.int .i64 x0, .string x1, .string x2]] w0 fun r w' => r = .returned (.bool false) ∧ Below w0.heap.size w0 w' := fun w0 x0 x1 x2 n0 n1 n2 => by rw [← boolP_no n2]; exact specIns x0 x1 x2 w0 n0 n1
  have hC2 : ∀ w0 (x1 : ByteArray) (x2 : ByteArray), (x1.size ≤ maxLen) → (x2.size ≤ maxLen) → (InsOk 1 x1 x2) → Calls Try.prog 48 #[.agg #[.int .i64 1, .string x1, .string x2]] w0 fun r w' => r = .returned (.bool true) ∧ Below w0.heap.size w0 w' := fun w0 x1 x2 n0 n1 n2 => by rw [← boolP_yes n2]; exact specIns 1 x1 x2 w0 n0 n1
  have hC3 : ∀ w0 (x1 : ByteArray) (x2 : ByteArray), (x1.size ≤ maxLen) → (x2.size ≤ maxLen) → (InsOk 2 x1 x2) → Calls Try.prog 48 #[.agg #[.int .i64 2, .string x1, .string x2]] w0 fun r w' => r = .returned (.bool true) ∧ Below w0.heap.size w0 w' := fun w0 x1 x2 n0 n1 n2 => by rw [← boolP_yes n2]; exact specIns 2 x1 x2 w0 n0 n1
  have hC4 : ∀ w0 (x1 : ByteArray) (x2 : ByteArray), (x1.size ≤ maxLen) → (x2.size ≤ maxLen) → (InsOk 3 x1 x2) → Calls Try.prog 48 #[.agg #[.int .i64 3, .string x1, .string x2]] w0 fun r w' => r = .returned (.bool true) ∧ Below w0.heap.size w0 w' := fun w0 x1 x2 n0 n1 n2 => by rw [← boolP_yes n2]; exact specIns 3 x1 x2 w0 n0 n1
  have hC5 : ∀ w0 (x1 : ByteArray) (x2 : ByteArray), (x1.size ≤ maxLen) → (x2.size ≤ maxLen) → (InsOk 4 x1 x2) → Calls Try.prog 48 #[.agg #[.int .i64 4, .string x1, .string x2]] w0 fun r w' => r = .returned (.bool true) ∧ Below w0.heap.size w0 w' := fun w0 x1 x2 n0 n1 n2 => by rw [← boolP_yes n2]; exact specIns 4 x1 x2 w0 n0 n1
  have hC6 : ∀ w0 (x1 : ByteArray) (x2 : ByteArray), (x1.size ≤ maxLen) → (x2.size ≤ maxLen) → (InsOk 5 x1 x2) → Calls Try.prog 48 #[.agg #[.int .i64 5, .string x1, .string x2]] w0 fun r w' => r = .returned (.bool true) ∧ Below w0.heap.size w0 w' := fun w0 x1 x2 n0 n1 n2 => by rw [← boolP_yes n2]; exact specIns 5 x1 x2 w0 n0 n1
  have HS0 : Hid (Sta [] w [] [⟨fun k => k < w.heap.size, fun w' => InsAt w' a l⟩] w) := Sta.arg (fun w' => InsAt w' a l) (fun w' hb => h.below hb)
  clear h hn hw
  go_enter Try.func12, Try.ntmps12
  have hc3 : n < 1 ∨ (¬ n < 1 ∧ 60 < n) ∨ (¬ n < 1 ∧ ¬ 60 < n) := by omega
  rcases hc3 with g1 | ⟨g1, g6⟩ | ⟨g1, g6⟩
  · as_aux_lemma =>
    have d1 : decide ((n : Int) < 1) = true := decide_eq_true (by omega)
    have HF := hidP (node_many (st := []) HN.out (by rw [show n = 0 by omega]; rfl) (by decide))
    go_wp2_with fail
    go_ret
    exact ⟨by rw [HF.out]; rfl, Sta.fin HS0⟩
  · as_aux_lemma =>
    have d1 : decide ((n : Int) < 1) = false := decide_eq_false (by omega)
    have d6 : decide ((60 : Int) < (n : Int)) = true := decide_eq_true (by omega)
    have HF := hidP (node_long HN.out g6)
    go_wp2_with fail
    go_ret
    exact ⟨by rw [HF.out]; rfl, Sta.fin HS0⟩
  · have d1 : decide ((n : Int) < 1) = false := decide_eq_false (by omega)
    have d6 : decide ((60 : Int) < (n : Int)) = false := decide_eq_false (by omega)
    have H6 := hidP g6
    go_wp2_with fail
    go_loopw [4, 3] (fun v0 v1 wr => ∃ (k : Nat) (st : List Nd) (m : Nat), v0 = .int .i64 (k : Int) ∧ v1 = .int .i64 (m : Int) ∧ k ≤ n ∧ Hid (runN (l.take k) = some st) ∧ Hid (st.length = m) ∧ Hid (m ≤ k ∧ k ≤ 60) ∧ Hid (Sta [] w [] [⟨fun k => k < w.heap.size, fun w' => InsAt w' a l⟩] wr)) (fun v0 v1 _ => n - (intOf v0).toNat)
    case atStart => exact ⟨0, [], 0, rfl, rfl, Nat.zero_le _, rfl, rfl, ⟨Nat.le_refl _, Nat.zero_le _⟩, HS0⟩
    case round =>
      rename Go.World => wl1
      clear HS0
      obtain ⟨k, st, m, rfl, rfl, hk1, HR, HL, HM6, HS1⟩ := hrel
      by_cases hlt1 : k < n
      case neg =>
        obtain rfl : n = k := by omega
        by_cases g1c : m = 1
        · as_aux_lemma =>
          have HF : Hid (∃ y, nodeN l = some y) := by obtain ⟨y, rfl⟩ : ∃ y, st = [y] := List.length_eq_one_iff.1 (HL.out.trans g1c); exact ⟨y, node_one HN.out H6.out HR.out⟩
          subst g1c
          go_wp2_with fail
          go_ret
          exact ⟨by obtain ⟨y, hy⟩ := HF.out; rw [hy]; rfl, Sta.fin HS1⟩
        · as_aux_lemma =>
          have HF := hidP (node_many HN.out HR.out (by rw [HL.out]; exact g1c))
          have de1 : decide ((m : Int) = 1) = false := decide_eq_false (by omega)
          have de2 : ((m : Int) == 1) = false := beq_eq_false_iff_ne.2 (by omega)
          have de3 : ¬ ((m : Int) = 1) := by omega
          go_wp2_with fail
          go_ret
          exact ⟨by rw [HF.out]; rfl, Sta.fin HS1⟩
      have lk1 : (k : Int) < n := by omega
      have l01 : (0 : Int) ≤ k := by omega
      have hkl : k < l.length := by have := HN.out; omega
      obtain ⟨b, o, rfl, hz2⟩ := (Sta.t (i := 0) HS1 rfl :) k hkl
      clear hz2
      obtain ⟨x0, hx0⟩ : ∃ y, l[k].op = y := ⟨_, rfl⟩
      obtain ⟨x1, hx1⟩ : ∃ y, l[k].key = y := ⟨_, rfl⟩
      obtain ⟨x2, hx2⟩ : ∃ y, l[k].val = y := ⟨_, rfl⟩
      have HS3 := Sta.imp 0 (fun w' => (InsAt w' (some ⟨b, o, none⟩) l) ∧ w'.cell? ⟨b, o + k * 3, none⟩ = some (.int .i64 x0) ∧ w'.cell? ⟨b, o + k * 3 + 1, none⟩ = some (.string x1) ∧ w'.cell? ⟨b, o + k * 3 + 2, none⟩ = some (.string x2)) HS1 rfl (fun w' h => ⟨h, by rw [← hx0]; exact (InsAt.here h k hkl).1, by rw [← hx1]; exact (InsAt.here h k hkl).2.1, by rw [← hx2]; exact (InsAt.here h k hkl).2.2⟩)
      have W1 : Hid (x1.size ≤ maxLen) := by have := (HW.out l[k] (List.getElem_mem hkl)).2.1; rw [hx1] at this; exact this
      have W2 : Hid (x2.size ≤ maxLen) := by have := (HW.out l[k] (List.getElem_mem hkl)).2.2; rw [hx2] at this; exact this
      have hsc := step_split (n := m) HL.out (step_cases st x0 x1 x2)
      rcases hsc with ⟨ho, hs⟩ | ⟨ho, y, h, hs⟩ | ⟨ho, y, h, hs⟩ | ⟨ho, h, hst, hs⟩ | ⟨ho, h, n1, r, hst, hs⟩ | ⟨ho, h, hl2, hs⟩ | ⟨ho, h, hl2, hs⟩ | ⟨ho, h, hl2, hs⟩ | ⟨ho, h, hl2, hs⟩ | ⟨ho, h, n1, n2, r, hst, hs⟩ | ⟨ho, h, n1, n2, r, hst, hs⟩
      · as_aux_lemma =>
        have HO := hidP ho
        have HF := hidP (node_at hkl hx0 hx1 hx2 HR.out hs)
        clear hs ho
        have tcHS3_0_0 : wl1.cell? ⟨b, o + k * 3, none⟩ = some (.int .i64 x0) := (Sta.t (i := 0) HS3 rfl :).2.1
        have tcHS3_0_1 : wl1.cell? ⟨b, o + k * 3 + 1, none⟩ = some (.string x1) := (Sta.t (i := 0) HS3 rfl :).2.2.1
        have tcHS3_0_2 : wl1.cell? ⟨b, o + k * 3 + 2, none⟩ = some (.string x2) := (Sta.t (i := 0) HS3 rfl :).2.2.2
        go_wp2_with (first
          | (go_at_call 48; (with_reducible refine (hC1 wl1 x0 x1 x2 W1.out W2.out HO.out).mono ?_); rintro r w4 ⟨rfl, hB4⟩; have HS4 := Sta.call HS3 hB4; clear hB4; clear tcHS3_0_0 tcHS3_0_1 tcHS3_0_2))
        go_ret
        exact ⟨by rw [HF.out]; rfl, Sta.fin HS4⟩
      · as_aux_lemma =>
        have HO := hidP ho
        have HR2 := hidP ((runN_snoc hkl hx0 hx1 hx2 HR.out).trans hs)
        have HL2 : Hid ((y :: st).length = m + 1) := congrArg (· + 1) HL.out
        clear hs ho
        subst h
        have ew : IntKind.i64.wrap ((m : Int) + 1) = (m : Int) + 1 := by have := HM6.out; simp [IntKind.wrap, IntKind.signed, IntKind.bits]; omega
        have tcHS3_0_0 : wl1.cell? ⟨b, o + k * 3, none⟩ = some (.int .i64 1) := (Sta.t (i := 0) HS3 rfl :).2.1
        have tcHS3_0_1 : wl1.cell? ⟨b, o + k * 3 + 1, none⟩ = some (.string x1) := (Sta.t (i := 0) HS3 rfl :).2.2.1
        have tcHS3_0_2 : wl1.cell? ⟨b, o + k * 3 + 2, none⟩ = some (.string x2) := (Sta.t (i := 0) HS3 rfl :).2.2.2
        go_wp2_with (first
          | (go_at_call 48; (with_reducible refine (hC2 wl1 x1 x2 W1.out W2.out HO.out).mono ?_); rintro r w5 ⟨rfl, hB5⟩; have HS5 := Sta.call HS3 hB5; clear hB5; clear tcHS3_0_0 tcHS3_0_1 tcHS3_0_2; have tcHS5_0_0 : w5.cell? ⟨b, o + k * 3, none⟩ = some (.int .i64 1) := (Sta.t (i := 0) HS5 rfl :).2.1))
        clear tcHS5_0_0
        have HS6 := Sta.imp 0 (fun w' => InsAt w' (some ⟨b, o, none⟩) l) HS5 rfl (fun w' h => h.1)
        go_roundw
        case rel => exact ⟨k + 1, (y :: st), (m + 1), by go_num, by go_num, hlt1, HR2, HL2, hidP (And.intro (by have := HM6.out; omega) (by have := H6.out; have := HN.out; omega)), HS6⟩
        case measure => simp [intOf]; omega
      · as_aux_lemma =>
        have HO := hidP ho
        have HR2 := hidP ((runN_snoc hkl hx0 hx1 hx2 HR.out).trans hs)
        have HL2 : Hid ((y :: st).length = m + 1) := congrArg (· + 1) HL.out
        clear hs ho
        subst h
        have ew : IntKind.i64.wrap ((m : Int) + 1) = (m : Int) + 1 := by have := HM6.out; simp [IntKind.wrap, IntKind.signed, IntKind.bits]; omega
        have tcHS3_0_0 : wl1.cell? ⟨b, o + k * 3, none⟩ = some (.int .i64 2) := (Sta.t (i := 0) HS3 rfl :).2.1
        have tcHS3_0_1 : wl1.cell? ⟨b, o + k * 3 + 1, none⟩ = some (.string x1) := (Sta.t (i := 0) HS3 rfl :).2.2.1
        have tcHS3_0_2 : wl1.cell? ⟨b, o + k * 3 + 2, none⟩ = some (.string x2) := (Sta.t (i := 0) HS3 rfl :).2.2.2
        go_wp2_with (first
          | (go_at_call 48; (with_reducible refine (hC3 wl1 x1 x2 W1.out W2.out HO.out).mono ?_); rintro r w7 ⟨rfl, hB7⟩; have HS7 := Sta.call HS3 hB7; clear hB7; clear tcHS3_0_0 tcHS3_0_1 tcHS3_0_2; have tcHS7_0_0 : w7.cell? ⟨b, o + k * 3, none⟩ = some (.int .i64 2) := (Sta.t (i := 0) HS7 rfl :).2.1))
        clear tcHS7_0_0
        have HS8 := Sta.imp 0 (fun w' => InsAt w' (some ⟨b, o, none⟩) l) HS7 rfl (fun w' h => h.1)
        go_roundw
        case rel => exact ⟨k + 1, (y :: st), (m + 1), by go_num, by go_num, hlt1, HR2, HL2, hidP (And.intro (by have := HM6.out; omega) (by have := H6.out; have := HN.out; omega)), HS8⟩
        case measure => simp [intOf]; omega
      · as_aux_lemma =>
        have HO := hidP ho
        have HF := hidP (node_at hkl hx0 hx1 hx2 HR.out hs)
        have hm0 : m = 0 := by have := HL.out; rw [hst] at this; exact this.symm
        clear hs ho
        subst h
        have d1b : decide ((m : Int) < 1) = true := decide_eq_true (by omega)
        clear hm0
        have tcHS3_0_0 : wl1.cell? ⟨b, o + k * 3, none⟩ = some (.int .i64 3) := (Sta.t (i := 0) HS3 rfl :).2.1
        have tcHS3_0_1 : wl1.cell? ⟨b, o + k * 3 + 1, none⟩ = some (.string x1) := (Sta.t (i := 0) HS3 rfl :).2.2.1
        have tcHS3_0_2 : wl1.cell? ⟨b, o + k * 3 + 2, none⟩ = some (.string x2) := (Sta.t (i := 0) HS3 rfl :).2.2.2
        go_wp2_with (first
          | (go_at_call 48; (with_reducible refine (hC4 wl1 x1 x2 W1.out W2.out HO.out).mono ?_); rintro r w9 ⟨rfl, hB9⟩; have HS9 := Sta.call HS3 hB9; clear hB9; clear tcHS3_0_0 tcHS3_0_1 tcHS3_0_2; have tcHS9_0_0 : w9.cell? ⟨b, o + k * 3, none⟩ = some (.int .i64 3) := (Sta.t (i := 0) HS9 rfl :).2.1))
        go_ret
        exact ⟨by rw [HF.out]; rfl, Sta.fin HS9⟩
      · as_aux_lemma =>
        have HO := hidP ho
        have HR2 := hidP ((runN_snoc hkl hx0 hx1 hx2 HR.out).trans hs)
        have HL2 : Hid ((Nd.neg n1 :: r).length = m) := by have := HL.out; rw [hst] at this; exact this
        have hm1 : 1 ≤ m := by have := HL2.out; simp at this; omega
        clear hs ho
        subst h
        have d1b : decide ((m : Int) < 1) = false := decide_eq_false (by omega)
        have tcHS3_0_0 : wl1.cell? ⟨b, o + k * 3, none⟩ = some (.int .i64 3) := (Sta.t (i := 0) HS3 rfl :).2.1
        have tcHS3_0_1 : wl1.cell? ⟨b, o + k * 3 + 1, none⟩ = some (.string x1) := (Sta.t (i := 0) HS3 rfl :).2.2.1
        have tcHS3_0_2 : wl1.cell? ⟨b, o + k * 3 + 2, none⟩ = some (.string x2) := (Sta.t (i := 0) HS3 rfl :).2.2.2
        go_wp2_with (first
          | (go_at_call 48; (with_reducible refine (hC4 wl1 x1 x2 W1.out W2.out HO.out).mono ?_); rintro r w10 ⟨rfl, hB10⟩; have HS10 := Sta.call HS3 hB10; clear hB10; clear tcHS3_0_0 tcHS3_0_1 tcHS3_0_2; have tcHS10_0_0 : w10.cell? ⟨b, o + k * 3, none⟩ = some (.int .i64 3) := (Sta.t (i := 0) HS10 rfl :).2.1))
        clear tcHS10_0_0
        have HS11 := Sta.imp 0 (fun w' => InsAt w' (some ⟨b, o, none⟩) l) HS10 rfl (fun w' h => h.1)
        go_roundw
        case rel => exact ⟨k + 1, (Nd.neg n1 :: r), m, by go_num, by go_num, hlt1, HR2, HL2, hidP (And.intro (by have := HM6.out; omega) (by have := H6.out; have := HN.out; omega)), HS11⟩
        case measure => simp [intOf]; omega
      · as_aux_lemma =>
        have HO := hidP ho
        have HF := hidP (node_at hkl hx0 hx1 hx2 HR.out hs)
        clear hs ho
        subst h
        have d1b : decide ((m : Int) < 1) = true := decide_eq_true (by omega)
        have tcHS3_0_0 : wl1.cell? ⟨b, o + k * 3, none⟩ = some (.int .i64 4) := (Sta.t (i := 0) HS3 rfl :).2.1
        have tcHS3_0_1 : wl1.cell? ⟨b, o + k * 3 + 1, none⟩ = some (.string x1) := (Sta.t (i := 0) HS3 rfl :).2.2.1
        have tcHS3_0_2 : wl1.cell? ⟨b, o + k * 3 + 2, none⟩ = some (.string x2) := (Sta.t (i := 0) HS3 rfl :).2.2.2
        go_wp2_with (first
          | (go_at_call 48; (with_reducible refine (hC5 wl1 x1 x2 W1.out W2.out HO.out).mono ?_); rintro r w12 ⟨rfl, hB12⟩; have HS12 := Sta.call HS3 hB12; clear hB12; clear tcHS3_0_0 tcHS3_0_1 tcHS3_0_2; have tcHS12_0_0 : w12.cell? ⟨b, o + k * 3, none⟩ = some (.int .i64 4) := (Sta.t (i := 0) HS12 rfl :).2.1))
        go_ret
        exact ⟨by rw [HF.out]; rfl, Sta.fin HS12⟩
      · as_aux_lemma =>
        have HO := hidP ho
        have HF := hidP (node_at hkl hx0 hx1 hx2 HR.out hs)
        clear hs ho
        subst h
        have d1b : decide ((m : Int) < 1) = false := decide_eq_false (by omega)
        have d2b : decide ((m : Int) < 2) = true := decide_eq_true (by omega)
        have tcHS3_0_0 : wl1.cell? ⟨b, o + k * 3, none⟩ = some (.int .i64 4) := (Sta.t (i := 0) HS3 rfl :).2.1
        have tcHS3_0_1 : wl1.cell? ⟨b, o + k * 3 + 1, none⟩ = some (.string x1) := (Sta.t (i := 0) HS3 rfl :).2.2.1
        have tcHS3_0_2 : wl1.cell? ⟨b, o + k * 3 + 2, none⟩ = some (.string x2) := (Sta.t (i := 0) HS3 rfl :).2.2.2
        go_wp2_with (first
          | (go_at_call 48; (with_reducible refine (hC5 wl1 x1 x2 W1.out W2.out HO.out).mono ?_); rintro r w13 ⟨rfl, hB13⟩; have HS13 := Sta.call HS3 hB13; clear hB13; clear tcHS3_0_0 tcHS3_0_1 tcHS3_0_2; have tcHS13_0_0 : w13.cell? ⟨b, o + k * 3, none⟩ = some (.int .i64 4) := (Sta.t (i := 0) HS13 rfl :).2.1))
        go_ret
        exact ⟨by rw [HF.out]; rfl, Sta.fin HS13⟩
      · as_aux_lemma =>
        have HO := hidP ho
        have HF := hidP (node_at hkl hx0 hx1 hx2 HR.out hs)
        clear hs ho
        subst h
        have d1b : decide ((m : Int) < 1) = true := decide_eq_true (by omega)
        have tcHS3_0_0 : wl1.cell? ⟨b, o + k * 3, none⟩ = some (.int .i64 5) := (Sta.t (i := 0) HS3 rfl :).2.1
        have tcHS3_0_1 : wl1.cell? ⟨b, o + k * 3 + 1, none⟩ = some (.string x1) := (Sta.t (i := 0) HS3 rfl :).2.2.1
        have tcHS3_0_2 : wl1.cell? ⟨b, o + k * 3 + 2, none⟩ = some (.string x2) := (Sta.t (i := 0) HS3 rfl :).2.2.2
        go_wp2_with (first
          | (go_at_call 48; (with_reducible refine (hC6 wl1 x1 x2 W1.out W2.out HO.out).mono ?_); rintro r w14 ⟨rfl, hB14⟩; have HS14 := Sta.call HS3 hB14; clear hB14; clear tcHS3_0_0 tcHS3_0_1 tcHS3_0_2; have tcHS14_0_0 : w14.cell? ⟨b, o + k * 3, none⟩ = some (.int .i64 5) := (Sta.t (i := 0) HS14 rfl :).2.1))
        go_ret
        exact ⟨by rw [HF.out]; rfl, Sta.fin HS14⟩
      · as_aux_lemma =>
        have HO := hidP ho
        have HF := hidP (node_at hkl hx0 hx1 hx2 HR.out hs)
        clear hs ho
        subst h
        have d1b : decide ((m : Int) < 1) = false := decide_eq_false (by omega)
        have d2b : decide ((m : Int) < 2) = true := decide_eq_true (by omega)
        have tcHS3_0_0 : wl1.cell? ⟨b, o + k * 3, none⟩ = some (.int .i64 5) := (Sta.t (i := 0) HS3 rfl :).2.1
        have tcHS3_0_1 : wl1.cell? ⟨b, o + k * 3 + 1, none⟩ = some (.string x1) := (Sta.t (i := 0) HS3 rfl :).2.2.1
        have tcHS3_0_2 : wl1.cell? ⟨b, o + k * 3 + 2, none⟩ = some (.string x2) := (Sta.t (i := 0) HS3 rfl :).2.2.2
        go_wp2_with (first
          | (go_at_call 48; (with_reducible refine (hC6 wl1 x1 x2 W1.out W2.out HO.out).mono ?_); rintro r w15 ⟨rfl, hB15⟩; have HS15 := Sta.call HS3 hB15; clear hB15; clear tcHS3_0_0 tcHS3_0_1 tcHS3_0_2; have tcHS15_0_0 : w15.cell? ⟨b, o + k * 3, none⟩ = some (.int .i64 5) := (Sta.t (i := 0) HS15 rfl :).2.1))
        go_ret
        exact ⟨by rw [HF.out]; rfl, Sta.fin HS15⟩
      · as_aux_lemma =>
        have HO := hidP ho
        have HR2 := hidP ((runN_snoc hkl hx0 hx1 hx2 HR.out).trans hs)
        have HL2 : Hid ((Nd.par x0 n1 n2 :: r).length = m - 1) := by have := HL.out; rw [hst] at this; show _ = _; simp at this ⊢; omega
        have hm2 : 2 ≤ m := by have := HL.out; rw [hst] at this; simp at this; omega
        clear hs ho
        subst h
        have d1b : decide ((m : Int) < 1) = false := decide_eq_false (by omega)
        have d2b : decide ((m : Int) < 2) = false := decide_eq_false (by omega)
        obtain ⟨m1, hm1⟩ : ∃ m1, m - 1 = m1 := ⟨_, rfl⟩
        rw [hm1] at HL2
        have ek : (m : Int) - 1 = (m1 : Int) := by omega
        have ewk : IntKind.i64.wrap (m1 : Int) = (m1 : Int) := by have := HM6.out; simp [IntKind.wrap, IntKind.signed, IntKind.bits]; omega
        have HM1 := hidP hm1
        clear hm1
        have tcHS3_0_0 : wl1.cell? ⟨b, o + k * 3, none⟩ = some (.int .i64 4) := (Sta.t (i := 0) HS3 rfl :).2.1
        have tcHS3_0_1 : wl1.cell? ⟨b, o + k * 3 + 1, none⟩ = some (.string x1) := (Sta.t (i := 0) HS3 rfl :).2.2.1
        have tcHS3_0_2 : wl1.cell? ⟨b, o + k * 3 + 2, none⟩ = some (.string x2) := (Sta.t (i := 0) HS3 rfl :).2.2.2
        go_wp2_with (first
          | (go_at_call 48; (with_reducible refine (hC5 wl1 x1 x2 W1.out W2.out HO.out).mono ?_); rintro r w16 ⟨rfl, hB16⟩; have HS16 := Sta.call HS3 hB16; clear hB16; clear tcHS3_0_0 tcHS3_0_1 tcHS3_0_2; have tcHS16_0_0 : w16.cell? ⟨b, o + k * 3, none⟩ = some (.int .i64 4) := (Sta.t (i := 0) HS16 rfl :).2.1))
        clear tcHS16_0_0
        have HS17 := Sta.imp 0 (fun w' => InsAt w' (some ⟨b, o, none⟩) l) HS16 rfl (fun w' h => h.1)
        go_roundw
        case rel => exact ⟨k + 1, (Nd.par 4 n1 n2 :: r), m1, by go_num, by go_num, hlt1, HR2, HL2, hidP (And.intro (by have := HM6.out; omega) (by have := H6.out; have := HN.out; omega)), HS17⟩
        case measure => simp [intOf]; omega
      · as_aux_lemma =>
        have HO := hidP ho
        have HR2 := hidP ((runN_snoc hkl hx0 hx1 hx2 HR.out).trans hs)
        have HL2 : Hid ((Nd.par x0 n1 n2 :: r).length = m - 1) := by have := HL.out; rw [hst] at this; show _ = _; simp at this ⊢; omega
        have hm2 : 2 ≤ m := by have := HL.out; rw [hst] at this; simp at this; omega
        clear hs ho
        subst h
        have d1b : decide ((m : Int) < 1) = false := decide_eq_false (by omega)
        have d2b : decide ((m : Int) < 2) = false := decide_eq_false (by omega)
        obtain ⟨m1, hm1⟩ : ∃ m1, m - 1 = m1 := ⟨_, rfl⟩
        rw [hm1] at HL2
        have ek : (m : Int) - 1 = (m1 : Int) := by omega
        have ewk : IntKind.i64.wrap (m1 : Int) = (m1 : Int) := by have := HM6.out; simp [IntKind.wrap, IntKind.signed, IntKind.bits]; omega
        have HM1 := hidP hm1
        clear hm1
        have tcHS3_0_0 : wl1.cell? ⟨b, o + k * 3, none⟩ = some (.int .i64 5) := (Sta.t (i := 0) HS3 rfl :).2.1
        have tcHS3_0_1 : wl1.cell? ⟨b, o + k * 3 + 1, none⟩ = some (.string x1) := (Sta.t (i := 0) HS3 rfl :).2.2.1
        have tcHS3_0_2 : wl1.cell? ⟨b, o + k * 3 + 2, none⟩ = some (.string x2) := (Sta.t (i := 0) HS3 rfl :).2.2.2
        go_wp2_with (first
          | (go_at_call 48; (with_reducible refine (hC6 wl1 x1 x2 W1.out W2.out HO.out).mono ?_); rintro r w18 ⟨rfl, hB18⟩; have HS18 := Sta.call HS3 hB18; clear hB18; clear tcHS3_0_0 tcHS3_0_1 tcHS3_0_2; have tcHS18_0_0 : w18.cell? ⟨b, o + k * 3, none⟩ = some (.int .i64 5) := (Sta.t (i := 0) HS18 rfl :).2.1))
        clear tcHS18_0_0
        have HS19 := Sta.imp 0 (fun w' => InsAt w' (some ⟨b, o, none⟩) l) HS18 rfl (fun w' h => h.1)
        go_roundw
        case rel => exact ⟨k + 1, (Nd.par 5 n1 n2 :: r), m1, by go_num, by go_num, hlt1, HR2, HL2, hidP (And.intro (by have := HM6.out; omega) (by have := H6.out; have := HN.out; omega)), HS19⟩
        case measure => simp [intOf]; omega
end Go.Proofs.Ytaalegjhhpfhbaa
