/- A policy's node, and whether it is right. On the program's side. -/
import Derived.Test.YtaalegjhhpfhbaaNdR
import Derived.Test.YtaalegjhhpfhbaaNdV
namespace Go.Proofs.Ytaalegjhhpfhbaa
open Go.RowKit
set_option linter.unusedVariables false

/- A node, or none, as an interface's value. -/
noncomputable def optV : Option Nd → Value
  | none => .nilIface
  | some y => ndV y
theorem nd_forms {aa : Option Addr} {m ca : Nat} {l : List Nd} (h : (Value.slice aa m ca = .slice none 0 0 ∧ l = []) ∨ ∃ g c n, l.length = n ∧ Value.slice aa m ca = .slice (some ⟨g, 0, none⟩) n c ∧ n ≤ c) : (aa = none → ca = 0) ∧ (∀ x, aa = some x → x.spot = none) ∧ m ≤ ca := by
  rcases h with ⟨h, _⟩ | ⟨g, c, n, _, h, hc⟩
  · injection h with e1 e2 e3
    subst e1 e2 e3
    exact ⟨fun _ => rfl, fun x e => (by cases e), Nat.le_refl _⟩
  · injection h with e1 e2 e3
    subst e1 e2 e3
    exact ⟨fun e => (by cases e), fun x e => (by injection e with e; rw [← e]), hc⟩
set_option maxRecDepth 100000 in
set_option maxHeartbeats 16000000 in
theorem implNode (a : Option Addr) (c n : Nat) (l : List InsV) (w : World) (hn : l.length = n) (h : InsAt w a l) (hm : n ≤ maxLen) (hw : ∀ x ∈ l, x.w) :
    Calls Try.prog 50 #[.slice a n c] w fun r w' => r = .returned (.tuple #[optV (nodeN l), .bool (nodeN l).isSome]) ∧ Below w.heap.size w w' := by
  unfold maxLen at hm
  have HN := hidP hn
  have HW := hidP hw
  have hC1 : ∀ w0 (x0 : Int), Calls Try.prog 100 #[.int .i64 x0] w0 fun r w' => ∃ (T : Int), r = .returned (.int .i64 T) ∧ w0 = w' := fun w0 x0 => (implTaken x0 w0).mono fun r w' ⟨h1, h2⟩ => ⟨_, h1, h2⟩
  have hC2 : ∀ w0 (x0 : Int) (x1 : ByteArray) (x2 : ByteArray), (x1.size ≤ maxLen) → (x2.size ≤ maxLen) → (¬ InsOk x0 x1 x2) → Calls Try.prog 101 #[.agg #[.int .i64 x0, .string x1, .string x2]] w0 fun r w' => r = .returned (.bool false) ∧ Below w0.heap.size w0 w' := fun w0 x0 x1 x2 n0 n1 n2 => by rw [← boolP_no n2]; exact implInsR x0 x1 x2 w0 n0 n1
  have hC3 : ∀ w0, Calls Try.prog 100 #[.int .i64 1] w0 fun r w' => r = .returned (.int .i64 0) ∧ w0 = w' := fun w0 => implTaken 1 w0
  have hC4 : ∀ w0 (x1 : ByteArray) (x2 : ByteArray), (x1.size ≤ maxLen) → (x2.size ≤ maxLen) → (InsOk 1 x1 x2) → Calls Try.prog 101 #[.agg #[.int .i64 1, .string x1, .string x2]] w0 fun r w' => r = .returned (.bool true) ∧ Below w0.heap.size w0 w' := fun w0 x1 x2 n0 n1 n2 => by rw [← boolP_yes n2]; exact implInsR 1 x1 x2 w0 n0 n1
  have hC5 : ∀ w0 (x1 : ByteArray) (x2 : ByteArray) (V6 : Value), Calls Try.prog 102 #[.agg #[.int .i64 1, .string x1, .string x2], V6] w0 fun r w' => r = .returned (ndV (.is x1 x2)) ∧ Below w0.heap.size w0 w' := fun w0 x1 x2 V6 => overIs x1 x2 _ w0
  have hC6 : ∀ w0, Calls Try.prog 100 #[.int .i64 2] w0 fun r w' => r = .returned (.int .i64 0) ∧ w0 = w' := fun w0 => implTaken 2 w0
  have hC7 : ∀ w0 (x1 : ByteArray) (x2 : ByteArray), (x1.size ≤ maxLen) → (x2.size ≤ maxLen) → (InsOk 2 x1 x2) → Calls Try.prog 101 #[.agg #[.int .i64 2, .string x1, .string x2]] w0 fun r w' => r = .returned (.bool true) ∧ Below w0.heap.size w0 w' := fun w0 x1 x2 n0 n1 n2 => by rw [← boolP_yes n2]; exact implInsR 2 x1 x2 w0 n0 n1
  have hC8 : ∀ w0 (x1 : ByteArray) (x2 : ByteArray) (V6 : Value), Calls Try.prog 102 #[.agg #[.int .i64 2, .string x1, .string x2], V6] w0 fun r w' => r = .returned (ndV (.has x1)) ∧ Below w0.heap.size w0 w' := fun w0 x1 x2 V6 => overHas x1 x2 _ w0
  have hC9 : ∀ w0, Calls Try.prog 100 #[.int .i64 3] w0 fun r w' => r = .returned (.int .i64 1) ∧ w0 = w' := fun w0 => implTaken 3 w0
  have hC10 : ∀ w0 (x1 : ByteArray) (x2 : ByteArray), (x1.size ≤ maxLen) → (x2.size ≤ maxLen) → (InsOk 3 x1 x2) → Calls Try.prog 101 #[.agg #[.int .i64 3, .string x1, .string x2]] w0 fun r w' => r = .returned (.bool true) ∧ Below w0.heap.size w0 w' := fun w0 x1 x2 n0 n1 n2 => by rw [← boolP_yes n2]; exact implInsR 3 x1 x2 w0 n0 n1
  have hC11 : ∀ w0 (r : List Nd), Calls Try.prog 100 #[.int .i64 3] w0 fun r w' => r = .returned (.int .i64 1) ∧ w0 = w' := fun w0 r => implTaken 3 w0
  have hC12 : ∀ w0 (x1 : ByteArray) (x2 : ByteArray) (r : List Nd), (x1.size ≤ maxLen) → (x2.size ≤ maxLen) → (InsOk 3 x1 x2) → Calls Try.prog 101 #[.agg #[.int .i64 3, .string x1, .string x2]] w0 fun r w' => r = .returned (.bool true) ∧ Below w0.heap.size w0 w' := fun w0 x1 x2 r n0 n1 n2 => by rw [← boolP_yes n2]; exact implInsR 3 x1 x2 w0 n0 n1
  have hC13 : ∀ w0 (m : Nat) (ca : Nat) (x1 : ByteArray) (x2 : ByteArray) (g : Nat) (m1 : Nat) (q1 : Nd) (r : List Nd), (w0.cell? ⟨g, m1, none⟩ = some (ndV q1)) → (1 ≤ m - m1) → Calls Try.prog 102 #[.agg #[.int .i64 3, .string x1, .string x2], .slice (some ⟨g, m1, none⟩) (m - m1) (ca - m1)] w0 fun r w' => r = .returned (ndV (.neg q1)) ∧ Below w0.heap.size w0 w' := fun w0 m ca x1 x2 g m1 q1 r n0 n1 => overNot x1 x2 g m1 _ _ q1 w0 n0 n1
  have hC14 : ∀ w0, Calls Try.prog 100 #[.int .i64 4] w0 fun r w' => r = .returned (.int .i64 2) ∧ w0 = w' := fun w0 => implTaken 4 w0
  have hC15 : ∀ w0 (x1 : ByteArray) (x2 : ByteArray), (x1.size ≤ maxLen) → (x2.size ≤ maxLen) → (InsOk 4 x1 x2) → Calls Try.prog 101 #[.agg #[.int .i64 4, .string x1, .string x2]] w0 fun r w' => r = .returned (.bool true) ∧ Below w0.heap.size w0 w' := fun w0 x1 x2 n0 n1 n2 => by rw [← boolP_yes n2]; exact implInsR 4 x1 x2 w0 n0 n1
  have hC16 : ∀ w0, Calls Try.prog 100 #[.int .i64 5] w0 fun r w' => r = .returned (.int .i64 2) ∧ w0 = w' := fun w0 => implTaken 5 w0
  have hC17 : ∀ w0 (x1 : ByteArray) (x2 : ByteArray), (x1.size ≤ maxLen) → (x2.size ≤ maxLen) → (InsOk 5 x1 x2) → Calls Try.prog 101 #[.agg #[.int .i64 5, .string x1, .string x2]] w0 fun r w' => r = .returned (.bool true) ∧ Below w0.heap.size w0 w' := fun w0 x1 x2 n0 n1 n2 => by rw [← boolP_yes n2]; exact implInsR 5 x1 x2 w0 n0 n1
  have hC18 : ∀ w0 (r : List Nd), Calls Try.prog 100 #[.int .i64 4] w0 fun r w' => r = .returned (.int .i64 2) ∧ w0 = w' := fun w0 r => implTaken 4 w0
  have hC19 : ∀ w0 (x1 : ByteArray) (x2 : ByteArray) (r : List Nd), (x1.size ≤ maxLen) → (x2.size ≤ maxLen) → (InsOk 4 x1 x2) → Calls Try.prog 101 #[.agg #[.int .i64 4, .string x1, .string x2]] w0 fun r w' => r = .returned (.bool true) ∧ Below w0.heap.size w0 w' := fun w0 x1 x2 r n0 n1 n2 => by rw [← boolP_yes n2]; exact implInsR 4 x1 x2 w0 n0 n1
  have hC20 : ∀ w0 (m : Nat) (ca : Nat) (x1 : ByteArray) (x2 : ByteArray) (g : Nat) (m1 : Nat) (q1 : Nd) (r : List Nd) (q2 : Nd), (w0.cell? ⟨g, m1, none⟩ = some (ndV q1)) → (w0.cell? ⟨g, m1 + 1, none⟩ = some (ndV q2)) → (2 ≤ m - m1) → Calls Try.prog 102 #[.agg #[.int .i64 4, .string x1, .string x2], .slice (some ⟨g, m1, none⟩) (m - m1) (ca - m1)] w0 fun r w' => r = .returned (ndV (.par 4 q1 q2)) ∧ Below w0.heap.size w0 w' := fun w0 m ca x1 x2 g m1 q1 r q2 n0 n1 n2 => overPar4 x1 x2 g m1 _ _ q1 q2 w0 n0 n1 n2
  have hC21 : ∀ w0 (r : List Nd), Calls Try.prog 100 #[.int .i64 5] w0 fun r w' => r = .returned (.int .i64 2) ∧ w0 = w' := fun w0 r => implTaken 5 w0
  have hC22 : ∀ w0 (x1 : ByteArray) (x2 : ByteArray) (r : List Nd), (x1.size ≤ maxLen) → (x2.size ≤ maxLen) → (InsOk 5 x1 x2) → Calls Try.prog 101 #[.agg #[.int .i64 5, .string x1, .string x2]] w0 fun r w' => r = .returned (.bool true) ∧ Below w0.heap.size w0 w' := fun w0 x1 x2 r n0 n1 n2 => by rw [← boolP_yes n2]; exact implInsR 5 x1 x2 w0 n0 n1
  have hC23 : ∀ w0 (m : Nat) (ca : Nat) (x1 : ByteArray) (x2 : ByteArray) (g : Nat) (m1 : Nat) (q1 : Nd) (r : List Nd) (q2 : Nd), (w0.cell? ⟨g, m1, none⟩ = some (ndV q1)) → (w0.cell? ⟨g, m1 + 1, none⟩ = some (ndV q2)) → (2 ≤ m - m1) → Calls Try.prog 102 #[.agg #[.int .i64 5, .string x1, .string x2], .slice (some ⟨g, m1, none⟩) (m - m1) (ca - m1)] w0 fun r w' => r = .returned (ndV (.par 5 q1 q2)) ∧ Below w0.heap.size w0 w' := fun w0 m ca x1 x2 g m1 q1 r q2 n0 n1 n2 => overPar5 x1 x2 g m1 _ _ q1 q2 w0 n0 n1 n2
  have HS0 : Hid (Sta [] w [] [⟨fun k => k < w.heap.size, fun w' => InsAt w' a l⟩] w) := Sta.arg (fun w' => InsAt w' a l) (fun w' hb => h.below hb)
  clear h hn hw
  go_enter Try.func50, Try.ntmps50
  by_cases g6 : 60 < n
  · as_aux_lemma =>
    have d6 : decide ((60 : Int) < (n : Int)) = true := decide_eq_true (by omega)
    have HF := hidP (node_long HN.out g6)
    go_wp2_with fail
    go_ret2
    exact ⟨by rw [HF.out]; rfl, Sta.fin HS0⟩
  · have d6 : decide ((60 : Int) < (n : Int)) = false := decide_eq_false (by omega)
    have H6 := hidP g6
    have HS1 : Hid (Sta [] w [] [⟨fun k => (Value.slice none 0 0).ownBlock = some k, fun w' => NdO w' w.heap.size (.slice none 0 0) ([])⟩, ⟨fun k => k < w.heap.size, fun w' => InsAt w' a l⟩] w) := Sta.own0 w.heap.size 79 1 HS0
    go_wp2_with fail
    go_loopw [13, 4] (fun v0 v1 wr => ∃ (k : Nat) (aa : Option Addr) (m : Nat) (ca : Nat) (st : List Nd), v0 = .int .i64 (k : Int) ∧ v1 = .slice aa m ca ∧ k ≤ n ∧ Hid (runN (l.take k) = some st) ∧ Hid (st.length = m) ∧ Hid (Sta [] w [] [⟨fun k => (Value.slice aa m ca).ownBlock = some k, fun w' => NdO w' w.heap.size (.slice aa m ca) st.reverse⟩, ⟨fun k => k < w.heap.size, fun w' => InsAt w' a l⟩] wr)) (fun v0 v1 _ => n - (intOf v0).toNat)
    case atStart => exact ⟨0, none, 0, 0, [], rfl, rfl, Nat.zero_le _, rfl, rfl, HS1⟩
    case round =>
      rename Go.World => wl2
      clear HS1
      obtain ⟨k, aa, m, ca, st, rfl, rfl, hk2, HR, HL, HS2⟩ := hrel
      by_cases hlt2 : k < n
      case neg =>
        obtain rfl : n = k := by omega
        by_cases g1c : m = 1
        · as_aux_lemma =>
          subst g1c
          obtain ⟨y, rfl⟩ : ∃ y, st = [y] := List.length_eq_one_iff.1 HL.out
          have HF := hidP (node_one HN.out H6.out HR.out)
          obtain ⟨g, rfl⟩ : ∃ g, aa = some ⟨g, 0, none⟩ := by
            rcases NdO.forms (Sta.t (i := 0) HS2 rfl : NdO _ _ (.slice aa 1 ca) _) with ⟨_, h0⟩ | ⟨g, c', n', _, h1, h2⟩
            · exact absurd h0 (by simp)
            · injection h1 with e1 e2 e3; subst e1; exact ⟨g, rfl⟩
          have HS3 := Sta.imp 0 (fun w' => NdO w' w.heap.size (.slice (some ⟨g, 0, none⟩) 1 ca) [y] ∧ w'.cell? ⟨g, 0, none⟩ = some (ndV y)) HS2 rfl (fun w' h => ⟨h, NdO.cell h 0 (by simp)⟩)
          have tcHS3_0_0 : wl2.cell? ⟨g, 0, none⟩ = some (ndV y) := (Sta.t (i := 0) HS3 rfl :).2
          go_wp2_with fail
          go_ret2
          exact ⟨by rw [HF.out]; rfl, Sta.fin HS3⟩
        · as_aux_lemma =>
          have HF := hidP (node_many HN.out HR.out (by rw [HL.out]; exact g1c))
          have de1 : decide ((m : Int) = 1) = false := decide_eq_false (by omega)
          have de2 : ((m : Int) == 1) = false := beq_eq_false_iff_ne.2 (by omega)
          have de4 : ((m : Int) != 1) = true := by rw [bne, de2]; rfl
          have de3 : ¬ ((m : Int) = 1) := by omega
          go_wp2_with fail
          go_ret2
          exact ⟨by rw [HF.out]; rfl, Sta.fin HS2⟩
      have lk2 : (k : Int) < n := by omega
      have l02 : (0 : Int) ≤ k := by omega
      have hkl : k < l.length := by have := HN.out; omega
      obtain ⟨b, o, rfl, hz4⟩ := (Sta.t (i := 1) HS2 rfl :) k hkl
      clear hz4
      obtain ⟨x0, hx0⟩ : ∃ y, l[k].op = y := ⟨_, rfl⟩
      obtain ⟨x1, hx1⟩ : ∃ y, l[k].key = y := ⟨_, rfl⟩
      obtain ⟨x2, hx2⟩ : ∃ y, l[k].val = y := ⟨_, rfl⟩
      have HS5 := Sta.imp 1 (fun w' => (InsAt w' (some ⟨b, o, none⟩) l) ∧ w'.cell? ⟨b, o + k * 3, none⟩ = some (.int .i64 x0) ∧ w'.cell? ⟨b, o + k * 3 + 1, none⟩ = some (.string x1) ∧ w'.cell? ⟨b, o + k * 3 + 2, none⟩ = some (.string x2)) HS2 rfl (fun w' h => ⟨h, by rw [← hx0]; exact (InsAt.here h k hkl).1, by rw [← hx1]; exact (InsAt.here h k hkl).2.1, by rw [← hx2]; exact (InsAt.here h k hkl).2.2⟩)
      have W1 : Hid (x1.size ≤ maxLen) := by have := (HW.out l[k] (List.getElem_mem hkl)).2.1; rw [hx1] at this; exact this
      have W2 : Hid (x2.size ≤ maxLen) := by have := (HW.out l[k] (List.getElem_mem hkl)).2.2; rw [hx2] at this; exact this
      have HM6 : Hid (m ≤ 60) := by have h1 := (run_w (Nat.le_of_lt hkl) HR.out).2; have h2 := len_sum st; have h3 := HL.out; have h4 := H6.out; have h5 := HN.out; show _ ≤ _; omega
      rcases step_cases st x0 x1 x2 with ⟨ho, hs⟩ | ⟨ho, y, ⟨h, hy⟩ | ⟨h, hy⟩, hs⟩ | ⟨ho, h, hst, hs⟩ | ⟨ho, h, q1, r, hst, hs⟩ | ⟨ho, h | h, hl2, hs⟩ | ⟨ho, h | h, q1, q2, r, hst, hs⟩
      · as_aux_lemma =>
        have HO := hidP ho
        have HF := hidP (node_at hkl hx0 hx1 hx2 HR.out hs)
        clear hs ho
        have tcHS5_1_0 : wl2.cell? ⟨b, o + k * 3, none⟩ = some (.int .i64 x0) := (Sta.t (i := 1) HS5 rfl :).2.1
        have tcHS5_1_1 : wl2.cell? ⟨b, o + k * 3 + 1, none⟩ = some (.string x1) := (Sta.t (i := 1) HS5 rfl :).2.2.1
        have tcHS5_1_2 : wl2.cell? ⟨b, o + k * 3 + 2, none⟩ = some (.string x2) := (Sta.t (i := 1) HS5 rfl :).2.2.2
        go_wp2_with (first
          | ((with_reducible refine wpList_allocV (w := wl2) (by with_unfolding_all rfl) 41 (by with_unfolding_all rfl) [.int .i64 0, .string ⟨#[]⟩, .string ⟨#[]⟩] Try.zT_implIns ?_); intro w6 hA6 hB6 hS6; clear hS6; have HS6 := Sta.new HS5 hA6 hB6 (by simp); clear hA6 hB6; clear tcHS5_1_0 tcHS5_1_1 tcHS5_1_2)
          | ((with_reducible refine wpList_storeS (w := w6) (by with_unfolding_all rfl) 41 (.tmp 6) (.tmp 16) (by with_unfolding_all rfl) wl2.heap.size [.int .i64 0, .string ⟨#[]⟩, .string ⟨#[]⟩] [.int .i64 x0, .string x1, .string x2] (by with_unfolding_all rfl) (by with_unfolding_all rfl) (Sta.r (i := 0) HS6 (by with_unfolding_all rfl)) 3 Try.sT_implIns (by with_unfolding_all rfl) (by with_unfolding_all rfl) (by with_unfolding_all rfl) ?_); intro w7 hA7 hO7; have HS7 := Sta.put 0 HS6 rfl hA7 (by simp) hO7; clear hA7 hO7; have cHS7_0_0 : w7.cell? ⟨wl2.heap.size, 0, none⟩ = some (.int .i64 x0) := Sta.c (i := 0) HS7 rfl rfl)
          | (go_at_call 100; (with_reducible refine (hC1 w7 x0).mono ?_); rintro r w' ⟨T, rfl, rfl⟩)
          | ((with_reducible refine wpList_loadV (w := w7) (by with_unfolding_all rfl) 41 (.tmp 6) (by with_unfolding_all rfl) wl2.heap.size [.int .i64 x0, .string x1, .string x2] (by with_unfolding_all rfl) (Sta.r (i := 0) HS7 (by with_unfolding_all rfl)) Try.uT_implIns 3 Try.sT_implIns (by with_unfolding_all rfl) ?_))
          | (go_at_call 101; (with_reducible refine (hC2 w7 x0 x1 x2 W1.out W2.out HO.out).mono ?_); rintro r w9 ⟨rfl, hB9⟩; have HS9 := Sta.call HS7 hB9; clear hB9; clear cHS7_0_0))
        go_ret2
        exact ⟨by rw [HF.out]; rfl, Sta.fin HS9⟩
      · as_aux_lemma =>
        have HO := hidP ho
        have hfm := NdO.forms (Sta.t (i := 0) HS5 rfl : NdO _ _ (.slice aa m ca) _)
        have HR2 := hidP ((runN_snoc hkl hx0 hx1 hx2 HR.out).trans hs)
        have hy' := hy
        clear hs ho
        subst h
        subst hy
        have hm60 := HM6.out
        have ewm : IntKind.i64.wrap (m : Int) = (m : Int) := by simp [IntKind.wrap, IntKind.signed, IntKind.bits]; omega
        have dm0 : decide ((m : Int) < 0) = false := decide_eq_false (by omega)
        obtain ⟨hnil, hspt, hmc⟩ := nd_forms hfm
        have s1 := Try.sliceLoN aa m ca m hmc hnil hspt
        obtain ⟨V6, s2⟩ := Try.sliceHiE aa m ca m (Nat.le_refl _) hmc hnil hspt
        have HNF := hidP hnil
        clear hnil hspt hfm hy'
        have tcHS5_1_0 : wl2.cell? ⟨b, o + k * 3, none⟩ = some (.int .i64 1) := (Sta.t (i := 1) HS5 rfl :).2.1
        have tcHS5_1_1 : wl2.cell? ⟨b, o + k * 3 + 1, none⟩ = some (.string x1) := (Sta.t (i := 1) HS5 rfl :).2.2.1
        have tcHS5_1_2 : wl2.cell? ⟨b, o + k * 3 + 2, none⟩ = some (.string x2) := (Sta.t (i := 1) HS5 rfl :).2.2.2
        go_wp2_with (first
          | ((with_reducible refine wpList_allocV (w := wl2) (by with_unfolding_all rfl) 41 (by with_unfolding_all rfl) [.int .i64 0, .string ⟨#[]⟩, .string ⟨#[]⟩] Try.zT_implIns ?_); intro w10 hA10 hB10 hS10; clear hS10; have HS10 := Sta.new HS5 hA10 hB10 (by simp); clear hA10 hB10; clear tcHS5_1_0 tcHS5_1_1 tcHS5_1_2)
          | ((with_reducible refine wpList_storeS (w := w10) (by with_unfolding_all rfl) 41 (.tmp 6) (.tmp 16) (by with_unfolding_all rfl) wl2.heap.size [.int .i64 0, .string ⟨#[]⟩, .string ⟨#[]⟩] [.int .i64 1, .string x1, .string x2] (by with_unfolding_all rfl) (by with_unfolding_all rfl) (Sta.r (i := 0) HS10 (by with_unfolding_all rfl)) 3 Try.sT_implIns (by with_unfolding_all rfl) (by with_unfolding_all rfl) (by with_unfolding_all rfl) ?_); intro w11 hA11 hO11; have HS11 := Sta.put 0 HS10 rfl hA11 (by simp) hO11; clear hA11 hO11; have cHS11_0_0 : w11.cell? ⟨wl2.heap.size, 0, none⟩ = some (.int .i64 1) := Sta.c (i := 0) HS11 rfl rfl)
          | (go_at_call 100; (with_reducible refine (hC3 w11).mono ?_); rintro r w' ⟨rfl, rfl⟩)
          | ((with_reducible refine wpList_loadV (w := w11) (by with_unfolding_all rfl) 41 (.tmp 6) (by with_unfolding_all rfl) wl2.heap.size [.int .i64 1, .string x1, .string x2] (by with_unfolding_all rfl) (Sta.r (i := 0) HS11 (by with_unfolding_all rfl)) Try.uT_implIns 3 Try.sT_implIns (by with_unfolding_all rfl) ?_))
          | (go_at_call 101; (with_reducible refine (hC4 w11 x1 x2 W1.out W2.out HO.out).mono ?_); rintro r w13 ⟨rfl, hB13⟩; have HS13 := Sta.call HS11 hB13; clear hB13; clear cHS11_0_0))
        have HS14 := Sta.drew HS13
        refine wp_region_held_drew (S := fun w' => w'.cell? ⟨wl2.heap.size, 0, none⟩ = some (.int .i64 1) ∧ w'.cell? ⟨wl2.heap.size, 1, none⟩ = some (.string x1) ∧ w'.cell? ⟨wl2.heap.size, 2, none⟩ = some (.string x2)) (by kernel_rfl) ⟨Sta.c (i := 0) HS14 rfl rfl, Sta.c (i := 0) HS14 rfl rfl, Sta.c (i := 0) HS14 rfl rfl⟩ (fun hHeld => ?_)
        generalize w13.drew = w14 at *
        refine wpAnyH_take (i := 0) (oi := ⟨_, _, _, _, _, _⟩) (v := .slice aa m ca) rfl (by kernel_rfl) (by kernel_rfl) (by kernel_rfl) (fun _ _ _ h => h) (Or.inl ⟨wanted_free rfl, fun w' hSw => ?_⟩) hHeld ?_
        · go_simp
        try simp only [Act.put, List.setIfInBounds_toArray, List.set_cons_zero, List.set_cons_succ]
        refine wpAnyH_take (i := 1) (oi := ⟨_, _, _, _, _, _⟩) (v := .int .i64 (m : Int)) rfl (by kernel_rfl) (by kernel_rfl) (by kernel_rfl) (fun _ _ _ h => h) (Or.inl ⟨wanted_free rfl, fun w' hSw => ?_⟩) hHeld ?_
        · go_simp
        try simp only [Act.put, List.setIfInBounds_toArray, List.set_cons_zero, List.set_cons_succ]
        refine wpAnyH_take (i := 2) (oi := ⟨_, _, _, _, _, _⟩) (v := .slice aa m ca) rfl (by kernel_rfl) (by kernel_rfl) (by kernel_rfl) (fun _ _ _ h => h) (Or.inl ⟨wanted_free rfl, fun w' hSw => ?_⟩) hHeld ?_
        · go_simp
        try simp only [Act.put, List.setIfInBounds_toArray, List.set_cons_zero, List.set_cons_succ]
        refine wpAnyH_take (i := 3) (oi := ⟨_, _, _, _, _, _⟩) (v := .agg #[.int .i64 1, .string x1, .string x2]) rfl (by kernel_rfl) (by kernel_rfl) (by kernel_rfl) (fun _ _ _ h => h) (Or.inl ⟨wanted_free rfl, fun w' hSw => ?_⟩) hHeld ?_
        · obtain ⟨s0, s1, s2⟩ := hSw
          go_simp
        try simp only [Act.put, List.setIfInBounds_toArray, List.set_cons_zero, List.set_cons_succ]
        refine wpAnyH_take (i := 4) (oi := ⟨_, _, _, _, _, _⟩) (v := .slice aa m ca) rfl (by kernel_rfl) (by kernel_rfl) (by kernel_rfl) (fun _ _ _ h => h) (Or.inl ⟨wanted_free rfl, fun w' hSw => ?_⟩) hHeld ?_
        · go_simp
        try simp only [Act.put, List.setIfInBounds_toArray, List.set_cons_zero, List.set_cons_succ]
        refine wpAnyH_take (i := 5) (oi := ⟨_, _, _, _, _, _⟩) (v := .int .i64 (m : Int)) rfl (by kernel_rfl) (by kernel_rfl) (by kernel_rfl) (fun _ _ _ h => h) (Or.inl ⟨wanted_free rfl, fun w' hSw => ?_⟩) hHeld ?_
        · go_simp
        try simp only [Act.put, List.setIfInBounds_toArray, List.set_cons_zero, List.set_cons_succ]
        refine wpAnyH_take (i := 6) (oi := ⟨_, _, _, _, _, _⟩) (v := V6) rfl (by kernel_rfl) (by kernel_rfl) (by kernel_rfl) (fun _ _ _ h => h) (Or.inl ⟨wanted_free rfl, fun w' hSw => ?_⟩) hHeld ?_
        · go_simp
        try simp only [Act.put, List.setIfInBounds_toArray, List.set_cons_zero, List.set_cons_succ]
        refine wpAnyH_ready (rs := [7]) (by kernel_rfl) (by simp) (AllReadyH.cons (o := ⟨_, _, _, _, _, _⟩) rfl (fun K hK => ?_) AllReadyH.nil)
        rewrite [if_pos (wanted_free rfl)]
        go_simp
        (with_reducible refine (hC5 w14 x1 x2 V6).mono ?_)
        rintro r w15 ⟨rfl, hB15⟩
        have HS15 := Sta.call HS14 hB15
        clear hB15
        go_wp2_with fail
        refine hK.out _ _ ⟨Sta.c (i := 0) HS15 rfl rfl, Sta.c (i := 0) HS15 rfl rfl, Sta.c (i := 0) HS15 rfl rfl⟩ (fun hHeld => ?_)
        clear hK K
        try simp only [Act.put, List.setIfInBounds_toArray, List.set_cons_zero, List.set_cons_succ]
        refine wpAnyH_ready (rs := [8]) (by kernel_rfl) (by simp) (AllReadyH.cons (o := ⟨_, _, _, _, _, _⟩) rfl (fun K hK => ?_) AllReadyH.nil)
        rewrite [if_pos (wanted_free rfl)]
        with_reducible refine wp_buildNd (.tmp 37) (by with_unfolding_all rfl) (.is x1 x2) (by with_unfolding_all rfl) ?_
        intro w16 hA16 hB16
        have HS16 := Sta.new HS15 hA16 hB16 (by simp)
        clear hA16 hB16
        refine hK.out _ _ ⟨Sta.c (i := 1) HS16 rfl rfl, Sta.c (i := 1) HS16 rfl rfl, Sta.c (i := 1) HS16 rfl rfl⟩ (fun hHeld => ?_)
        clear hK K
        try simp only [Act.put, List.setIfInBounds_toArray, List.set_cons_zero, List.set_cons_succ]
        refine wpAnyH_ready (rs := [9]) (by kernel_rfl) (by simp) (AllReadyH.cons (o := ⟨_, _, _, _, _, _⟩) rfl (fun K hK => ?_) AllReadyH.nil)
        rewrite [if_pos (wanted_free rfl)]
        with_reducible refine wp_appendNd (W := w16) (.tmp 32) (.tmp 38) (by with_unfolding_all rfl) w.heap.size (.slice aa m ca) st.reverse (.is x1 x2) (by with_unfolding_all rfl) (Sta.t (i := 0) HS16 rfl) w15.heap.size (by with_unfolding_all rfl) (Sta.r (i := 0) HS16 (by with_unfolding_all rfl)) (by have := HL.out; have := HM6.out; rw [List.length_reverse]; omega) (Sta.size HS16) ?_
        intro v17 w17 hO17 hG17 hb17
        obtain ⟨a17, m17, c17, hm17, rfl⟩ := NdO.form hO17
        have HS17 := Sta.app 0 HS16 rfl (Nat.le_refl _) hO17 hG17 hb17
        have Hm17 := hidP hm17
        clear hO17 hG17 hb17 hm17
        refine hK.out _ _ ⟨Sta.c (i := 1) HS17 rfl rfl, Sta.c (i := 1) HS17 rfl rfl, Sta.c (i := 1) HS17 rfl rfl⟩ (fun hHeld => ?_)
        clear hK K
        try simp only [Act.put, List.setIfInBounds_toArray, List.set_cons_zero, List.set_cons_succ]
        refine wpAnyH_take (i := 10) (oi := ⟨_, _, _, _, _, _⟩) (v := .slice a17 m17 c17) rfl (by kernel_rfl) (by kernel_rfl) (by kernel_rfl) (fun _ _ _ h => h) (Or.inl ⟨wanted_free rfl, fun w' hSw => ?_⟩) hHeld ?_
        · go_simp
        try simp only [Act.put, List.setIfInBounds_toArray, List.set_cons_zero, List.set_cons_succ]
        refine wpAnyH_done (by kernel_rfl) ?_ _
        clear hHeld
        go_wp2_with fail
        have HS18 := Sta.imp 1 (fun w' => InsAt w' (some ⟨b, o, none⟩) l) HS17 rfl (fun w' h => h.1)
        have HS19 := Sta.imp 0 (fun w' => NdO w' w.heap.size (.slice a17 m17 c17) (.is x1 x2 :: st).reverse) HS18 rfl (fun w' h => by rw [List.reverse_cons]; exact h)
        go_roundw
        case rel => exact ⟨k + 1, a17, m17, c17, (.is x1 x2 :: st), by go_num, by go_num, hlt2, HR2, (by have := Hm17.out; show _ = _; simp at this ⊢; omega), Sta.drop 2 0 HS19⟩
        case measure => simp [intOf]; omega
      · as_aux_lemma =>
        have HO := hidP ho
        have hfm := NdO.forms (Sta.t (i := 0) HS5 rfl : NdO _ _ (.slice aa m ca) _)
        have HR2 := hidP ((runN_snoc hkl hx0 hx1 hx2 HR.out).trans hs)
        have hy' := hy
        clear hs ho
        subst h
        subst hy
        have hm60 := HM6.out
        have ewm : IntKind.i64.wrap (m : Int) = (m : Int) := by simp [IntKind.wrap, IntKind.signed, IntKind.bits]; omega
        have dm0 : decide ((m : Int) < 0) = false := decide_eq_false (by omega)
        obtain ⟨hnil, hspt, hmc⟩ := nd_forms hfm
        have s1 := Try.sliceLoN aa m ca m hmc hnil hspt
        obtain ⟨V6, s2⟩ := Try.sliceHiE aa m ca m (Nat.le_refl _) hmc hnil hspt
        have HNF := hidP hnil
        clear hnil hspt hfm hy'
        have tcHS5_1_0 : wl2.cell? ⟨b, o + k * 3, none⟩ = some (.int .i64 2) := (Sta.t (i := 1) HS5 rfl :).2.1
        have tcHS5_1_1 : wl2.cell? ⟨b, o + k * 3 + 1, none⟩ = some (.string x1) := (Sta.t (i := 1) HS5 rfl :).2.2.1
        have tcHS5_1_2 : wl2.cell? ⟨b, o + k * 3 + 2, none⟩ = some (.string x2) := (Sta.t (i := 1) HS5 rfl :).2.2.2
        go_wp2_with (first
          | ((with_reducible refine wpList_allocV (w := wl2) (by with_unfolding_all rfl) 41 (by with_unfolding_all rfl) [.int .i64 0, .string ⟨#[]⟩, .string ⟨#[]⟩] Try.zT_implIns ?_); intro w20 hA20 hB20 hS20; clear hS20; have HS20 := Sta.new HS5 hA20 hB20 (by simp); clear hA20 hB20; clear tcHS5_1_0 tcHS5_1_1 tcHS5_1_2)
          | ((with_reducible refine wpList_storeS (w := w20) (by with_unfolding_all rfl) 41 (.tmp 6) (.tmp 16) (by with_unfolding_all rfl) wl2.heap.size [.int .i64 0, .string ⟨#[]⟩, .string ⟨#[]⟩] [.int .i64 2, .string x1, .string x2] (by with_unfolding_all rfl) (by with_unfolding_all rfl) (Sta.r (i := 0) HS20 (by with_unfolding_all rfl)) 3 Try.sT_implIns (by with_unfolding_all rfl) (by with_unfolding_all rfl) (by with_unfolding_all rfl) ?_); intro w21 hA21 hO21; have HS21 := Sta.put 0 HS20 rfl hA21 (by simp) hO21; clear hA21 hO21; have cHS21_0_0 : w21.cell? ⟨wl2.heap.size, 0, none⟩ = some (.int .i64 2) := Sta.c (i := 0) HS21 rfl rfl)
          | (go_at_call 100; (with_reducible refine (hC6 w21).mono ?_); rintro r w' ⟨rfl, rfl⟩)
          | ((with_reducible refine wpList_loadV (w := w21) (by with_unfolding_all rfl) 41 (.tmp 6) (by with_unfolding_all rfl) wl2.heap.size [.int .i64 2, .string x1, .string x2] (by with_unfolding_all rfl) (Sta.r (i := 0) HS21 (by with_unfolding_all rfl)) Try.uT_implIns 3 Try.sT_implIns (by with_unfolding_all rfl) ?_))
          | (go_at_call 101; (with_reducible refine (hC7 w21 x1 x2 W1.out W2.out HO.out).mono ?_); rintro r w23 ⟨rfl, hB23⟩; have HS23 := Sta.call HS21 hB23; clear hB23; clear cHS21_0_0))
        have HS24 := Sta.drew HS23
        refine wp_region_held_drew (S := fun w' => w'.cell? ⟨wl2.heap.size, 0, none⟩ = some (.int .i64 2) ∧ w'.cell? ⟨wl2.heap.size, 1, none⟩ = some (.string x1) ∧ w'.cell? ⟨wl2.heap.size, 2, none⟩ = some (.string x2)) (by kernel_rfl) ⟨Sta.c (i := 0) HS24 rfl rfl, Sta.c (i := 0) HS24 rfl rfl, Sta.c (i := 0) HS24 rfl rfl⟩ (fun hHeld => ?_)
        generalize w23.drew = w24 at *
        refine wpAnyH_take (i := 0) (oi := ⟨_, _, _, _, _, _⟩) (v := .slice aa m ca) rfl (by kernel_rfl) (by kernel_rfl) (by kernel_rfl) (fun _ _ _ h => h) (Or.inl ⟨wanted_free rfl, fun w' hSw => ?_⟩) hHeld ?_
        · go_simp
        try simp only [Act.put, List.setIfInBounds_toArray, List.set_cons_zero, List.set_cons_succ]
        refine wpAnyH_take (i := 1) (oi := ⟨_, _, _, _, _, _⟩) (v := .int .i64 (m : Int)) rfl (by kernel_rfl) (by kernel_rfl) (by kernel_rfl) (fun _ _ _ h => h) (Or.inl ⟨wanted_free rfl, fun w' hSw => ?_⟩) hHeld ?_
        · go_simp
        try simp only [Act.put, List.setIfInBounds_toArray, List.set_cons_zero, List.set_cons_succ]
        refine wpAnyH_take (i := 2) (oi := ⟨_, _, _, _, _, _⟩) (v := .slice aa m ca) rfl (by kernel_rfl) (by kernel_rfl) (by kernel_rfl) (fun _ _ _ h => h) (Or.inl ⟨wanted_free rfl, fun w' hSw => ?_⟩) hHeld ?_
        · go_simp
        try simp only [Act.put, List.setIfInBounds_toArray, List.set_cons_zero, List.set_cons_succ]
        refine wpAnyH_take (i := 3) (oi := ⟨_, _, _, _, _, _⟩) (v := .agg #[.int .i64 2, .string x1, .string x2]) rfl (by kernel_rfl) (by kernel_rfl) (by kernel_rfl) (fun _ _ _ h => h) (Or.inl ⟨wanted_free rfl, fun w' hSw => ?_⟩) hHeld ?_
        · obtain ⟨s0, s1, s2⟩ := hSw
          go_simp
        try simp only [Act.put, List.setIfInBounds_toArray, List.set_cons_zero, List.set_cons_succ]
        refine wpAnyH_take (i := 4) (oi := ⟨_, _, _, _, _, _⟩) (v := .slice aa m ca) rfl (by kernel_rfl) (by kernel_rfl) (by kernel_rfl) (fun _ _ _ h => h) (Or.inl ⟨wanted_free rfl, fun w' hSw => ?_⟩) hHeld ?_
        · go_simp
        try simp only [Act.put, List.setIfInBounds_toArray, List.set_cons_zero, List.set_cons_succ]
        refine wpAnyH_take (i := 5) (oi := ⟨_, _, _, _, _, _⟩) (v := .int .i64 (m : Int)) rfl (by kernel_rfl) (by kernel_rfl) (by kernel_rfl) (fun _ _ _ h => h) (Or.inl ⟨wanted_free rfl, fun w' hSw => ?_⟩) hHeld ?_
        · go_simp
        try simp only [Act.put, List.setIfInBounds_toArray, List.set_cons_zero, List.set_cons_succ]
        refine wpAnyH_take (i := 6) (oi := ⟨_, _, _, _, _, _⟩) (v := V6) rfl (by kernel_rfl) (by kernel_rfl) (by kernel_rfl) (fun _ _ _ h => h) (Or.inl ⟨wanted_free rfl, fun w' hSw => ?_⟩) hHeld ?_
        · go_simp
        try simp only [Act.put, List.setIfInBounds_toArray, List.set_cons_zero, List.set_cons_succ]
        refine wpAnyH_ready (rs := [7]) (by kernel_rfl) (by simp) (AllReadyH.cons (o := ⟨_, _, _, _, _, _⟩) rfl (fun K hK => ?_) AllReadyH.nil)
        rewrite [if_pos (wanted_free rfl)]
        go_simp
        (with_reducible refine (hC8 w24 x1 x2 V6).mono ?_)
        rintro r w25 ⟨rfl, hB25⟩
        have HS25 := Sta.call HS24 hB25
        clear hB25
        go_wp2_with fail
        refine hK.out _ _ ⟨Sta.c (i := 0) HS25 rfl rfl, Sta.c (i := 0) HS25 rfl rfl, Sta.c (i := 0) HS25 rfl rfl⟩ (fun hHeld => ?_)
        clear hK K
        try simp only [Act.put, List.setIfInBounds_toArray, List.set_cons_zero, List.set_cons_succ]
        refine wpAnyH_ready (rs := [8]) (by kernel_rfl) (by simp) (AllReadyH.cons (o := ⟨_, _, _, _, _, _⟩) rfl (fun K hK => ?_) AllReadyH.nil)
        rewrite [if_pos (wanted_free rfl)]
        with_reducible refine wp_buildNd (.tmp 37) (by with_unfolding_all rfl) (.has x1) (by with_unfolding_all rfl) ?_
        intro w26 hA26 hB26
        have HS26 := Sta.new HS25 hA26 hB26 (by simp)
        clear hA26 hB26
        refine hK.out _ _ ⟨Sta.c (i := 1) HS26 rfl rfl, Sta.c (i := 1) HS26 rfl rfl, Sta.c (i := 1) HS26 rfl rfl⟩ (fun hHeld => ?_)
        clear hK K
        try simp only [Act.put, List.setIfInBounds_toArray, List.set_cons_zero, List.set_cons_succ]
        refine wpAnyH_ready (rs := [9]) (by kernel_rfl) (by simp) (AllReadyH.cons (o := ⟨_, _, _, _, _, _⟩) rfl (fun K hK => ?_) AllReadyH.nil)
        rewrite [if_pos (wanted_free rfl)]
        with_reducible refine wp_appendNd (W := w26) (.tmp 32) (.tmp 38) (by with_unfolding_all rfl) w.heap.size (.slice aa m ca) st.reverse (.has x1) (by with_unfolding_all rfl) (Sta.t (i := 0) HS26 rfl) w25.heap.size (by with_unfolding_all rfl) (Sta.r (i := 0) HS26 (by with_unfolding_all rfl)) (by have := HL.out; have := HM6.out; rw [List.length_reverse]; omega) (Sta.size HS26) ?_
        intro v27 w27 hO27 hG27 hb27
        obtain ⟨a27, m27, c27, hm27, rfl⟩ := NdO.form hO27
        have HS27 := Sta.app 0 HS26 rfl (Nat.le_refl _) hO27 hG27 hb27
        have Hm27 := hidP hm27
        clear hO27 hG27 hb27 hm27
        refine hK.out _ _ ⟨Sta.c (i := 1) HS27 rfl rfl, Sta.c (i := 1) HS27 rfl rfl, Sta.c (i := 1) HS27 rfl rfl⟩ (fun hHeld => ?_)
        clear hK K
        try simp only [Act.put, List.setIfInBounds_toArray, List.set_cons_zero, List.set_cons_succ]
        refine wpAnyH_take (i := 10) (oi := ⟨_, _, _, _, _, _⟩) (v := .slice a27 m27 c27) rfl (by kernel_rfl) (by kernel_rfl) (by kernel_rfl) (fun _ _ _ h => h) (Or.inl ⟨wanted_free rfl, fun w' hSw => ?_⟩) hHeld ?_
        · go_simp
        try simp only [Act.put, List.setIfInBounds_toArray, List.set_cons_zero, List.set_cons_succ]
        refine wpAnyH_done (by kernel_rfl) ?_ _
        clear hHeld
        go_wp2_with fail
        have HS28 := Sta.imp 1 (fun w' => InsAt w' (some ⟨b, o, none⟩) l) HS27 rfl (fun w' h => h.1)
        have HS29 := Sta.imp 0 (fun w' => NdO w' w.heap.size (.slice a27 m27 c27) (.has x1 :: st).reverse) HS28 rfl (fun w' h => by rw [List.reverse_cons]; exact h)
        go_roundw
        case rel => exact ⟨k + 1, a27, m27, c27, (.has x1 :: st), by go_num, by go_num, hlt2, HR2, (by have := Hm27.out; show _ = _; simp at this ⊢; omega), Sta.drop 2 0 HS29⟩
        case measure => simp [intOf]; omega
      · as_aux_lemma =>
        have HO := hidP ho
        have HF := hidP (node_at hkl hx0 hx1 hx2 HR.out hs)
        have hm0 : m = 0 := by have := HL.out; rw [hst] at this; exact this.symm
        clear hs ho
        subst h
        have ewm : IntKind.i64.wrap ((m : Int) - 1) = (m : Int) - 1 := by simp [IntKind.wrap, IntKind.signed, IntKind.bits]; omega
        have dm0 : decide ((m : Int) - 1 < 0) = true := decide_eq_true (by omega)
        clear hm0 hst
        have tcHS5_1_0 : wl2.cell? ⟨b, o + k * 3, none⟩ = some (.int .i64 3) := (Sta.t (i := 1) HS5 rfl :).2.1
        have tcHS5_1_1 : wl2.cell? ⟨b, o + k * 3 + 1, none⟩ = some (.string x1) := (Sta.t (i := 1) HS5 rfl :).2.2.1
        have tcHS5_1_2 : wl2.cell? ⟨b, o + k * 3 + 2, none⟩ = some (.string x2) := (Sta.t (i := 1) HS5 rfl :).2.2.2
        go_wp2_with (first
          | ((with_reducible refine wpList_allocV (w := wl2) (by with_unfolding_all rfl) 41 (by with_unfolding_all rfl) [.int .i64 0, .string ⟨#[]⟩, .string ⟨#[]⟩] Try.zT_implIns ?_); intro w30 hA30 hB30 hS30; clear hS30; have HS30 := Sta.new HS5 hA30 hB30 (by simp); clear hA30 hB30; clear tcHS5_1_0 tcHS5_1_1 tcHS5_1_2)
          | ((with_reducible refine wpList_storeS (w := w30) (by with_unfolding_all rfl) 41 (.tmp 6) (.tmp 16) (by with_unfolding_all rfl) wl2.heap.size [.int .i64 0, .string ⟨#[]⟩, .string ⟨#[]⟩] [.int .i64 3, .string x1, .string x2] (by with_unfolding_all rfl) (by with_unfolding_all rfl) (Sta.r (i := 0) HS30 (by with_unfolding_all rfl)) 3 Try.sT_implIns (by with_unfolding_all rfl) (by with_unfolding_all rfl) (by with_unfolding_all rfl) ?_); intro w31 hA31 hO31; have HS31 := Sta.put 0 HS30 rfl hA31 (by simp) hO31; clear hA31 hO31; have cHS31_0_0 : w31.cell? ⟨wl2.heap.size, 0, none⟩ = some (.int .i64 3) := Sta.c (i := 0) HS31 rfl rfl)
          | (go_at_call 100; (with_reducible refine (hC9 w31).mono ?_); rintro r w' ⟨rfl, rfl⟩)
          | ((with_reducible refine wpList_loadV (w := w31) (by with_unfolding_all rfl) 41 (.tmp 6) (by with_unfolding_all rfl) wl2.heap.size [.int .i64 3, .string x1, .string x2] (by with_unfolding_all rfl) (Sta.r (i := 0) HS31 (by with_unfolding_all rfl)) Try.uT_implIns 3 Try.sT_implIns (by with_unfolding_all rfl) ?_))
          | (go_at_call 101; (with_reducible refine (hC10 w31 x1 x2 W1.out W2.out HO.out).mono ?_); rintro r w33 ⟨rfl, hB33⟩; have HS33 := Sta.call HS31 hB33; clear hB33; clear cHS31_0_0))
        go_ret2
        exact ⟨by rw [HF.out]; rfl, Sta.fin HS33⟩
      · as_aux_lemma =>
        have HO := hidP ho
        have hfm := NdO.forms (Sta.t (i := 0) HS5 rfl : NdO _ _ (.slice aa m ca) _)
        have HR2 := hidP ((runN_snoc hkl hx0 hx1 hx2 HR.out).trans hs)
        clear hs ho
        subst h
        subst hst
        have hm60 := HM6.out
        obtain ⟨g, rfl, hmc⟩ : ∃ g, aa = some ⟨g, 0, none⟩ ∧ m ≤ ca := by
          rcases hfm with ⟨_, h0⟩ | ⟨g, c', n', _, h1, h2⟩
          · exact absurd h0 (by simp)
          · injection h1 with e1 e2 e3; subst e1 e2 e3; exact ⟨g, rfl, h2⟩
        obtain ⟨m1, hm1⟩ : ∃ m1, m = m1 + 1 := ⟨r.length, by have := HL.out; simp at this; omega⟩
        have HL1 : Hid (r.reverse.length = m1) := by have := HL.out; simp at this; show _ = _; rw [List.length_reverse]; omega
        have HM1 : Hid (m = m1 + 1 ∧ 1 ≤ m - m1) := ⟨hm1, by omega⟩
        have ek : (m : Int) - 1 = (m1 : Int) := by omega
        have ewk : IntKind.i64.wrap (m1 : Int) = (m1 : Int) := by simp [IntKind.wrap, IntKind.signed, IntKind.bits]; omega
        have dm0 : decide ((m1 : Int) < 0) = false := decide_eq_false (by omega)
        have s1 := Try.sliceLoN (some ⟨g, 0, none⟩) m ca m1 (by omega) (fun e => by cases e) (fun x e => by injection e with e; rw [← e])
        have s2 := Try.sliceHiN g m ca m1 (by omega) (by omega)
        clear hm1 hmc hfm
        have HS34 := Sta.imp 0 (fun w' => NdO w' w.heap.size (.slice (some ⟨g, 0, none⟩) m ca) (r.reverse ++ [q1])) HS5 rfl (fun w' h => by have e : (q1 :: r).reverse = r.reverse ++ [q1] := (by simp); rw [← e]; exact h)
        have tcHS34_1_0 : wl2.cell? ⟨b, o + k * 3, none⟩ = some (.int .i64 3) := (Sta.t (i := 1) HS34 rfl :).2.1
        have tcHS34_1_1 : wl2.cell? ⟨b, o + k * 3 + 1, none⟩ = some (.string x1) := (Sta.t (i := 1) HS34 rfl :).2.2.1
        have tcHS34_1_2 : wl2.cell? ⟨b, o + k * 3 + 2, none⟩ = some (.string x2) := (Sta.t (i := 1) HS34 rfl :).2.2.2
        go_wp2_with (first
          | ((with_reducible refine wpList_allocV (w := wl2) (by with_unfolding_all rfl) 41 (by with_unfolding_all rfl) [.int .i64 0, .string ⟨#[]⟩, .string ⟨#[]⟩] Try.zT_implIns ?_); intro w35 hA35 hB35 hS35; clear hS35; have HS35 := Sta.new HS34 hA35 hB35 (by simp); clear hA35 hB35; clear tcHS34_1_0 tcHS34_1_1 tcHS34_1_2)
          | ((with_reducible refine wpList_storeS (w := w35) (by with_unfolding_all rfl) 41 (.tmp 6) (.tmp 16) (by with_unfolding_all rfl) wl2.heap.size [.int .i64 0, .string ⟨#[]⟩, .string ⟨#[]⟩] [.int .i64 3, .string x1, .string x2] (by with_unfolding_all rfl) (by with_unfolding_all rfl) (Sta.r (i := 0) HS35 (by with_unfolding_all rfl)) 3 Try.sT_implIns (by with_unfolding_all rfl) (by with_unfolding_all rfl) (by with_unfolding_all rfl) ?_); intro w36 hA36 hO36; have HS36 := Sta.put 0 HS35 rfl hA36 (by simp) hO36; clear hA36 hO36; have cHS36_0_0 : w36.cell? ⟨wl2.heap.size, 0, none⟩ = some (.int .i64 3) := Sta.c (i := 0) HS36 rfl rfl)
          | (go_at_call 100; (with_reducible refine (hC11 w36 r).mono ?_); rintro r w' ⟨rfl, rfl⟩)
          | ((with_reducible refine wpList_loadV (w := w36) (by with_unfolding_all rfl) 41 (.tmp 6) (by with_unfolding_all rfl) wl2.heap.size [.int .i64 3, .string x1, .string x2] (by with_unfolding_all rfl) (Sta.r (i := 0) HS36 (by with_unfolding_all rfl)) Try.uT_implIns 3 Try.sT_implIns (by with_unfolding_all rfl) ?_))
          | (go_at_call 101; (with_reducible refine (hC12 w36 x1 x2 r W1.out W2.out HO.out).mono ?_); rintro r w38 ⟨rfl, hB38⟩; have HS38 := Sta.call HS36 hB38; clear hB38; clear cHS36_0_0))
        have HS39 := Sta.drew HS38
        refine wp_region_held_drew (S := fun w' => w'.cell? ⟨wl2.heap.size, 0, none⟩ = some (.int .i64 3) ∧ w'.cell? ⟨wl2.heap.size, 1, none⟩ = some (.string x1) ∧ w'.cell? ⟨wl2.heap.size, 2, none⟩ = some (.string x2)) (by kernel_rfl) ⟨Sta.c (i := 0) HS39 rfl rfl, Sta.c (i := 0) HS39 rfl rfl, Sta.c (i := 0) HS39 rfl rfl⟩ (fun hHeld => ?_)
        generalize w38.drew = w39 at *
        refine wpAnyH_take (i := 0) (oi := ⟨_, _, _, _, _, _⟩) (v := .slice (some ⟨g, 0, none⟩) m ca) rfl (by kernel_rfl) (by kernel_rfl) (by kernel_rfl) (fun _ _ _ h => h) (Or.inl ⟨wanted_free rfl, fun w' hSw => ?_⟩) hHeld ?_
        · go_simp
        try simp only [Act.put, List.setIfInBounds_toArray, List.set_cons_zero, List.set_cons_succ]
        refine wpAnyH_take (i := 1) (oi := ⟨_, _, _, _, _, _⟩) (v := .int .i64 (m1 : Int)) rfl (by kernel_rfl) (by kernel_rfl) (by kernel_rfl) (fun _ _ _ h => h) (Or.inl ⟨wanted_free rfl, fun w' hSw => ?_⟩) hHeld ?_
        · go_simp
        try simp only [Act.put, List.setIfInBounds_toArray, List.set_cons_zero, List.set_cons_succ]
        refine wpAnyH_take (i := 2) (oi := ⟨_, _, _, _, _, _⟩) (v := .slice (some ⟨g, 0, none⟩) m1 ca) rfl (by kernel_rfl) (by kernel_rfl) (by kernel_rfl) (fun _ _ _ h => h) (Or.inl ⟨wanted_free rfl, fun w' hSw => ?_⟩) hHeld ?_
        · go_simp
        try simp only [Act.put, List.setIfInBounds_toArray, List.set_cons_zero, List.set_cons_succ]
        refine wpAnyH_take (i := 3) (oi := ⟨_, _, _, _, _, _⟩) (v := .agg #[.int .i64 3, .string x1, .string x2]) rfl (by kernel_rfl) (by kernel_rfl) (by kernel_rfl) (fun _ _ _ h => h) (Or.inl ⟨wanted_free rfl, fun w' hSw => ?_⟩) hHeld ?_
        · obtain ⟨s0, s1, s2⟩ := hSw
          go_simp
        try simp only [Act.put, List.setIfInBounds_toArray, List.set_cons_zero, List.set_cons_succ]
        refine wpAnyH_take (i := 4) (oi := ⟨_, _, _, _, _, _⟩) (v := .slice (some ⟨g, 0, none⟩) m ca) rfl (by kernel_rfl) (by kernel_rfl) (by kernel_rfl) (fun _ _ _ h => h) (Or.inl ⟨wanted_free rfl, fun w' hSw => ?_⟩) hHeld ?_
        · go_simp
        try simp only [Act.put, List.setIfInBounds_toArray, List.set_cons_zero, List.set_cons_succ]
        refine wpAnyH_take (i := 5) (oi := ⟨_, _, _, _, _, _⟩) (v := .int .i64 (m1 : Int)) rfl (by kernel_rfl) (by kernel_rfl) (by kernel_rfl) (fun _ _ _ h => h) (Or.inl ⟨wanted_free rfl, fun w' hSw => ?_⟩) hHeld ?_
        · go_simp
        try simp only [Act.put, List.setIfInBounds_toArray, List.set_cons_zero, List.set_cons_succ]
        refine wpAnyH_take (i := 6) (oi := ⟨_, _, _, _, _, _⟩) (v := .slice (some ⟨g, m1, none⟩) (m - m1) (ca - m1)) rfl (by kernel_rfl) (by kernel_rfl) (by kernel_rfl) (fun _ _ _ h => h) (Or.inl ⟨wanted_free rfl, fun w' hSw => ?_⟩) hHeld ?_
        · go_simp
        try simp only [Act.put, List.setIfInBounds_toArray, List.set_cons_zero, List.set_cons_succ]
        refine wpAnyH_ready (rs := [7]) (by kernel_rfl) (by simp) (AllReadyH.cons (o := ⟨_, _, _, _, _, _⟩) rfl (fun K hK => ?_) AllReadyH.nil)
        rewrite [if_pos (wanted_free rfl)]
        go_simp
        have n40_0 : w39.cell? ⟨g, m1, none⟩ = some (ndV q1) := NdO.top (Sta.t (i := 0) HS39 rfl : NdO _ _ _ _) HL1.out
        have n40_1 : 1 ≤ m - m1 := HM1.out.2
        (with_reducible refine (hC13 w39 m ca x1 x2 g m1 q1 r n40_0 n40_1).mono ?_)
        rintro r w40 ⟨rfl, hB40⟩
        have HS40 := Sta.call HS39 hB40
        clear hB40
        go_wp2_with fail
        refine hK.out _ _ ⟨Sta.c (i := 0) HS40 rfl rfl, Sta.c (i := 0) HS40 rfl rfl, Sta.c (i := 0) HS40 rfl rfl⟩ (fun hHeld => ?_)
        clear hK K
        try simp only [Act.put, List.setIfInBounds_toArray, List.set_cons_zero, List.set_cons_succ]
        refine wpAnyH_ready (rs := [8]) (by kernel_rfl) (by simp) (AllReadyH.cons (o := ⟨_, _, _, _, _, _⟩) rfl (fun K hK => ?_) AllReadyH.nil)
        rewrite [if_pos (wanted_free rfl)]
        with_reducible refine wp_buildNd (.tmp 37) (by with_unfolding_all rfl) (.neg q1) (by with_unfolding_all rfl) ?_
        intro w41 hA41 hB41
        have HS41 := Sta.new HS40 hA41 hB41 (by simp)
        clear hA41 hB41
        refine hK.out _ _ ⟨Sta.c (i := 1) HS41 rfl rfl, Sta.c (i := 1) HS41 rfl rfl, Sta.c (i := 1) HS41 rfl rfl⟩ (fun hHeld => ?_)
        clear hK K
        try simp only [Act.put, List.setIfInBounds_toArray, List.set_cons_zero, List.set_cons_succ]
        refine wpAnyH_ready (rs := [9]) (by kernel_rfl) (by simp) (AllReadyH.cons (o := ⟨_, _, _, _, _, _⟩) rfl (fun K hK => ?_) AllReadyH.nil)
        rewrite [if_pos (wanted_free rfl)]
        have HS43 := Sta.imp 0 (fun w' => NdO w' w.heap.size (.slice (some ⟨g, 0, none⟩) m1 ca) r.reverse) HS41 rfl (fun w' h => NdO.cut (r := [q1]) m1 h HL1.out)
        with_reducible refine wp_appendNd (W := w41) (.tmp 32) (.tmp 38) (by with_unfolding_all rfl) w.heap.size (.slice (some ⟨g, 0, none⟩) m1 ca) r.reverse (.neg q1) (by with_unfolding_all rfl) (Sta.t (i := 0) HS43 rfl) w40.heap.size (by with_unfolding_all rfl) (Sta.r (i := 0) HS43 (by with_unfolding_all rfl)) (by have := HL1.out; have := HM6.out; have := HM1.out.1; omega) (Sta.size HS43) ?_
        intro v44 w44 hO44 hG44 hb44
        obtain ⟨a44, m44, c44, hm44, rfl⟩ := NdO.form hO44
        have HS44 := Sta.app 0 HS43 rfl (Nat.le_refl _) hO44 hG44 hb44
        have Hm44 := hidP hm44
        clear hO44 hG44 hb44 hm44
        refine hK.out _ _ ⟨Sta.c (i := 1) HS44 rfl rfl, Sta.c (i := 1) HS44 rfl rfl, Sta.c (i := 1) HS44 rfl rfl⟩ (fun hHeld => ?_)
        clear hK K
        try simp only [Act.put, List.setIfInBounds_toArray, List.set_cons_zero, List.set_cons_succ]
        refine wpAnyH_take (i := 10) (oi := ⟨_, _, _, _, _, _⟩) (v := .slice a44 m44 c44) rfl (by kernel_rfl) (by kernel_rfl) (by kernel_rfl) (fun _ _ _ h => h) (Or.inl ⟨wanted_free rfl, fun w' hSw => ?_⟩) hHeld ?_
        · go_simp
        try simp only [Act.put, List.setIfInBounds_toArray, List.set_cons_zero, List.set_cons_succ]
        refine wpAnyH_done (by kernel_rfl) ?_ _
        clear hHeld
        go_wp2_with fail
        have HS45 := Sta.imp 1 (fun w' => InsAt w' (some ⟨b, o, none⟩) l) HS44 rfl (fun w' h => h.1)
        have HS46 := Sta.imp 0 (fun w' => NdO w' w.heap.size (.slice a44 m44 c44) (.neg q1 :: r).reverse) HS45 rfl (fun w' h => by rw [List.reverse_cons]; exact h)
        go_roundw
        case rel => exact ⟨k + 1, a44, m44, c44, (.neg q1 :: r), by go_num, by go_num, hlt2, HR2, (by have := Hm44.out; show _ = _; simp at this ⊢; omega), Sta.drop 2 0 HS46⟩
        case measure => simp [intOf]; omega
      · as_aux_lemma =>
        have HO := hidP ho
        have HF := hidP (node_at hkl hx0 hx1 hx2 HR.out hs)
        have hm2 : m < 2 := by have := HL.out; omega
        clear hs ho
        subst h
        have ewm : IntKind.i64.wrap ((m : Int) - 2) = (m : Int) - 2 := by simp [IntKind.wrap, IntKind.signed, IntKind.bits]; omega
        have dm0 : decide ((m : Int) - 2 < 0) = true := decide_eq_true (by omega)
        clear hm2
        have tcHS5_1_0 : wl2.cell? ⟨b, o + k * 3, none⟩ = some (.int .i64 4) := (Sta.t (i := 1) HS5 rfl :).2.1
        have tcHS5_1_1 : wl2.cell? ⟨b, o + k * 3 + 1, none⟩ = some (.string x1) := (Sta.t (i := 1) HS5 rfl :).2.2.1
        have tcHS5_1_2 : wl2.cell? ⟨b, o + k * 3 + 2, none⟩ = some (.string x2) := (Sta.t (i := 1) HS5 rfl :).2.2.2
        go_wp2_with (first
          | ((with_reducible refine wpList_allocV (w := wl2) (by with_unfolding_all rfl) 41 (by with_unfolding_all rfl) [.int .i64 0, .string ⟨#[]⟩, .string ⟨#[]⟩] Try.zT_implIns ?_); intro w47 hA47 hB47 hS47; clear hS47; have HS47 := Sta.new HS5 hA47 hB47 (by simp); clear hA47 hB47; clear tcHS5_1_0 tcHS5_1_1 tcHS5_1_2)
          | ((with_reducible refine wpList_storeS (w := w47) (by with_unfolding_all rfl) 41 (.tmp 6) (.tmp 16) (by with_unfolding_all rfl) wl2.heap.size [.int .i64 0, .string ⟨#[]⟩, .string ⟨#[]⟩] [.int .i64 4, .string x1, .string x2] (by with_unfolding_all rfl) (by with_unfolding_all rfl) (Sta.r (i := 0) HS47 (by with_unfolding_all rfl)) 3 Try.sT_implIns (by with_unfolding_all rfl) (by with_unfolding_all rfl) (by with_unfolding_all rfl) ?_); intro w48 hA48 hO48; have HS48 := Sta.put 0 HS47 rfl hA48 (by simp) hO48; clear hA48 hO48; have cHS48_0_0 : w48.cell? ⟨wl2.heap.size, 0, none⟩ = some (.int .i64 4) := Sta.c (i := 0) HS48 rfl rfl)
          | (go_at_call 100; (with_reducible refine (hC14 w48).mono ?_); rintro r w' ⟨rfl, rfl⟩)
          | ((with_reducible refine wpList_loadV (w := w48) (by with_unfolding_all rfl) 41 (.tmp 6) (by with_unfolding_all rfl) wl2.heap.size [.int .i64 4, .string x1, .string x2] (by with_unfolding_all rfl) (Sta.r (i := 0) HS48 (by with_unfolding_all rfl)) Try.uT_implIns 3 Try.sT_implIns (by with_unfolding_all rfl) ?_))
          | (go_at_call 101; (with_reducible refine (hC15 w48 x1 x2 W1.out W2.out HO.out).mono ?_); rintro r w50 ⟨rfl, hB50⟩; have HS50 := Sta.call HS48 hB50; clear hB50; clear cHS48_0_0))
        go_ret2
        exact ⟨by rw [HF.out]; rfl, Sta.fin HS50⟩
      · as_aux_lemma =>
        have HO := hidP ho
        have HF := hidP (node_at hkl hx0 hx1 hx2 HR.out hs)
        have hm2 : m < 2 := by have := HL.out; omega
        clear hs ho
        subst h
        have ewm : IntKind.i64.wrap ((m : Int) - 2) = (m : Int) - 2 := by simp [IntKind.wrap, IntKind.signed, IntKind.bits]; omega
        have dm0 : decide ((m : Int) - 2 < 0) = true := decide_eq_true (by omega)
        clear hm2
        have tcHS5_1_0 : wl2.cell? ⟨b, o + k * 3, none⟩ = some (.int .i64 5) := (Sta.t (i := 1) HS5 rfl :).2.1
        have tcHS5_1_1 : wl2.cell? ⟨b, o + k * 3 + 1, none⟩ = some (.string x1) := (Sta.t (i := 1) HS5 rfl :).2.2.1
        have tcHS5_1_2 : wl2.cell? ⟨b, o + k * 3 + 2, none⟩ = some (.string x2) := (Sta.t (i := 1) HS5 rfl :).2.2.2
        go_wp2_with (first
          | ((with_reducible refine wpList_allocV (w := wl2) (by with_unfolding_all rfl) 41 (by with_unfolding_all rfl) [.int .i64 0, .string ⟨#[]⟩, .string ⟨#[]⟩] Try.zT_implIns ?_); intro w51 hA51 hB51 hS51; clear hS51; have HS51 := Sta.new HS5 hA51 hB51 (by simp); clear hA51 hB51; clear tcHS5_1_0 tcHS5_1_1 tcHS5_1_2)
          | ((with_reducible refine wpList_storeS (w := w51) (by with_unfolding_all rfl) 41 (.tmp 6) (.tmp 16) (by with_unfolding_all rfl) wl2.heap.size [.int .i64 0, .string ⟨#[]⟩, .string ⟨#[]⟩] [.int .i64 5, .string x1, .string x2] (by with_unfolding_all rfl) (by with_unfolding_all rfl) (Sta.r (i := 0) HS51 (by with_unfolding_all rfl)) 3 Try.sT_implIns (by with_unfolding_all rfl) (by with_unfolding_all rfl) (by with_unfolding_all rfl) ?_); intro w52 hA52 hO52; have HS52 := Sta.put 0 HS51 rfl hA52 (by simp) hO52; clear hA52 hO52; have cHS52_0_0 : w52.cell? ⟨wl2.heap.size, 0, none⟩ = some (.int .i64 5) := Sta.c (i := 0) HS52 rfl rfl)
          | (go_at_call 100; (with_reducible refine (hC16 w52).mono ?_); rintro r w' ⟨rfl, rfl⟩)
          | ((with_reducible refine wpList_loadV (w := w52) (by with_unfolding_all rfl) 41 (.tmp 6) (by with_unfolding_all rfl) wl2.heap.size [.int .i64 5, .string x1, .string x2] (by with_unfolding_all rfl) (Sta.r (i := 0) HS52 (by with_unfolding_all rfl)) Try.uT_implIns 3 Try.sT_implIns (by with_unfolding_all rfl) ?_))
          | (go_at_call 101; (with_reducible refine (hC17 w52 x1 x2 W1.out W2.out HO.out).mono ?_); rintro r w54 ⟨rfl, hB54⟩; have HS54 := Sta.call HS52 hB54; clear hB54; clear cHS52_0_0))
        go_ret2
        exact ⟨by rw [HF.out]; rfl, Sta.fin HS54⟩
      · as_aux_lemma =>
        have HO := hidP ho
        have hfm := NdO.forms (Sta.t (i := 0) HS5 rfl : NdO _ _ (.slice aa m ca) _)
        have HR2 := hidP ((runN_snoc hkl hx0 hx1 hx2 HR.out).trans hs)
        clear hs ho
        subst h
        subst hst
        have hm60 := HM6.out
        obtain ⟨g, rfl, hmc⟩ : ∃ g, aa = some ⟨g, 0, none⟩ ∧ m ≤ ca := by
          rcases hfm with ⟨_, h0⟩ | ⟨g, c', n', _, h1, h2⟩
          · exact absurd h0 (by simp)
          · injection h1 with e1 e2 e3; subst e1 e2 e3; exact ⟨g, rfl, h2⟩
        obtain ⟨m1, hm1⟩ : ∃ m1, m = m1 + 2 := ⟨r.length, by have := HL.out; simp at this; omega⟩
        have HL1 : Hid (r.reverse.length = m1) := by have := HL.out; simp at this; show _ = _; rw [List.length_reverse]; omega
        have HM1 : Hid (m = m1 + 2 ∧ 2 ≤ m - m1) := ⟨hm1, by omega⟩
        have ek : (m : Int) - 2 = (m1 : Int) := by omega
        have ewk : IntKind.i64.wrap (m1 : Int) = (m1 : Int) := by simp [IntKind.wrap, IntKind.signed, IntKind.bits]; omega
        have dm0 : decide ((m1 : Int) < 0) = false := decide_eq_false (by omega)
        have s1 := Try.sliceLoN (some ⟨g, 0, none⟩) m ca m1 (by omega) (fun e => by cases e) (fun x e => by injection e with e; rw [← e])
        have s2 := Try.sliceHiN g m ca m1 (by omega) (by omega)
        clear hm1 hmc hfm
        have HS55 := Sta.imp 0 (fun w' => NdO w' w.heap.size (.slice (some ⟨g, 0, none⟩) m ca) (r.reverse ++ [q1, q2])) HS5 rfl (fun w' h => by have e : (q2 :: q1 :: r).reverse = r.reverse ++ [q1, q2] := (by simp); rw [← e]; exact h)
        have tcHS55_1_0 : wl2.cell? ⟨b, o + k * 3, none⟩ = some (.int .i64 4) := (Sta.t (i := 1) HS55 rfl :).2.1
        have tcHS55_1_1 : wl2.cell? ⟨b, o + k * 3 + 1, none⟩ = some (.string x1) := (Sta.t (i := 1) HS55 rfl :).2.2.1
        have tcHS55_1_2 : wl2.cell? ⟨b, o + k * 3 + 2, none⟩ = some (.string x2) := (Sta.t (i := 1) HS55 rfl :).2.2.2
        go_wp2_with (first
          | ((with_reducible refine wpList_allocV (w := wl2) (by with_unfolding_all rfl) 41 (by with_unfolding_all rfl) [.int .i64 0, .string ⟨#[]⟩, .string ⟨#[]⟩] Try.zT_implIns ?_); intro w56 hA56 hB56 hS56; clear hS56; have HS56 := Sta.new HS55 hA56 hB56 (by simp); clear hA56 hB56; clear tcHS55_1_0 tcHS55_1_1 tcHS55_1_2)
          | ((with_reducible refine wpList_storeS (w := w56) (by with_unfolding_all rfl) 41 (.tmp 6) (.tmp 16) (by with_unfolding_all rfl) wl2.heap.size [.int .i64 0, .string ⟨#[]⟩, .string ⟨#[]⟩] [.int .i64 4, .string x1, .string x2] (by with_unfolding_all rfl) (by with_unfolding_all rfl) (Sta.r (i := 0) HS56 (by with_unfolding_all rfl)) 3 Try.sT_implIns (by with_unfolding_all rfl) (by with_unfolding_all rfl) (by with_unfolding_all rfl) ?_); intro w57 hA57 hO57; have HS57 := Sta.put 0 HS56 rfl hA57 (by simp) hO57; clear hA57 hO57; have cHS57_0_0 : w57.cell? ⟨wl2.heap.size, 0, none⟩ = some (.int .i64 4) := Sta.c (i := 0) HS57 rfl rfl)
          | (go_at_call 100; (with_reducible refine (hC18 w57 r).mono ?_); rintro r w' ⟨rfl, rfl⟩)
          | ((with_reducible refine wpList_loadV (w := w57) (by with_unfolding_all rfl) 41 (.tmp 6) (by with_unfolding_all rfl) wl2.heap.size [.int .i64 4, .string x1, .string x2] (by with_unfolding_all rfl) (Sta.r (i := 0) HS57 (by with_unfolding_all rfl)) Try.uT_implIns 3 Try.sT_implIns (by with_unfolding_all rfl) ?_))
          | (go_at_call 101; (with_reducible refine (hC19 w57 x1 x2 r W1.out W2.out HO.out).mono ?_); rintro r w59 ⟨rfl, hB59⟩; have HS59 := Sta.call HS57 hB59; clear hB59; clear cHS57_0_0))
        have HS60 := Sta.drew HS59
        refine wp_region_held_drew (S := fun w' => w'.cell? ⟨wl2.heap.size, 0, none⟩ = some (.int .i64 4) ∧ w'.cell? ⟨wl2.heap.size, 1, none⟩ = some (.string x1) ∧ w'.cell? ⟨wl2.heap.size, 2, none⟩ = some (.string x2)) (by kernel_rfl) ⟨Sta.c (i := 0) HS60 rfl rfl, Sta.c (i := 0) HS60 rfl rfl, Sta.c (i := 0) HS60 rfl rfl⟩ (fun hHeld => ?_)
        generalize w59.drew = w60 at *
        refine wpAnyH_take (i := 0) (oi := ⟨_, _, _, _, _, _⟩) (v := .slice (some ⟨g, 0, none⟩) m ca) rfl (by kernel_rfl) (by kernel_rfl) (by kernel_rfl) (fun _ _ _ h => h) (Or.inl ⟨wanted_free rfl, fun w' hSw => ?_⟩) hHeld ?_
        · go_simp
        try simp only [Act.put, List.setIfInBounds_toArray, List.set_cons_zero, List.set_cons_succ]
        refine wpAnyH_take (i := 1) (oi := ⟨_, _, _, _, _, _⟩) (v := .int .i64 (m1 : Int)) rfl (by kernel_rfl) (by kernel_rfl) (by kernel_rfl) (fun _ _ _ h => h) (Or.inl ⟨wanted_free rfl, fun w' hSw => ?_⟩) hHeld ?_
        · go_simp
        try simp only [Act.put, List.setIfInBounds_toArray, List.set_cons_zero, List.set_cons_succ]
        refine wpAnyH_take (i := 2) (oi := ⟨_, _, _, _, _, _⟩) (v := .slice (some ⟨g, 0, none⟩) m1 ca) rfl (by kernel_rfl) (by kernel_rfl) (by kernel_rfl) (fun _ _ _ h => h) (Or.inl ⟨wanted_free rfl, fun w' hSw => ?_⟩) hHeld ?_
        · go_simp
        try simp only [Act.put, List.setIfInBounds_toArray, List.set_cons_zero, List.set_cons_succ]
        refine wpAnyH_take (i := 3) (oi := ⟨_, _, _, _, _, _⟩) (v := .agg #[.int .i64 4, .string x1, .string x2]) rfl (by kernel_rfl) (by kernel_rfl) (by kernel_rfl) (fun _ _ _ h => h) (Or.inl ⟨wanted_free rfl, fun w' hSw => ?_⟩) hHeld ?_
        · obtain ⟨s0, s1, s2⟩ := hSw
          go_simp
        try simp only [Act.put, List.setIfInBounds_toArray, List.set_cons_zero, List.set_cons_succ]
        refine wpAnyH_take (i := 4) (oi := ⟨_, _, _, _, _, _⟩) (v := .slice (some ⟨g, 0, none⟩) m ca) rfl (by kernel_rfl) (by kernel_rfl) (by kernel_rfl) (fun _ _ _ h => h) (Or.inl ⟨wanted_free rfl, fun w' hSw => ?_⟩) hHeld ?_
        · go_simp
        try simp only [Act.put, List.setIfInBounds_toArray, List.set_cons_zero, List.set_cons_succ]
        refine wpAnyH_take (i := 5) (oi := ⟨_, _, _, _, _, _⟩) (v := .int .i64 (m1 : Int)) rfl (by kernel_rfl) (by kernel_rfl) (by kernel_rfl) (fun _ _ _ h => h) (Or.inl ⟨wanted_free rfl, fun w' hSw => ?_⟩) hHeld ?_
        · go_simp
        try simp only [Act.put, List.setIfInBounds_toArray, List.set_cons_zero, List.set_cons_succ]
        refine wpAnyH_take (i := 6) (oi := ⟨_, _, _, _, _, _⟩) (v := .slice (some ⟨g, m1, none⟩) (m - m1) (ca - m1)) rfl (by kernel_rfl) (by kernel_rfl) (by kernel_rfl) (fun _ _ _ h => h) (Or.inl ⟨wanted_free rfl, fun w' hSw => ?_⟩) hHeld ?_
        · go_simp
        try simp only [Act.put, List.setIfInBounds_toArray, List.set_cons_zero, List.set_cons_succ]
        refine wpAnyH_ready (rs := [7]) (by kernel_rfl) (by simp) (AllReadyH.cons (o := ⟨_, _, _, _, _, _⟩) rfl (fun K hK => ?_) AllReadyH.nil)
        rewrite [if_pos (wanted_free rfl)]
        go_simp
        have n61_0 : w60.cell? ⟨g, m1, none⟩ = some (ndV q1) := (NdO.top2 (Sta.t (i := 0) HS60 rfl : NdO _ _ _ _) HL1.out).1
        have n61_1 : w60.cell? ⟨g, m1 + 1, none⟩ = some (ndV q2) := (NdO.top2 (Sta.t (i := 0) HS60 rfl : NdO _ _ _ _) HL1.out).2
        have n61_2 : 2 ≤ m - m1 := HM1.out.2
        (with_reducible refine (hC20 w60 m ca x1 x2 g m1 q1 r q2 n61_0 n61_1 n61_2).mono ?_)
        rintro r w61 ⟨rfl, hB61⟩
        have HS61 := Sta.call HS60 hB61
        clear hB61
        go_wp2_with fail
        refine hK.out _ _ ⟨Sta.c (i := 0) HS61 rfl rfl, Sta.c (i := 0) HS61 rfl rfl, Sta.c (i := 0) HS61 rfl rfl⟩ (fun hHeld => ?_)
        clear hK K
        try simp only [Act.put, List.setIfInBounds_toArray, List.set_cons_zero, List.set_cons_succ]
        refine wpAnyH_ready (rs := [8]) (by kernel_rfl) (by simp) (AllReadyH.cons (o := ⟨_, _, _, _, _, _⟩) rfl (fun K hK => ?_) AllReadyH.nil)
        rewrite [if_pos (wanted_free rfl)]
        with_reducible refine wp_buildNd (.tmp 37) (by with_unfolding_all rfl) (.par 4 q1 q2) (by with_unfolding_all rfl) ?_
        intro w62 hA62 hB62
        have HS62 := Sta.new HS61 hA62 hB62 (by simp)
        clear hA62 hB62
        refine hK.out _ _ ⟨Sta.c (i := 1) HS62 rfl rfl, Sta.c (i := 1) HS62 rfl rfl, Sta.c (i := 1) HS62 rfl rfl⟩ (fun hHeld => ?_)
        clear hK K
        try simp only [Act.put, List.setIfInBounds_toArray, List.set_cons_zero, List.set_cons_succ]
        refine wpAnyH_ready (rs := [9]) (by kernel_rfl) (by simp) (AllReadyH.cons (o := ⟨_, _, _, _, _, _⟩) rfl (fun K hK => ?_) AllReadyH.nil)
        rewrite [if_pos (wanted_free rfl)]
        have HS64 := Sta.imp 0 (fun w' => NdO w' w.heap.size (.slice (some ⟨g, 0, none⟩) m1 ca) r.reverse) HS62 rfl (fun w' h => NdO.cut (r := [q1, q2]) m1 h HL1.out)
        with_reducible refine wp_appendNd (W := w62) (.tmp 32) (.tmp 38) (by with_unfolding_all rfl) w.heap.size (.slice (some ⟨g, 0, none⟩) m1 ca) r.reverse (.par 4 q1 q2) (by with_unfolding_all rfl) (Sta.t (i := 0) HS64 rfl) w61.heap.size (by with_unfolding_all rfl) (Sta.r (i := 0) HS64 (by with_unfolding_all rfl)) (by have := HL1.out; have := HM6.out; have := HM1.out.1; omega) (Sta.size HS64) ?_
        intro v65 w65 hO65 hG65 hb65
        obtain ⟨a65, m65, c65, hm65, rfl⟩ := NdO.form hO65
        have HS65 := Sta.app 0 HS64 rfl (Nat.le_refl _) hO65 hG65 hb65
        have Hm65 := hidP hm65
        clear hO65 hG65 hb65 hm65
        refine hK.out _ _ ⟨Sta.c (i := 1) HS65 rfl rfl, Sta.c (i := 1) HS65 rfl rfl, Sta.c (i := 1) HS65 rfl rfl⟩ (fun hHeld => ?_)
        clear hK K
        try simp only [Act.put, List.setIfInBounds_toArray, List.set_cons_zero, List.set_cons_succ]
        refine wpAnyH_take (i := 10) (oi := ⟨_, _, _, _, _, _⟩) (v := .slice a65 m65 c65) rfl (by kernel_rfl) (by kernel_rfl) (by kernel_rfl) (fun _ _ _ h => h) (Or.inl ⟨wanted_free rfl, fun w' hSw => ?_⟩) hHeld ?_
        · go_simp
        try simp only [Act.put, List.setIfInBounds_toArray, List.set_cons_zero, List.set_cons_succ]
        refine wpAnyH_done (by kernel_rfl) ?_ _
        clear hHeld
        go_wp2_with fail
        have HS66 := Sta.imp 1 (fun w' => InsAt w' (some ⟨b, o, none⟩) l) HS65 rfl (fun w' h => h.1)
        have HS67 := Sta.imp 0 (fun w' => NdO w' w.heap.size (.slice a65 m65 c65) (.par 4 q1 q2 :: r).reverse) HS66 rfl (fun w' h => by rw [List.reverse_cons]; exact h)
        go_roundw
        case rel => exact ⟨k + 1, a65, m65, c65, (.par 4 q1 q2 :: r), by go_num, by go_num, hlt2, HR2, (by have := Hm65.out; show _ = _; simp at this ⊢; omega), Sta.drop 2 0 HS67⟩
        case measure => simp [intOf]; omega
      · as_aux_lemma =>
        have HO := hidP ho
        have hfm := NdO.forms (Sta.t (i := 0) HS5 rfl : NdO _ _ (.slice aa m ca) _)
        have HR2 := hidP ((runN_snoc hkl hx0 hx1 hx2 HR.out).trans hs)
        clear hs ho
        subst h
        subst hst
        have hm60 := HM6.out
        obtain ⟨g, rfl, hmc⟩ : ∃ g, aa = some ⟨g, 0, none⟩ ∧ m ≤ ca := by
          rcases hfm with ⟨_, h0⟩ | ⟨g, c', n', _, h1, h2⟩
          · exact absurd h0 (by simp)
          · injection h1 with e1 e2 e3; subst e1 e2 e3; exact ⟨g, rfl, h2⟩
        obtain ⟨m1, hm1⟩ : ∃ m1, m = m1 + 2 := ⟨r.length, by have := HL.out; simp at this; omega⟩
        have HL1 : Hid (r.reverse.length = m1) := by have := HL.out; simp at this; show _ = _; rw [List.length_reverse]; omega
        have HM1 : Hid (m = m1 + 2 ∧ 2 ≤ m - m1) := ⟨hm1, by omega⟩
        have ek : (m : Int) - 2 = (m1 : Int) := by omega
        have ewk : IntKind.i64.wrap (m1 : Int) = (m1 : Int) := by simp [IntKind.wrap, IntKind.signed, IntKind.bits]; omega
        have dm0 : decide ((m1 : Int) < 0) = false := decide_eq_false (by omega)
        have s1 := Try.sliceLoN (some ⟨g, 0, none⟩) m ca m1 (by omega) (fun e => by cases e) (fun x e => by injection e with e; rw [← e])
        have s2 := Try.sliceHiN g m ca m1 (by omega) (by omega)
        clear hm1 hmc hfm
        have HS68 := Sta.imp 0 (fun w' => NdO w' w.heap.size (.slice (some ⟨g, 0, none⟩) m ca) (r.reverse ++ [q1, q2])) HS5 rfl (fun w' h => by have e : (q2 :: q1 :: r).reverse = r.reverse ++ [q1, q2] := (by simp); rw [← e]; exact h)
        have tcHS68_1_0 : wl2.cell? ⟨b, o + k * 3, none⟩ = some (.int .i64 5) := (Sta.t (i := 1) HS68 rfl :).2.1
        have tcHS68_1_1 : wl2.cell? ⟨b, o + k * 3 + 1, none⟩ = some (.string x1) := (Sta.t (i := 1) HS68 rfl :).2.2.1
        have tcHS68_1_2 : wl2.cell? ⟨b, o + k * 3 + 2, none⟩ = some (.string x2) := (Sta.t (i := 1) HS68 rfl :).2.2.2
        go_wp2_with (first
          | ((with_reducible refine wpList_allocV (w := wl2) (by with_unfolding_all rfl) 41 (by with_unfolding_all rfl) [.int .i64 0, .string ⟨#[]⟩, .string ⟨#[]⟩] Try.zT_implIns ?_); intro w69 hA69 hB69 hS69; clear hS69; have HS69 := Sta.new HS68 hA69 hB69 (by simp); clear hA69 hB69; clear tcHS68_1_0 tcHS68_1_1 tcHS68_1_2)
          | ((with_reducible refine wpList_storeS (w := w69) (by with_unfolding_all rfl) 41 (.tmp 6) (.tmp 16) (by with_unfolding_all rfl) wl2.heap.size [.int .i64 0, .string ⟨#[]⟩, .string ⟨#[]⟩] [.int .i64 5, .string x1, .string x2] (by with_unfolding_all rfl) (by with_unfolding_all rfl) (Sta.r (i := 0) HS69 (by with_unfolding_all rfl)) 3 Try.sT_implIns (by with_unfolding_all rfl) (by with_unfolding_all rfl) (by with_unfolding_all rfl) ?_); intro w70 hA70 hO70; have HS70 := Sta.put 0 HS69 rfl hA70 (by simp) hO70; clear hA70 hO70; have cHS70_0_0 : w70.cell? ⟨wl2.heap.size, 0, none⟩ = some (.int .i64 5) := Sta.c (i := 0) HS70 rfl rfl)
          | (go_at_call 100; (with_reducible refine (hC21 w70 r).mono ?_); rintro r w' ⟨rfl, rfl⟩)
          | ((with_reducible refine wpList_loadV (w := w70) (by with_unfolding_all rfl) 41 (.tmp 6) (by with_unfolding_all rfl) wl2.heap.size [.int .i64 5, .string x1, .string x2] (by with_unfolding_all rfl) (Sta.r (i := 0) HS70 (by with_unfolding_all rfl)) Try.uT_implIns 3 Try.sT_implIns (by with_unfolding_all rfl) ?_))
          | (go_at_call 101; (with_reducible refine (hC22 w70 x1 x2 r W1.out W2.out HO.out).mono ?_); rintro r w72 ⟨rfl, hB72⟩; have HS72 := Sta.call HS70 hB72; clear hB72; clear cHS70_0_0))
        have HS73 := Sta.drew HS72
        refine wp_region_held_drew (S := fun w' => w'.cell? ⟨wl2.heap.size, 0, none⟩ = some (.int .i64 5) ∧ w'.cell? ⟨wl2.heap.size, 1, none⟩ = some (.string x1) ∧ w'.cell? ⟨wl2.heap.size, 2, none⟩ = some (.string x2)) (by kernel_rfl) ⟨Sta.c (i := 0) HS73 rfl rfl, Sta.c (i := 0) HS73 rfl rfl, Sta.c (i := 0) HS73 rfl rfl⟩ (fun hHeld => ?_)
        generalize w72.drew = w73 at *
        refine wpAnyH_take (i := 0) (oi := ⟨_, _, _, _, _, _⟩) (v := .slice (some ⟨g, 0, none⟩) m ca) rfl (by kernel_rfl) (by kernel_rfl) (by kernel_rfl) (fun _ _ _ h => h) (Or.inl ⟨wanted_free rfl, fun w' hSw => ?_⟩) hHeld ?_
        · go_simp
        try simp only [Act.put, List.setIfInBounds_toArray, List.set_cons_zero, List.set_cons_succ]
        refine wpAnyH_take (i := 1) (oi := ⟨_, _, _, _, _, _⟩) (v := .int .i64 (m1 : Int)) rfl (by kernel_rfl) (by kernel_rfl) (by kernel_rfl) (fun _ _ _ h => h) (Or.inl ⟨wanted_free rfl, fun w' hSw => ?_⟩) hHeld ?_
        · go_simp
        try simp only [Act.put, List.setIfInBounds_toArray, List.set_cons_zero, List.set_cons_succ]
        refine wpAnyH_take (i := 2) (oi := ⟨_, _, _, _, _, _⟩) (v := .slice (some ⟨g, 0, none⟩) m1 ca) rfl (by kernel_rfl) (by kernel_rfl) (by kernel_rfl) (fun _ _ _ h => h) (Or.inl ⟨wanted_free rfl, fun w' hSw => ?_⟩) hHeld ?_
        · go_simp
        try simp only [Act.put, List.setIfInBounds_toArray, List.set_cons_zero, List.set_cons_succ]
        refine wpAnyH_take (i := 3) (oi := ⟨_, _, _, _, _, _⟩) (v := .agg #[.int .i64 5, .string x1, .string x2]) rfl (by kernel_rfl) (by kernel_rfl) (by kernel_rfl) (fun _ _ _ h => h) (Or.inl ⟨wanted_free rfl, fun w' hSw => ?_⟩) hHeld ?_
        · obtain ⟨s0, s1, s2⟩ := hSw
          go_simp
        try simp only [Act.put, List.setIfInBounds_toArray, List.set_cons_zero, List.set_cons_succ]
        refine wpAnyH_take (i := 4) (oi := ⟨_, _, _, _, _, _⟩) (v := .slice (some ⟨g, 0, none⟩) m ca) rfl (by kernel_rfl) (by kernel_rfl) (by kernel_rfl) (fun _ _ _ h => h) (Or.inl ⟨wanted_free rfl, fun w' hSw => ?_⟩) hHeld ?_
        · go_simp
        try simp only [Act.put, List.setIfInBounds_toArray, List.set_cons_zero, List.set_cons_succ]
        refine wpAnyH_take (i := 5) (oi := ⟨_, _, _, _, _, _⟩) (v := .int .i64 (m1 : Int)) rfl (by kernel_rfl) (by kernel_rfl) (by kernel_rfl) (fun _ _ _ h => h) (Or.inl ⟨wanted_free rfl, fun w' hSw => ?_⟩) hHeld ?_
        · go_simp
        try simp only [Act.put, List.setIfInBounds_toArray, List.set_cons_zero, List.set_cons_succ]
        refine wpAnyH_take (i := 6) (oi := ⟨_, _, _, _, _, _⟩) (v := .slice (some ⟨g, m1, none⟩) (m - m1) (ca - m1)) rfl (by kernel_rfl) (by kernel_rfl) (by kernel_rfl) (fun _ _ _ h => h) (Or.inl ⟨wanted_free rfl, fun w' hSw => ?_⟩) hHeld ?_
        · go_simp
        try simp only [Act.put, List.setIfInBounds_toArray, List.set_cons_zero, List.set_cons_succ]
        refine wpAnyH_ready (rs := [7]) (by kernel_rfl) (by simp) (AllReadyH.cons (o := ⟨_, _, _, _, _, _⟩) rfl (fun K hK => ?_) AllReadyH.nil)
        rewrite [if_pos (wanted_free rfl)]
        go_simp
        have n74_0 : w73.cell? ⟨g, m1, none⟩ = some (ndV q1) := (NdO.top2 (Sta.t (i := 0) HS73 rfl : NdO _ _ _ _) HL1.out).1
        have n74_1 : w73.cell? ⟨g, m1 + 1, none⟩ = some (ndV q2) := (NdO.top2 (Sta.t (i := 0) HS73 rfl : NdO _ _ _ _) HL1.out).2
        have n74_2 : 2 ≤ m - m1 := HM1.out.2
        (with_reducible refine (hC23 w73 m ca x1 x2 g m1 q1 r q2 n74_0 n74_1 n74_2).mono ?_)
        rintro r w74 ⟨rfl, hB74⟩
        have HS74 := Sta.call HS73 hB74
        clear hB74
        go_wp2_with fail
        refine hK.out _ _ ⟨Sta.c (i := 0) HS74 rfl rfl, Sta.c (i := 0) HS74 rfl rfl, Sta.c (i := 0) HS74 rfl rfl⟩ (fun hHeld => ?_)
        clear hK K
        try simp only [Act.put, List.setIfInBounds_toArray, List.set_cons_zero, List.set_cons_succ]
        refine wpAnyH_ready (rs := [8]) (by kernel_rfl) (by simp) (AllReadyH.cons (o := ⟨_, _, _, _, _, _⟩) rfl (fun K hK => ?_) AllReadyH.nil)
        rewrite [if_pos (wanted_free rfl)]
        with_reducible refine wp_buildNd (.tmp 37) (by with_unfolding_all rfl) (.par 5 q1 q2) (by with_unfolding_all rfl) ?_
        intro w75 hA75 hB75
        have HS75 := Sta.new HS74 hA75 hB75 (by simp)
        clear hA75 hB75
        refine hK.out _ _ ⟨Sta.c (i := 1) HS75 rfl rfl, Sta.c (i := 1) HS75 rfl rfl, Sta.c (i := 1) HS75 rfl rfl⟩ (fun hHeld => ?_)
        clear hK K
        try simp only [Act.put, List.setIfInBounds_toArray, List.set_cons_zero, List.set_cons_succ]
        refine wpAnyH_ready (rs := [9]) (by kernel_rfl) (by simp) (AllReadyH.cons (o := ⟨_, _, _, _, _, _⟩) rfl (fun K hK => ?_) AllReadyH.nil)
        rewrite [if_pos (wanted_free rfl)]
        have HS77 := Sta.imp 0 (fun w' => NdO w' w.heap.size (.slice (some ⟨g, 0, none⟩) m1 ca) r.reverse) HS75 rfl (fun w' h => NdO.cut (r := [q1, q2]) m1 h HL1.out)
        with_reducible refine wp_appendNd (W := w75) (.tmp 32) (.tmp 38) (by with_unfolding_all rfl) w.heap.size (.slice (some ⟨g, 0, none⟩) m1 ca) r.reverse (.par 5 q1 q2) (by with_unfolding_all rfl) (Sta.t (i := 0) HS77 rfl) w74.heap.size (by with_unfolding_all rfl) (Sta.r (i := 0) HS77 (by with_unfolding_all rfl)) (by have := HL1.out; have := HM6.out; have := HM1.out.1; omega) (Sta.size HS77) ?_
        intro v78 w78 hO78 hG78 hb78
        obtain ⟨a78, m78, c78, hm78, rfl⟩ := NdO.form hO78
        have HS78 := Sta.app 0 HS77 rfl (Nat.le_refl _) hO78 hG78 hb78
        have Hm78 := hidP hm78
        clear hO78 hG78 hb78 hm78
        refine hK.out _ _ ⟨Sta.c (i := 1) HS78 rfl rfl, Sta.c (i := 1) HS78 rfl rfl, Sta.c (i := 1) HS78 rfl rfl⟩ (fun hHeld => ?_)
        clear hK K
        try simp only [Act.put, List.setIfInBounds_toArray, List.set_cons_zero, List.set_cons_succ]
        refine wpAnyH_take (i := 10) (oi := ⟨_, _, _, _, _, _⟩) (v := .slice a78 m78 c78) rfl (by kernel_rfl) (by kernel_rfl) (by kernel_rfl) (fun _ _ _ h => h) (Or.inl ⟨wanted_free rfl, fun w' hSw => ?_⟩) hHeld ?_
        · go_simp
        try simp only [Act.put, List.setIfInBounds_toArray, List.set_cons_zero, List.set_cons_succ]
        refine wpAnyH_done (by kernel_rfl) ?_ _
        clear hHeld
        go_wp2_with fail
        have HS79 := Sta.imp 1 (fun w' => InsAt w' (some ⟨b, o, none⟩) l) HS78 rfl (fun w' h => h.1)
        have HS80 := Sta.imp 0 (fun w' => NdO w' w.heap.size (.slice a78 m78 c78) (.par 5 q1 q2 :: r).reverse) HS79 rfl (fun w' h => by rw [List.reverse_cons]; exact h)
        go_roundw
        case rel => exact ⟨k + 1, a78, m78, c78, (.par 5 q1 q2 :: r), by go_num, by go_num, hlt2, HR2, (by have := Hm78.out; show _ = _; simp at this ⊢; omega), Sta.drop 2 0 HS80⟩
        case measure => simp [intOf]; omega
end Go.Proofs.Ytaalegjhhpfhbaa
