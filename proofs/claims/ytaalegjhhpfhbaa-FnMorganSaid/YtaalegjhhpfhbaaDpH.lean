/- The law FnMorgan, walked. -/
import Derived.Test.YtaalegjhhpfhbaaDpE
import Derived.Deep.RegionHeld3
import Derived.Deep.DeepCutAuto
import Derived.Deep.CutRange
namespace Go.Proofs.Ytaalegjhhpfhbaa
open Go.RowKit
set_option linter.unusedVariables false

theorem app_ne {α : Type} {l m : List α} (h : m ≠ []) : l ++ m ≠ [] := by
  intro e
  exact h (List.append_eq_nil_iff.1 e).2
theorem w_app {l m : List InsV} (h : ∀ x ∈ l, x.w) (h2 : ∀ x ∈ m, x.w) : ∀ x ∈ l ++ m, x.w := fun x hx => (List.mem_append.1 hx).elim (h x) (h2 x)
theorem w_one {x : InsV} (h : x.w) : ∀ y ∈ [x], y.w := fun y hy => by rw [List.mem_singleton.1 hy]; exact h
theorem w_two {x y : InsV} (h : x.w) (h2 : y.w) : ∀ z ∈ [x, y], z.w := fun z hz => by
  rcases List.mem_cons.1 hz with rfl | hz
  · exact h
  · rw [List.mem_singleton.1 hz]; exact h2
theorem w_3 : (⟨3, ⟨#[]⟩, ⟨#[]⟩⟩ : InsV).w := ins_w (by decide) (by decide) (by decide) (by decide)
theorem w_4 : (⟨4, ⟨#[]⟩, ⟨#[]⟩⟩ : InsV).w := ins_w (by decide) (by decide) (by decide) (by decide)
theorem w_5 : (⟨5, ⟨#[]⟩, ⟨#[]⟩⟩ : InsV).w := ins_w (by decide) (by decide) (by decide) (by decide)
theorem len_w {l : List InsV} {n : Nat} (h : l.length = n) (h1 : l.length ≤ 100) (hw : ∀ x ∈ l, x.w) : l.length = n ∧ n ≤ 100 ∧ ∀ x ∈ l, x.w := ⟨h, h ▸ h1, hw⟩
theorem ins_some {w : World} {a : Option Addr} {l : List InsV} (h : InsAt w a l) (hn : l ≠ []) : ∃ b o, a = some ⟨b, o, none⟩ := by
  cases l with
  | nil => exact absurd rfl hn
  | cons x r => obtain ⟨b, o, h1, _⟩ := h 0 (Nat.succ_pos _); exact ⟨b, o, h1⟩
structure MorgQ (S : Prop) where
  q0 : Prop
  q1 : Prop
  q2 : Prop
  q3 : Prop
  law : Hid q0 → Hid q1 → Hid q2 → Hid q3 → S
set_option maxRecDepth 100000 in
set_option maxHeartbeats 64000000 in
def morgPack (a1 : Option Addr) (n1 c1 : Nat) (a2 : Option Addr) (n2 c2 : Nat) (w : World) (hn1 : n1 ≤ 9223372036854775807) (hn2 : n2 ≤ 9223372036854775807) : MorgQ (Bytes w a1 n1 → Bytes w a2 n2 → Calls Try.prog 6 #[.slice a1 n1 c1, .slice a2 n2 c2] w fun r w' => r = .returned (.bool true) ∧ Below w.heap.size w w') := by
  apply MorgQ.mk
  intro h0 h1 h2 h3 hb1 hb2
  have hC1 : ∀ w0, (Bytes w0 a1 n1) → Calls Try.prog 23 #[.slice a1 n1 c1] w0 fun r w' => ∃ (pa : Option Addr) (pn : Nat) (pc : Nat) (l1 : List InsV) (da : Option Addr) (dm : Nat) (de : Nat) (ls : List LabV), r = .returned (.tuple #[.slice pa pn pc, .slice da dm de]) ∧ (l1.length = pn ∧ pn ≤ 100 ∧ (∀ x ∈ l1, x.w) ∧ ls.length = dm ∧ dm ≤ 100 ∧ ∀ x ∈ ls, x.w) ∧ Made w0 w' (fun w2 => InsAt w2 pa l1 ∧ LabAt w2 da ls) ∧ Below w0.heap.size w0 w' := fun w0 n0 => (draw11 n1 c1 a1 w0 n0 hn1)
  have hC2 : ∀ w0, (Bytes w0 a2 n2) → Calls Try.prog 23 #[.slice a2 n2 c2] w0 fun r w' => ∃ (qa : Option Addr) (qn : Nat) (qc : Nat) (l2 : List InsV) (ea : Option Addr) (em : Nat) (ee : Nat) (es : List LabV), r = .returned (.tuple #[.slice qa qn qc, .slice ea em ee]) ∧ (l2.length = qn ∧ qn ≤ 100 ∧ (∀ x ∈ l2, x.w) ∧ es.length = em ∧ em ≤ 100 ∧ ∀ x ∈ es, x.w) ∧ Made w0 w' (fun w2 => InsAt w2 qa l2 ∧ LabAt w2 ea es) ∧ Below w0.heap.size w0 w' := fun w0 n0 => (draw11 n2 c2 a2 w0 n0 hn2)
  have hC3 : ∀ w0 (pa : Option Addr) (pn : Nat) (pc : Nat) (l1 : List InsV) (da : Option Addr) (dm : Nat) (de : Nat) (ls : List LabV) (A : Bool), (InsAt w0 pa l1) → (LabAt w0 da ls) → (ls.length = dm ∧ dm ≤ 100) → (l1.length = pn ∧ pn ≤ 100 ∧ (∀ x ∈ l1, x.w)) → (evalN l1 ls = A) → Calls Try.prog 19 #[.slice pa pn pc, .slice da dm de] w0 fun r w' => r = .returned (.bool A) ∧ Below w0.heap.size w0 w' := fun w0 pa pn pc l1 da dm de ls A n0 n1 n2 n3 n4 => by rw [← n4]; exact implPolE pa pc pn l1 da de dm ls w0 n3.1 n0 (Nat.le_trans n3.2.1 (by decide)) n3.2.2 n2.1 n1 (Nat.le_trans n2.2 (by decide))
  have hC4 : ∀ w0 (da : Option Addr) (dm : Nat) (de : Nat) (ls : List LabV) (qa : Option Addr) (qn : Nat) (qc : Nat) (l2 : List InsV) (B : Bool), (InsAt w0 qa l2) → (LabAt w0 da ls) → (ls.length = dm ∧ dm ≤ 100) → (l2.length = qn ∧ qn ≤ 100 ∧ (∀ x ∈ l2, x.w)) → (evalN l2 ls = B) → Calls Try.prog 19 #[.slice qa qn qc, .slice da dm de] w0 fun r w' => r = .returned (.bool B) ∧ Below w0.heap.size w0 w' := fun w0 da dm de ls qa qn qc l2 B n0 n1 n2 n3 n4 => by rw [← n4]; exact implPolE qa qc qn l2 da de dm ls w0 n3.1 n0 (Nat.le_trans n3.2.1 (by decide)) n3.2.2 n2.1 n1 (Nat.le_trans n2.2 (by decide))
  have hC5 : ∀ w0 (pa : Option Addr) (pn : Nat) (pc : Nat) (l1 : List InsV) (da : Option Addr) (dm : Nat) (de : Nat) (ls : List LabV) (A : Bool), (InsAt w0 pa l1) → (LabAt w0 da ls) → (ls.length = dm ∧ dm ≤ 100) → (l1.length = pn ∧ pn ≤ 100 ∧ (∀ x ∈ l1, x.w)) → (evalN l1 ls = A) → Calls Try.prog 17 #[.slice pa pn pc, .slice da dm de] w0 fun r w' => r = .returned (.bool A) ∧ Below w0.heap.size w0 w' := fun w0 pa pn pc l1 da dm de ls A n0 n1 n2 n3 n4 => by rw [← n4]; exact specPolE pa pc pn l1 da de dm ls w0 n3.1 n0 (Nat.le_trans n3.2.1 (by decide)) n3.2.2 n2.1 n1 (Nat.le_trans n2.2 (by decide))
  have hC6 : ∀ w0 (pa : Option Addr) (pn : Nat) (pc : Nat) (l1 : List InsV), (InsAt w0 pa l1) → (l1.length = pn ∧ pn ≤ 100 ∧ (∀ x ∈ l1, x.w)) → (nodeN l1 = none) → Calls Try.prog 12 #[.slice pa pn pc] w0 fun r w' => r = .returned (.bool false) ∧ Below w0.heap.size w0 w' := fun w0 pa pn pc l1 n0 n1 n2 => by have hh := specPolR pa pc pn l1 w0 n1.1 n0 (Nat.le_trans n1.2.1 (by decide)) n1.2.2; rw [n2] at hh; exact hh
  have hC7 : ∀ w0 (pa : Option Addr) (pn : Nat) (pc : Nat) (l1 : List InsV) (y1 : Nd), (InsAt w0 pa l1) → (l1.length = pn ∧ pn ≤ 100 ∧ (∀ x ∈ l1, x.w)) → (nodeN l1 = some y1) → Calls Try.prog 12 #[.slice pa pn pc] w0 fun r w' => r = .returned (.bool true) ∧ Below w0.heap.size w0 w' := fun w0 pa pn pc l1 y1 n0 n1 n2 => by have hh := specPolR pa pc pn l1 w0 n1.1 n0 (Nat.le_trans n1.2.1 (by decide)) n1.2.2; rw [n2] at hh; exact hh
  have hC8 : ∀ w0 (qa : Option Addr) (qn : Nat) (qc : Nat) (l2 : List InsV), (InsAt w0 qa l2) → (l2.length = qn ∧ qn ≤ 100 ∧ (∀ x ∈ l2, x.w)) → (nodeN l2 = none) → Calls Try.prog 12 #[.slice qa qn qc] w0 fun r w' => r = .returned (.bool false) ∧ Below w0.heap.size w0 w' := fun w0 qa qn qc l2 n0 n1 n2 => by have hh := specPolR qa qc qn l2 w0 n1.1 n0 (Nat.le_trans n1.2.1 (by decide)) n1.2.2; rw [n2] at hh; exact hh
  have hC9 : ∀ w0 (qa : Option Addr) (qn : Nat) (qc : Nat) (l2 : List InsV) (y2 : Nd), (InsAt w0 qa l2) → (l2.length = qn ∧ qn ≤ 100 ∧ (∀ x ∈ l2, x.w)) → (nodeN l2 = some y2) → Calls Try.prog 12 #[.slice qa qn qc] w0 fun r w' => r = .returned (.bool true) ∧ Below w0.heap.size w0 w' := fun w0 qa qn qc l2 y2 n0 n1 n2 => by have hh := specPolR qa qc qn l2 w0 n1.1 n0 (Nat.le_trans n1.2.1 (by decide)) n1.2.2; rw [n2] at hh; exact hh
  have HS0 : Hid (Sta [] w [] [⟨fun k => k < w.heap.size, fun w' => Bytes w' a1 n1 ∧ Bytes w' a2 n2⟩] w) := Sta.arg (fun w' => Bytes w' a1 n1 ∧ Bytes w' a2 n2) (fun w' hb => ⟨hb1.later hb, hb2.later hb⟩)
  clear hb1 hb2
  go_enter Try.func6, Try.ntmps6
  have hc3 : (1048576 < n1) ∨ (¬ 1048576 < n1 ∧ 1048576 < n2) ∨ (¬ 1048576 < n1 ∧ ¬ 1048576 < n2) := by omega
  rcases hc3 with g | ⟨g, g2⟩ | ⟨g, g2⟩
  · as_aux_lemma =>
    have d_n1 : decide ((1048576 : Int) < (n1 : Int)) = true := decide_eq_true (by omega)
    go_wp2_with fail
    go_ret
    exact ⟨rfl, Sta.fin HS0⟩
  · as_aux_lemma =>
    have d_n1 : decide ((1048576 : Int) < (n1 : Int)) = false := decide_eq_false (by omega)
    have d_n2 : decide ((1048576 : Int) < (n2 : Int)) = true := decide_eq_true (by omega)
    go_wp2_with fail
    go_ret
    exact ⟨rfl, Sta.fin HS0⟩
  · skip
    have d_n1 : decide ((1048576 : Int) < (n1 : Int)) = false := decide_eq_false (by omega)
    have d_n2 : decide ((1048576 : Int) < (n2 : Int)) = false := decide_eq_false (by omega)
    go_wp2_with (first
      | (go_at_call 23; have n1_0 : Bytes w a1 n1 := (Sta.t (i := 0) HS0 rfl :).1; (with_reducible refine (hC1 w n1_0).mono ?_); rintro r w1 ⟨pa, pn, pc, l1, da, dm, de, ls, rfl, p1, hP1, hB1⟩; have Hp1 := hidP p1; clear p1; have HS1 := Sta.made HS0 hB1 hP1; clear hB1 hP1)
      | (go_at_call 23; have n2_0 : Bytes w1 a2 n2 := (Sta.t (i := 1) HS1 rfl :).2; (with_reducible refine (hC2 w1 n2_0).mono ?_); rintro r w2 ⟨qa, qn, qc, l2, ea, em, ee, es, rfl, p2, hP2, hB2⟩; have Hp2 := hidP p2; clear p2; have HS2 := Sta.made HS1 hB2 hP2; clear hB2 hP2))
    rcases morg_cases l1 l2 ls (by have := Hp1.out.2.2.2.1; have := Hp1.out.2.2.2.2.1; omega) with h1 | ⟨y1, h1, h2⟩ | ⟨y1, y2, h1, h2, hl⟩ | ⟨y1, y2, hY⟩ | ⟨y1, y2, hY⟩ | ⟨y1, y2, hY⟩ | ⟨y1, y2, hY⟩
    · as_aux_lemma =>
      have Hr1 := hidP h1
      clear h1
      obtain ⟨A, hA⟩ : ∃ A, evalN l1 ls = A := ⟨_, rfl⟩
      have HA := hidP hA
      obtain ⟨B, hB⟩ : ∃ B, evalN l2 ls = B := ⟨_, rfl⟩
      have HB := hidP hB
      clear hA hB
      go_wp2_with (first
        | (go_at_call 19; have n3_0 : InsAt w2 pa l1 := (Sta.t (i := 1) HS2 rfl :).1; have n3_1 : LabAt w2 da ls := (Sta.t (i := 1) HS2 rfl :).2; have n3_2 : ls.length = dm ∧ dm ≤ 100 := (And.intro Hp1.out.2.2.2.1 Hp1.out.2.2.2.2.1); have n3_3 : l1.length = pn ∧ pn ≤ 100 ∧ (∀ x ∈ l1, x.w) := (And.intro Hp1.out.1 (And.intro Hp1.out.2.1 Hp1.out.2.2.1)); (with_reducible refine (hC3 w2 pa pn pc l1 da dm de ls A n3_0 n3_1 n3_2 n3_3 HA.out).mono ?_); rintro r w3 ⟨rfl, hB3⟩; have HS3 := Sta.call HS2 hB3; clear hB3)
        | (go_at_call 19; have n4_0 : InsAt w3 qa l2 := (Sta.t (i := 0) HS3 rfl :).1; have n4_1 : LabAt w3 da ls := (Sta.t (i := 1) HS3 rfl :).2; have n4_2 : ls.length = dm ∧ dm ≤ 100 := (And.intro Hp1.out.2.2.2.1 Hp1.out.2.2.2.2.1); have n4_3 : l2.length = qn ∧ qn ≤ 100 ∧ (∀ x ∈ l2, x.w) := (And.intro Hp2.out.1 (And.intro Hp2.out.2.1 Hp2.out.2.2.1)); (with_reducible refine (hC4 w3 da dm de ls qa qn qc l2 B n4_0 n4_1 n4_2 n4_3 HB.out).mono ?_); rintro r w4 ⟨rfl, hB4⟩; have HS4 := Sta.call HS3 hB4; clear hB4)
        | (go_at_call 17; have n5_0 : InsAt w4 pa l1 := (Sta.t (i := 1) HS4 rfl :).1; have n5_1 : LabAt w4 da ls := (Sta.t (i := 1) HS4 rfl :).2; have n5_2 : ls.length = dm ∧ dm ≤ 100 := (And.intro Hp1.out.2.2.2.1 Hp1.out.2.2.2.2.1); have n5_3 : l1.length = pn ∧ pn ≤ 100 ∧ (∀ x ∈ l1, x.w) := (And.intro Hp1.out.1 (And.intro Hp1.out.2.1 Hp1.out.2.2.1)); (with_reducible refine (hC5 w4 pa pn pc l1 da dm de ls A n5_0 n5_1 n5_2 n5_3 HA.out).mono ?_); rintro r w5 ⟨rfl, hB5⟩; have HS5 := Sta.call HS4 hB5; clear hB5)
        | (go_at_call 12; have n6_0 : InsAt w5 pa l1 := (Sta.t (i := 1) HS5 rfl :).1; have n6_1 : l1.length = pn ∧ pn ≤ 100 ∧ (∀ x ∈ l1, x.w) := (And.intro Hp1.out.1 (And.intro Hp1.out.2.1 Hp1.out.2.2.1)); (with_reducible refine (hC6 w5 pa pn pc l1 n6_0 n6_1 Hr1.out).mono ?_); rintro r w6 ⟨rfl, hB6⟩; have HS6 := Sta.call HS5 hB6; clear hB6))
      go_ret
      exact ⟨rfl, Sta.fin HS6⟩
    · as_aux_lemma =>
      have Hr1 := hidP h1
      have Hr2 := hidP h2
      clear h1 h2
      obtain ⟨A, hA⟩ : ∃ A, evalN l1 ls = A := ⟨_, rfl⟩
      have HA := hidP hA
      obtain ⟨B, hB⟩ : ∃ B, evalN l2 ls = B := ⟨_, rfl⟩
      have HB := hidP hB
      clear hA hB
      go_wp2_with (first
        | (go_at_call 19; have n7_0 : InsAt w2 pa l1 := (Sta.t (i := 1) HS2 rfl :).1; have n7_1 : LabAt w2 da ls := (Sta.t (i := 1) HS2 rfl :).2; have n7_2 : ls.length = dm ∧ dm ≤ 100 := (And.intro Hp1.out.2.2.2.1 Hp1.out.2.2.2.2.1); have n7_3 : l1.length = pn ∧ pn ≤ 100 ∧ (∀ x ∈ l1, x.w) := (And.intro Hp1.out.1 (And.intro Hp1.out.2.1 Hp1.out.2.2.1)); (with_reducible refine (hC3 w2 pa pn pc l1 da dm de ls A n7_0 n7_1 n7_2 n7_3 HA.out).mono ?_); rintro r w7 ⟨rfl, hB7⟩; have HS7 := Sta.call HS2 hB7; clear hB7)
        | (go_at_call 19; have n8_0 : InsAt w7 qa l2 := (Sta.t (i := 0) HS7 rfl :).1; have n8_1 : LabAt w7 da ls := (Sta.t (i := 1) HS7 rfl :).2; have n8_2 : ls.length = dm ∧ dm ≤ 100 := (And.intro Hp1.out.2.2.2.1 Hp1.out.2.2.2.2.1); have n8_3 : l2.length = qn ∧ qn ≤ 100 ∧ (∀ x ∈ l2, x.w) := (And.intro Hp2.out.1 (And.intro Hp2.out.2.1 Hp2.out.2.2.1)); (with_reducible refine (hC4 w7 da dm de ls qa qn qc l2 B n8_0 n8_1 n8_2 n8_3 HB.out).mono ?_); rintro r w8 ⟨rfl, hB8⟩; have HS8 := Sta.call HS7 hB8; clear hB8)
        | (go_at_call 17; have n9_0 : InsAt w8 pa l1 := (Sta.t (i := 1) HS8 rfl :).1; have n9_1 : LabAt w8 da ls := (Sta.t (i := 1) HS8 rfl :).2; have n9_2 : ls.length = dm ∧ dm ≤ 100 := (And.intro Hp1.out.2.2.2.1 Hp1.out.2.2.2.2.1); have n9_3 : l1.length = pn ∧ pn ≤ 100 ∧ (∀ x ∈ l1, x.w) := (And.intro Hp1.out.1 (And.intro Hp1.out.2.1 Hp1.out.2.2.1)); (with_reducible refine (hC5 w8 pa pn pc l1 da dm de ls A n9_0 n9_1 n9_2 n9_3 HA.out).mono ?_); rintro r w9 ⟨rfl, hB9⟩; have HS9 := Sta.call HS8 hB9; clear hB9)
        | (go_at_call 12; have n10_0 : InsAt w9 pa l1 := (Sta.t (i := 1) HS9 rfl :).1; have n10_1 : l1.length = pn ∧ pn ≤ 100 ∧ (∀ x ∈ l1, x.w) := (And.intro Hp1.out.1 (And.intro Hp1.out.2.1 Hp1.out.2.2.1)); (with_reducible refine (hC7 w9 pa pn pc l1 y1 n10_0 n10_1 Hr1.out).mono ?_); rintro r w10 ⟨rfl, hB10⟩; have HS10 := Sta.call HS9 hB10; clear hB10)
        | (go_at_call 12; have n11_0 : InsAt w10 qa l2 := (Sta.t (i := 0) HS10 rfl :).1; have n11_1 : l2.length = qn ∧ qn ≤ 100 ∧ (∀ x ∈ l2, x.w) := (And.intro Hp2.out.1 (And.intro Hp2.out.2.1 Hp2.out.2.2.1)); (with_reducible refine (hC8 w10 qa qn qc l2 n11_0 n11_1 Hr2.out).mono ?_); rintro r w11 ⟨rfl, hB11⟩; have HS11 := Sta.call HS10 hB11; clear hB11))
      go_ret
      exact ⟨rfl, Sta.fin HS11⟩
    · as_aux_lemma =>
      have Hr1 := hidP h1
      have Hr2 := hidP h2
      have hp1 := Hp1.out.1
      have hp11 := Hp1.out.2.1
      have hp2 := Hp2.out.1
      have hp22 := Hp2.out.2.1
      clear h1 h2
      obtain ⟨A, hA⟩ : ∃ A, evalN l1 ls = A := ⟨_, rfl⟩
      have HA := hidP hA
      obtain ⟨B, hB⟩ : ∃ B, evalN l2 ls = B := ⟨_, rfl⟩
      have HB := hidP hB
      clear hA hB
      have ew1 : IntKind.i64.wrap ((pn : Int) + (qn : Int)) = (pn : Int) + (qn : Int) := by simp [IntKind.wrap, IntKind.signed, IntKind.bits]; omega
      have ew2 : IntKind.i64.wrap ((pn : Int) + (qn : Int) + 3) = (pn : Int) + (qn : Int) + 3 := by simp [IntKind.wrap, IntKind.signed, IntKind.bits]; omega
      have dl : decide ((60 : Int) < (pn : Int) + (qn : Int) + 3) = true := decide_eq_true (by omega)
      go_wp2_with (first
        | (go_at_call 19; have n12_0 : InsAt w2 pa l1 := (Sta.t (i := 1) HS2 rfl :).1; have n12_1 : LabAt w2 da ls := (Sta.t (i := 1) HS2 rfl :).2; have n12_2 : ls.length = dm ∧ dm ≤ 100 := (And.intro Hp1.out.2.2.2.1 Hp1.out.2.2.2.2.1); have n12_3 : l1.length = pn ∧ pn ≤ 100 ∧ (∀ x ∈ l1, x.w) := (And.intro Hp1.out.1 (And.intro Hp1.out.2.1 Hp1.out.2.2.1)); (with_reducible refine (hC3 w2 pa pn pc l1 da dm de ls A n12_0 n12_1 n12_2 n12_3 HA.out).mono ?_); rintro r w12 ⟨rfl, hB12⟩; have HS12 := Sta.call HS2 hB12; clear hB12)
        | (go_at_call 19; have n13_0 : InsAt w12 qa l2 := (Sta.t (i := 0) HS12 rfl :).1; have n13_1 : LabAt w12 da ls := (Sta.t (i := 1) HS12 rfl :).2; have n13_2 : ls.length = dm ∧ dm ≤ 100 := (And.intro Hp1.out.2.2.2.1 Hp1.out.2.2.2.2.1); have n13_3 : l2.length = qn ∧ qn ≤ 100 ∧ (∀ x ∈ l2, x.w) := (And.intro Hp2.out.1 (And.intro Hp2.out.2.1 Hp2.out.2.2.1)); (with_reducible refine (hC4 w12 da dm de ls qa qn qc l2 B n13_0 n13_1 n13_2 n13_3 HB.out).mono ?_); rintro r w13 ⟨rfl, hB13⟩; have HS13 := Sta.call HS12 hB13; clear hB13)
        | (go_at_call 17; have n14_0 : InsAt w13 pa l1 := (Sta.t (i := 1) HS13 rfl :).1; have n14_1 : LabAt w13 da ls := (Sta.t (i := 1) HS13 rfl :).2; have n14_2 : ls.length = dm ∧ dm ≤ 100 := (And.intro Hp1.out.2.2.2.1 Hp1.out.2.2.2.2.1); have n14_3 : l1.length = pn ∧ pn ≤ 100 ∧ (∀ x ∈ l1, x.w) := (And.intro Hp1.out.1 (And.intro Hp1.out.2.1 Hp1.out.2.2.1)); (with_reducible refine (hC5 w13 pa pn pc l1 da dm de ls A n14_0 n14_1 n14_2 n14_3 HA.out).mono ?_); rintro r w14 ⟨rfl, hB14⟩; have HS14 := Sta.call HS13 hB14; clear hB14)
        | (go_at_call 12; have n15_0 : InsAt w14 pa l1 := (Sta.t (i := 1) HS14 rfl :).1; have n15_1 : l1.length = pn ∧ pn ≤ 100 ∧ (∀ x ∈ l1, x.w) := (And.intro Hp1.out.1 (And.intro Hp1.out.2.1 Hp1.out.2.2.1)); (with_reducible refine (hC7 w14 pa pn pc l1 y1 n15_0 n15_1 Hr1.out).mono ?_); rintro r w15 ⟨rfl, hB15⟩; have HS15 := Sta.call HS14 hB15; clear hB15)
        | (go_at_call 12; have n16_0 : InsAt w15 qa l2 := (Sta.t (i := 0) HS15 rfl :).1; have n16_1 : l2.length = qn ∧ qn ≤ 100 ∧ (∀ x ∈ l2, x.w) := (And.intro Hp2.out.1 (And.intro Hp2.out.2.1 Hp2.out.2.2.1)); (with_reducible refine (hC9 w15 qa qn qc l2 y2 n16_0 n16_1 Hr2.out).mono ?_); rintro r w16 ⟨rfl, hB16⟩; have HS16 := Sta.call HS15 hB16; clear hB16))
      go_ret
      exact ⟨rfl, Sta.fin HS16⟩
    · rename_i qX kX1 aX1 kX aX
      clear hC1 hC2 hC3 hC4 hC5 hC6 hC7 hC8 hC9
      revert HS0 g g2 d_n1 d_n2 qX n1_0 w1 pa pn pc l1 da dm de ls Hp1 HS1 n2_0 w2 qa qn qc l2 ea em ee es Hp2 HS2 kX1 aX1 kX aX y1 y2 hY
      exact h0.out
    · rename_i qX kX1 aX1 kX aX
      clear hC1 hC2 hC3 hC4 hC5 hC6 hC7 hC8 hC9
      revert HS0 g g2 d_n1 d_n2 qX n1_0 w1 pa pn pc l1 da dm de ls Hp1 HS1 n2_0 w2 qa qn qc l2 ea em ee es Hp2 HS2 kX1 aX1 kX aX y1 y2 hY
      exact h1.out
    · rename_i qX kX1 aX1 kX aX
      clear hC1 hC2 hC3 hC4 hC5 hC6 hC7 hC8 hC9
      revert HS0 g g2 d_n1 d_n2 qX n1_0 w1 pa pn pc l1 da dm de ls Hp1 HS1 n2_0 w2 qa qn qc l2 ea em ee es Hp2 HS2 kX1 aX1 kX aX y1 y2 hY
      exact h2.out
    · rename_i qX kX1 aX1 kX aX
      clear hC1 hC2 hC3 hC4 hC5 hC6 hC7 hC8 hC9
      revert HS0 g g2 d_n1 d_n2 qX n1_0 w1 pa pn pc l1 da dm de ls Hp1 HS1 n2_0 w2 qa qn qc l2 ea em ee es Hp2 HS2 kX1 aX1 kX aX y1 y2 hY
      exact h3.out
end Go.Proofs.Ytaalegjhhpfhbaa
