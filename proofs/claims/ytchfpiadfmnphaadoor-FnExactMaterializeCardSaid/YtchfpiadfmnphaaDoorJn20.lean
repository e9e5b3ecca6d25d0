/- Is a manifest right? On the specification's side. ManifestRead of the specification. -/
import Derived.Test.YtchfpiadfmnphaaDoorJn19
namespace Go.Proofs.YtchfpiadfmnphaaDoor
open Go.RowKit
set_option linter.unusedVariables false

set_option maxRecDepth 100000 in
set_option maxHeartbeats 16000000 in
theorem specManR (nm : ByteArray) (a1 : Option Addr) (c1 y1 : Nat) (ls : List LayV) (a2 : Option Addr) (c2 y2 : Nat) (bs : List LabV) (w : World) (h1 : ls.length = y1) (h2 : LayAt w a1 ls) (h3 : y1 ≤ maxLen) (h4 : ∀ x ∈ ls, x.w) (h5 : bs.length = y2) (h6 : LabAt w a2 bs) (h7 : y2 ≤ maxLen) (h8 : ∀ x ∈ bs, x.w) (h0 : nm.size ≤ maxLen) :
    Calls Tryd.prog 75 #[.agg #[.string nm, .slice a1 y1 c1, .slice a2 y2 c2]] w fun r w' => r = .returned (.bool (boolP (ManOk nm ls bs))) ∧ Below w.heap.size w w' := by
  unfold maxLen at h3 h7
  have HN1 := hidP h1
  have HW1 := hidP h4
  have HN2 := hidP h5
  have HW2 := hidP h8
  have H0 := hidP h0
  have HM1 : Hid (y1 ≤ maxLen) := h3
  have HM2 : Hid (y2 ≤ maxLen) := h7
  have hC1 : ∀ w0, (nameB nm = false) → Calls Tryd.prog 100 #[.string nm] w0 fun r w' => r = .returned (.bool false) ∧ w0 = w' := fun w0 n0 => by rw [← n0]; exact (specNameB nm w0 h0).mono fun r w' ⟨h1, h2⟩ => ⟨h1, h2.symm⟩
  have hC2 : ∀ w0, (nameB nm = true) → Calls Tryd.prog 100 #[.string nm] w0 fun r w' => r = .returned (.bool true) ∧ w0 = w' := fun w0 n0 => by rw [← n0]; exact (specNameB nm w0 h0).mono fun r w' ⟨h1, h2⟩ => ⟨h1, h2.symm⟩
  have hC3 : ∀ w0 (x0 : ByteArray), (x0.size ≤ maxLen) → (nameB x0 = false) → Calls Tryd.prog 100 #[.string x0] w0 fun r w' => r = .returned (.bool false) ∧ w0 = w' := fun w0 x0 n0 n1 => by rw [← n1]; exact (specNameB x0 w0 n0).mono fun r w' ⟨h1, h2⟩ => ⟨h1, h2.symm⟩
  have hC4 : ∀ w0 (x0 : ByteArray), (x0.size ≤ maxLen) → (nameB x0 = true) → Calls Tryd.prog 100 #[.string x0] w0 fun r w' => r = .returned (.bool true) ∧ w0 = w' := fun w0 x0 n0 n1 => by rw [← n1]; exact (specNameB x0 w0 n0).mono fun r w' ⟨h1, h2⟩ => ⟨h1, h2.symm⟩
  have hC5 : ∀ w0 (x1 : ByteArray), (x1.size ≤ maxLen) → (nameB x1 = false) → Calls Tryd.prog 100 #[.string x1] w0 fun r w' => r = .returned (.bool false) ∧ w0 = w' := fun w0 x1 n0 n1 => by rw [← n1]; exact (specNameB x1 w0 n0).mono fun r w' ⟨h1, h2⟩ => ⟨h1, h2.symm⟩
  have hC6 : ∀ w0 (x1 : ByteArray), (x1.size ≤ maxLen) → (nameB x1 = true) → Calls Tryd.prog 100 #[.string x1] w0 fun r w' => r = .returned (.bool true) ∧ w0 = w' := fun w0 x1 n0 n1 => by rw [← n1]; exact (specNameB x1 w0 n0).mono fun r w' ⟨h1, h2⟩ => ⟨h1, h2.symm⟩
  have hC7 : ∀ w0 (x0 : ByteArray), (x0.size ≤ maxLen) → (decide (x0.size = 32) = false) → Calls Tryd.prog 101 #[.string x0] w0 fun r w' => r = .returned (.bool false) ∧ w0 = w' := fun w0 x0 n0 n1 => by rw [← n1]; exact specSized x0 w0 n0
  have hC8 : ∀ w0 (x0 : ByteArray), (x0.size ≤ maxLen) → (decide (x0.size = 32) = true) → Calls Tryd.prog 101 #[.string x0] w0 fun r w' => r = .returned (.bool true) ∧ w0 = w' := fun w0 x0 n0 n1 => by rw [← n1]; exact specSized x0 w0 n0
  have HS0 : Hid (Sta [] w [] [⟨fun k => k < w.heap.size, fun w' => LayAt w' a1 ls ∧ LabAt w' a2 bs⟩] w) := Sta.arg (fun w' => LayAt w' a1 ls ∧ LabAt w' a2 bs) (fun w' hb => ⟨h2.below hb, h6.below hb⟩)
  clear h1 h2 h4 h5 h6 h8 h0
  go_enter Tryd.func75, Tryd.ntmps75
  go_wp2_with (first
    | ((with_reducible refine wpList_boxV (w := w) (by with_unfolding_all rfl) 41 (.tmp 0) (by with_unfolding_all rfl) [.string nm, .slice a1 y1 c1, .slice a2 y2 c2] (by with_unfolding_all rfl) ?_); intro w1 hA1 hB1 hS1; clear hS1; have HS1 := Sta.new HS0 hA1 hB1 (by simp); clear hA1 hB1; have cHS1_0_0 : w1.cell? ⟨w.heap.size, 0, none⟩ = some (.string nm) := Sta.c (i := 0) HS1 rfl rfl))
  clear cHS1_0_0
  have hb4 : nameB nm = false ∨ (nameB nm = true ∧ 10 < y1) ∨ (nameB nm = true ∧ ¬ 10 < y1 ∧ 10 < y2) ∨ (nameB nm = true ∧ ¬ 10 < y1 ∧ ¬ 10 < y2) := by cases nameB nm <;> simp <;> omega
  rcases hb4 with hd0 | ⟨hd0, g1⟩ | ⟨hd0, g1, g2⟩ | ⟨hd0, g1, g2⟩
  · as_aux_lemma =>
    have HF : Hid (¬ ManOk nm ls bs) := fun h => by have := h.1; rw [hd0] at this; cases this
    have cHS1_0_0 : w1.cell? ⟨w.heap.size, 0, none⟩ = some (.string nm) := Sta.c (i := 0) HS1 rfl rfl
    go_wp2_with (first
      | (go_at_call 100; (with_reducible refine (hC1 w1 hd0).mono ?_); rintro r w' ⟨rfl, rfl⟩))
    go_ret
    exact ⟨congrArg (fun b => Ending.returned (Value.bool b)) (boolP_no HF.out).symm, Sta.fin HS1⟩
  · as_aux_lemma =>
    have HF : Hid (¬ ManOk nm ls bs) := fun h => LaysOk.not_long HN1.out g1 h.2.1
    have d5 : decide ((10 : Int) < (y1 : Int)) = true := decide_eq_true (by omega)
    have cHS1_0_0 : w1.cell? ⟨w.heap.size, 0, none⟩ = some (.string nm) := Sta.c (i := 0) HS1 rfl rfl
    have cHS1_0_1 : w1.cell? ⟨w.heap.size, 1, none⟩ = some (.slice a1 y1 c1) := Sta.c (i := 0) HS1 rfl rfl
    go_wp2_with (first
      | (go_at_call 100; (with_reducible refine (hC2 w1 hd0).mono ?_); rintro r w' ⟨rfl, rfl⟩))
    go_ret
    exact ⟨congrArg (fun b => Ending.returned (Value.bool b)) (boolP_no HF.out).symm, Sta.fin HS1⟩
  · as_aux_lemma =>
    have HF : Hid (¬ ManOk nm ls bs) := fun h => LabsOk.not_long HN2.out g2 h.2.2
    have d5 : decide ((10 : Int) < (y1 : Int)) = false := decide_eq_false (by omega)
    have d6 : decide ((10 : Int) < (y2 : Int)) = true := decide_eq_true (by omega)
    have cHS1_0_0 : w1.cell? ⟨w.heap.size, 0, none⟩ = some (.string nm) := Sta.c (i := 0) HS1 rfl rfl
    have cHS1_0_1 : w1.cell? ⟨w.heap.size, 1, none⟩ = some (.slice a1 y1 c1) := Sta.c (i := 0) HS1 rfl rfl
    have cHS1_0_2 : w1.cell? ⟨w.heap.size, 2, none⟩ = some (.slice a2 y2 c2) := Sta.c (i := 0) HS1 rfl rfl
    go_wp2_with (first
      | (go_at_call 100; (with_reducible refine (hC2 w1 hd0).mono ?_); rintro r w' ⟨rfl, rfl⟩))
    go_ret
    exact ⟨congrArg (fun b => Ending.returned (Value.bool b)) (boolP_no HF.out).symm, Sta.fin HS1⟩
  · as_aux_lemma =>
    have HD0 := hidP hd0
    have H51 := hidP g1
    have H52 := hidP g2
    have d5 : decide ((10 : Int) < (y1 : Int)) = false := decide_eq_false (by omega)
    have d6 : decide ((10 : Int) < (y2 : Int)) = false := decide_eq_false (by omega)
    have cHS1_0_0 : w1.cell? ⟨w.heap.size, 0, none⟩ = some (.string nm) := Sta.c (i := 0) HS1 rfl rfl
    have cHS1_0_1 : w1.cell? ⟨w.heap.size, 1, none⟩ = some (.slice a1 y1 c1) := Sta.c (i := 0) HS1 rfl rfl
    have cHS1_0_2 : w1.cell? ⟨w.heap.size, 2, none⟩ = some (.slice a2 y2 c2) := Sta.c (i := 0) HS1 rfl rfl
    go_wp2_with (first
      | (go_at_call 100; (with_reducible refine (hC2 w1 hd0).mono ?_); rintro r w' ⟨rfl, rfl⟩))
    clear cHS1_0_0 cHS1_0_1 cHS1_0_2
    go_loopw [3] (fun v0 wr => ∃ (k : Nat), v0 = .int .i64 (k : Int) ∧ k ≤ y1 ∧ Hid (∀ j (h : j < ls.length), j < k → LayOk ls[j]) ∧ Hid (Sta [] w [(w.heap.size, [.string nm, .slice a1 y1 c1, .slice a2 y2 c2])] [⟨fun k => k < w.heap.size, fun w' => LayAt w' a1 ls ∧ LabAt w' a2 bs⟩] wr)) (fun v0 _ => y1 - (intOf v0).toNat)
    case atStart => exact ⟨0, rfl, Nat.zero_le _, fun j h hj => absurd hj (Nat.not_lt_zero _), HS1⟩
    case round =>
      rename Go.World => wl6
      clear HS1
      obtain ⟨k, rfl, hk6, HT, HS6⟩ := hrel
      by_cases hlt6 : k < y1
      case neg =>
        obtain rfl : y1 = k := by omega
        have HL := hidP (LaysOk.all HT.out HN1.out H51.out)
        have cHS6_0_1 : wl6.cell? ⟨w.heap.size, 1, none⟩ = some (.slice a1 y1 c1) := Sta.c (i := 0) HS6 rfl rfl
        go_wp2_with fail
        clear cHS6_0_1
        go_loopw [4] (fun v0 wr => ∃ (k : Nat), v0 = .int .i64 (k : Int) ∧ k ≤ y2 ∧ Hid (∀ j, j < k → LabOk bs j) ∧ Hid (Sta [] w [(w.heap.size, [.string nm, .slice a1 y1 c1, .slice a2 y2 c2])] [⟨fun y1 => y1 < w.heap.size, fun w' => LayAt w' a1 ls ∧ LabAt w' a2 bs⟩] wr)) (fun v0 _ => y2 - (intOf v0).toNat)
        case atStart => exact ⟨0, rfl, Nat.zero_le _, fun j hj => absurd hj (Nat.not_lt_zero _), HS6⟩
        case round =>
          rename Go.World => wl7
          clear HS6
          obtain ⟨k, rfl, hk7, HT, HS7⟩ := hrel
          by_cases hlt7 : k < y2
          case neg =>
            obtain rfl : y2 = k := by omega
            have HF := hidP (LabsOk.all HT.out HN2.out H52.out)
            have cHS7_0_2 : wl7.cell? ⟨w.heap.size, 2, none⟩ = some (.slice a2 y2 c2) := Sta.c (i := 0) HS7 rfl rfl
            go_wp2_with fail
            go_ret
            exact ⟨congrArg (fun b => Ending.returned (Value.bool b)) (boolP_yes (show ManOk nm ls bs from ⟨HD0.out, HL.out, HF.out⟩)).symm, Sta.fin HS7⟩
          have lk7 : (k : Int) < y2 := by omega
          have l07 : (0 : Int) ≤ k := by omega
          have hkl : k < bs.length := by have := HN2.out; omega
          obtain ⟨b2, o2, rfl, hz8⟩ := (Sta.t (i := 0) HS7 rfl :).2 k hkl
          clear hz8
          obtain ⟨x0, hx0⟩ : ∃ y, bs[k].ky = y := ⟨_, rfl⟩
          obtain ⟨x1, hx1⟩ : ∃ y, bs[k].vl = y := ⟨_, rfl⟩
          have HS9 := Sta.imp 0 (fun w' => (LayAt w' a1 ls ∧ LabAt w' (some ⟨b2, o2, none⟩) bs) ∧ w'.cell? ⟨b2, o2 + k * 2, none⟩ = some (.string x0) ∧ w'.cell? ⟨b2, o2 + k * 2 + 1, none⟩ = some (.string x1)) HS7 rfl (fun w' h => ⟨h, by rw [← hx0]; exact (LabAt.here h.2 k hkl).1, by rw [← hx1]; exact (LabAt.here h.2 k hkl).2⟩)
          have W0 : Hid (x0.size ≤ maxLen) := by have := (HW2.out bs[k] (List.getElem_mem hkl)).1; rw [hx0] at this; exact this
          have W1 : Hid (x1.size ≤ maxLen) := by have := (HW2.out bs[k] (List.getElem_mem hkl)).2; rw [hx1] at this; exact this
          have hb5 : nameB x0 = false ∨ (nameB x0 = true ∧ nameB x1 = false) ∨ (nameB x0 = true ∧ nameB x1 = true ∧ k = 0) ∨ (nameB x0 = true ∧ nameB x1 = true ∧ 0 < k) := by cases nameB x0 <;> cases nameB x1 <;> simp <;> omega
          rcases hb5 with hd0 | ⟨hd0, hd1⟩ | ⟨hd0, hd1, hk0⟩ | ⟨hd0, hd1, hk0⟩
          · as_aux_lemma =>
            have HF := hidP (LabsOk.not_at hkl hx0 hx1 (fun e0 e1 => by rw [hd0] at e0; cases e0))
            have cHS9_0_2 : wl7.cell? ⟨w.heap.size, 2, none⟩ = some (.slice (some ⟨b2, o2, none⟩) y2 c2) := Sta.c (i := 0) HS9 rfl rfl
            go_wp2_with fail
            clear cHS9_0_2
            have HS10 := Sta.drew HS9
            refine wp_region_held_drew (S := fun w' => w'.cell? ⟨w.heap.size, 2, none⟩ = some (.slice (some ⟨b2, o2, none⟩) y2 c2) ∧ w'.cell? ⟨b2, o2 + k * 2, none⟩ = some (.string x0) ∧ w'.cell? ⟨b2, o2 + k * 2 + 1, none⟩ = some (.string x1)) (by kernel_rfl) ⟨Sta.c (i := 0) HS10 rfl rfl, (Sta.t (i := 0) HS10 rfl :).2.1, (Sta.t (i := 0) HS10 rfl :).2.2⟩ (fun hHeld => ?_)
            generalize wl7.drew = w10 at *
            refine wpAnyH_take (i := 0) (oi := ⟨_, _, _, _, _, _⟩) (v := .pointer (some ⟨w.heap.size, 2, none⟩)) rfl (by kernel_rfl) (by kernel_rfl) (by kernel_rfl) (fun _ _ _ h => h) (Or.inl ⟨wanted_free rfl, fun w' hSw => ?_⟩) hHeld ?_
            · go_simp
            try simp only [Act.put, List.setIfInBounds_toArray, List.set_cons_zero, List.set_cons_succ]
            refine wpAnyH_take (i := 1) (oi := ⟨_, _, _, _, _, _⟩) (v := .slice (some ⟨b2, o2, none⟩) y2 c2) rfl (by kernel_rfl) (by kernel_rfl) (by kernel_rfl) (fun _ _ _ h => h) (Or.inl ⟨wanted_free rfl, fun w' hSw => ?_⟩) hHeld ?_
            · obtain ⟨s0, s1, s2⟩ := hSw
              go_simp
            try simp only [Act.put, List.setIfInBounds_toArray, List.set_cons_zero, List.set_cons_succ]
            refine wpAnyH_take (i := 2) (oi := ⟨_, _, _, _, _, _⟩) (v := .int .i64 (k : Int)) rfl (by kernel_rfl) (by kernel_rfl) (by kernel_rfl) (fun _ _ _ h => h) (Or.inl ⟨wanted_free rfl, fun w' hSw => ?_⟩) hHeld ?_
            · go_simp
            try simp only [Act.put, List.setIfInBounds_toArray, List.set_cons_zero, List.set_cons_succ]
            refine wpAnyH_take (i := 3) (oi := ⟨_, _, _, _, _, _⟩) (v := .pointer (some ⟨b2, o2 + k * 2, none⟩)) rfl (by kernel_rfl) (by kernel_rfl) (by kernel_rfl) (fun _ _ _ h => h) (Or.inl ⟨wanted_free rfl, fun w' hSw => ?_⟩) hHeld ?_
            · go_simp
            try simp only [Act.put, List.setIfInBounds_toArray, List.set_cons_zero, List.set_cons_succ]
            refine wpAnyH_take (i := 4) (oi := ⟨_, _, _, _, _, _⟩) (v := .pointer (some ⟨b2, o2 + k * 2, none⟩)) rfl (by kernel_rfl) (by kernel_rfl) (by kernel_rfl) (fun _ _ _ h => h) (Or.inl ⟨wanted_free rfl, fun w' hSw => ?_⟩) hHeld ?_
            · go_simp
            try simp only [Act.put, List.setIfInBounds_toArray, List.set_cons_zero, List.set_cons_succ]
            refine wpAnyH_take (i := 5) (oi := ⟨_, _, _, _, _, _⟩) (v := .string x0) rfl (by kernel_rfl) (by kernel_rfl) (by kernel_rfl) (fun _ _ _ h => h) (Or.inl ⟨wanted_free rfl, fun w' hSw => ?_⟩) hHeld ?_
            · obtain ⟨s0, s1, s2⟩ := hSw
              go_simp
            try simp only [Act.put, List.setIfInBounds_toArray, List.set_cons_zero, List.set_cons_succ]
            refine wpAnyH_ready (rs := [6]) (by kernel_rfl) (by simp) (AllReadyH.cons (o := ⟨_, _, _, _, _, _⟩) rfl (fun K hK => ?_) AllReadyH.nil)
            rewrite [if_pos (wanted_free rfl)]
            go_simp
            (with_reducible refine (hC3 w10 x0 W0.out hd0).mono ?_)
            rintro r w' ⟨rfl, rfl⟩
            go_wp2_with fail
            refine hK.out _ _ ⟨Sta.c (i := 0) HS10 rfl rfl, (Sta.t (i := 0) HS10 rfl :).2.1, (Sta.t (i := 0) HS10 rfl :).2.2⟩ (fun hHeld => ?_)
            clear hK K
            try simp only [Act.put, List.setIfInBounds_toArray, List.set_cons_zero, List.set_cons_succ]
            refine wpAnyH_take (i := 7) (oi := ⟨_, _, _, _, _, _⟩) (v := .bool true) rfl (by kernel_rfl) (by kernel_rfl) (by kernel_rfl) (fun _ _ _ h => h) (Or.inl ⟨wanted_free rfl, fun w' hSw => ?_⟩) hHeld ?_
            · go_simp
            try simp only [Act.put, List.setIfInBounds_toArray, List.set_cons_zero, List.set_cons_succ]
            refine wpAnyH_take (i := 8) (oi := ⟨_, _, _, _, _, _⟩) (v := .bool true) rfl (by kernel_rfl) (by kernel_rfl) (by kernel_rfl) (fun _ _ _ h => h) (Or.inl ⟨wanted_free rfl, fun w' hSw => ?_⟩) hHeld ?_
            · go_simp
            try simp only [Act.put, List.setIfInBounds_toArray, List.set_cons_zero, List.set_cons_succ]
            refine wpAnyH_take (i := 9) (oi := ⟨_, _, _, _, _, _⟩) (v := undef) rfl (by kernel_rfl) (by kernel_rfl) (by kernel_rfl) (fun _ _ _ h => h) (Or.inr ⟨by with_unfolding_all rfl, rfl⟩) hHeld ?_
            try simp only [Act.put, List.setIfInBounds_toArray, List.set_cons_zero, List.set_cons_succ]
            refine wpAnyH_take (i := 10) (oi := ⟨_, _, _, _, _, _⟩) (v := undef) rfl (by kernel_rfl) (by kernel_rfl) (by kernel_rfl) (fun _ _ _ h => h) (Or.inr ⟨by with_unfolding_all rfl, rfl⟩) hHeld ?_
            try simp only [Act.put, List.setIfInBounds_toArray, List.set_cons_zero, List.set_cons_succ]
            refine wpAnyH_take (i := 11) (oi := ⟨_, _, _, _, _, _⟩) (v := undef) rfl (by kernel_rfl) (by kernel_rfl) (by kernel_rfl) (fun _ _ _ h => h) (Or.inr ⟨by with_unfolding_all rfl, rfl⟩) hHeld ?_
            try simp only [Act.put, List.setIfInBounds_toArray, List.set_cons_zero, List.set_cons_succ]
            refine wpAnyH_take (i := 12) (oi := ⟨_, _, _, _, _, _⟩) (v := undef) rfl (by kernel_rfl) (by kernel_rfl) (by kernel_rfl) (fun _ _ _ h => h) (Or.inr ⟨by with_unfolding_all rfl, rfl⟩) hHeld ?_
            try simp only [Act.put, List.setIfInBounds_toArray, List.set_cons_zero, List.set_cons_succ]
            refine wpAnyH_take (i := 13) (oi := ⟨_, _, _, _, _, _⟩) (v := undef) rfl (by kernel_rfl) (by kernel_rfl) (by kernel_rfl) (fun _ _ _ h => h) (Or.inr ⟨by with_unfolding_all rfl, rfl⟩) hHeld ?_
            try simp only [Act.put, List.setIfInBounds_toArray, List.set_cons_zero, List.set_cons_succ]
            refine wpAnyH_take (i := 14) (oi := ⟨_, _, _, _, _, _⟩) (v := undef) rfl (by kernel_rfl) (by kernel_rfl) (by kernel_rfl) (fun _ _ _ h => h) (Or.inr ⟨by with_unfolding_all rfl, rfl⟩) hHeld ?_
            try simp only [Act.put, List.setIfInBounds_toArray, List.set_cons_zero, List.set_cons_succ]
            refine wpAnyH_take (i := 15) (oi := ⟨_, _, _, _, _, _⟩) (v := undef) rfl (by kernel_rfl) (by kernel_rfl) (by kernel_rfl) (fun _ _ _ h => h) (Or.inr ⟨by with_unfolding_all rfl, rfl⟩) hHeld ?_
            try simp only [Act.put, List.setIfInBounds_toArray, List.set_cons_zero, List.set_cons_succ]
            refine wpAnyH_take (i := 16) (oi := ⟨_, _, _, _, _, _⟩) (v := undef) rfl (by kernel_rfl) (by kernel_rfl) (by kernel_rfl) (fun _ _ _ h => h) (Or.inr ⟨by with_unfolding_all rfl, rfl⟩) hHeld ?_
            try simp only [Act.put, List.setIfInBounds_toArray, List.set_cons_zero, List.set_cons_succ]
            refine wpAnyH_take (i := 17) (oi := ⟨_, _, _, _, _, _⟩) (v := .bool true) rfl (by kernel_rfl) (by kernel_rfl) (by kernel_rfl) (fun _ _ _ h => h) (Or.inl ⟨wanted_free rfl, fun w' hSw => ?_⟩) hHeld ?_
            · go_simp
            try simp only [Act.put, List.setIfInBounds_toArray, List.set_cons_zero, List.set_cons_succ]
            refine wpAnyH_take (i := 18) (oi := ⟨_, _, _, _, _, _⟩) (v := .bool true) rfl (by kernel_rfl) (by kernel_rfl) (by kernel_rfl) (fun _ _ _ h => h) (Or.inl ⟨wanted_free rfl, fun w' hSw => ?_⟩) hHeld ?_
            · go_simp
            try simp only [Act.put, List.setIfInBounds_toArray, List.set_cons_zero, List.set_cons_succ]
            refine wpAnyH_take (i := 19) (oi := ⟨_, _, _, _, _, _⟩) (v := undef) rfl (by kernel_rfl) (by kernel_rfl) (by kernel_rfl) (fun _ _ _ h => h) (Or.inr ⟨by with_unfolding_all rfl, rfl⟩) hHeld ?_
            try simp only [Act.put, List.setIfInBounds_toArray, List.set_cons_zero, List.set_cons_succ]
            refine wpAnyH_take (i := 20) (oi := ⟨_, _, _, _, _, _⟩) (v := undef) rfl (by kernel_rfl) (by kernel_rfl) (by kernel_rfl) (fun _ _ _ h => h) (Or.inr ⟨by with_unfolding_all rfl, rfl⟩) hHeld ?_
            try simp only [Act.put, List.setIfInBounds_toArray, List.set_cons_zero, List.set_cons_succ]
            refine wpAnyH_take (i := 21) (oi := ⟨_, _, _, _, _, _⟩) (v := undef) rfl (by kernel_rfl) (by kernel_rfl) (by kernel_rfl) (fun _ _ _ h => h) (Or.inr ⟨by with_unfolding_all rfl, rfl⟩) hHeld ?_
            try simp only [Act.put, List.setIfInBounds_toArray, List.set_cons_zero, List.set_cons_succ]
            refine wpAnyH_take (i := 22) (oi := ⟨_, _, _, _, _, _⟩) (v := undef) rfl (by kernel_rfl) (by kernel_rfl) (by kernel_rfl) (fun _ _ _ h => h) (Or.inr ⟨by with_unfolding_all rfl, rfl⟩) hHeld ?_
            try simp only [Act.put, List.setIfInBounds_toArray, List.set_cons_zero, List.set_cons_succ]
            refine wpAnyH_take (i := 23) (oi := ⟨_, _, _, _, _, _⟩) (v := undef) rfl (by kernel_rfl) (by kernel_rfl) (by kernel_rfl) (fun _ _ _ h => h) (Or.inr ⟨by with_unfolding_all rfl, rfl⟩) hHeld ?_
            try simp only [Act.put, List.setIfInBounds_toArray, List.set_cons_zero, List.set_cons_succ]
            refine wpAnyH_take (i := 24) (oi := ⟨_, _, _, _, _, _⟩) (v := undef) rfl (by kernel_rfl) (by kernel_rfl) (by kernel_rfl) (fun _ _ _ h => h) (Or.inr ⟨by with_unfolding_all rfl, rfl⟩) hHeld ?_
            try simp only [Act.put, List.setIfInBounds_toArray, List.set_cons_zero, List.set_cons_succ]
            refine wpAnyH_take (i := 25) (oi := ⟨_, _, _, _, _, _⟩) (v := undef) rfl (by kernel_rfl) (by kernel_rfl) (by kernel_rfl) (fun _ _ _ h => h) (Or.inr ⟨by with_unfolding_all rfl, rfl⟩) hHeld ?_
            try simp only [Act.put, List.setIfInBounds_toArray, List.set_cons_zero, List.set_cons_succ]
            refine wpAnyH_take (i := 26) (oi := ⟨_, _, _, _, _, _⟩) (v := undef) rfl (by kernel_rfl) (by kernel_rfl) (by kernel_rfl) (fun _ _ _ h => h) (Or.inr ⟨by with_unfolding_all rfl, rfl⟩) hHeld ?_
            try simp only [Act.put, List.setIfInBounds_toArray, List.set_cons_zero, List.set_cons_succ]
            refine wpAnyH_take (i := 27) (oi := ⟨_, _, _, _, _, _⟩) (v := undef) rfl (by kernel_rfl) (by kernel_rfl) (by kernel_rfl) (fun _ _ _ h => h) (Or.inr ⟨by with_unfolding_all rfl, rfl⟩) hHeld ?_
            try simp only [Act.put, List.setIfInBounds_toArray, List.set_cons_zero, List.set_cons_succ]
            refine wpAnyH_take (i := 28) (oi := ⟨_, _, _, _, _, _⟩) (v := undef) rfl (by kernel_rfl) (by kernel_rfl) (by kernel_rfl) (fun _ _ _ h => h) (Or.inr ⟨by with_unfolding_all rfl, rfl⟩) hHeld ?_
            try simp only [Act.put, List.setIfInBounds_toArray, List.set_cons_zero, List.set_cons_succ]
            refine wpAnyH_take (i := 29) (oi := ⟨_, _, _, _, _, _⟩) (v := undef) rfl (by kernel_rfl) (by kernel_rfl) (by kernel_rfl) (fun _ _ _ h => h) (Or.inr ⟨by with_unfolding_all rfl, rfl⟩) hHeld ?_
            try simp only [Act.put, List.setIfInBounds_toArray, List.set_cons_zero, List.set_cons_succ]
            refine wpAnyH_take (i := 30) (oi := ⟨_, _, _, _, _, _⟩) (v := undef) rfl (by kernel_rfl) (by kernel_rfl) (by kernel_rfl) (fun _ _ _ h => h) (Or.inr ⟨by with_unfolding_all rfl, rfl⟩) hHeld ?_
            try simp only [Act.put, List.setIfInBounds_toArray, List.set_cons_zero, List.set_cons_succ]
            refine wpAnyH_take (i := 31) (oi := ⟨_, _, _, _, _, _⟩) (v := undef) rfl (by kernel_rfl) (by kernel_rfl) (by kernel_rfl) (fun _ _ _ h => h) (Or.inr ⟨by with_unfolding_all rfl, rfl⟩) hHeld ?_
            try simp only [Act.put, List.setIfInBounds_toArray, List.set_cons_zero, List.set_cons_succ]
            refine wpAnyH_take (i := 32) (oi := ⟨_, _, _, _, _, _⟩) (v := undef) rfl (by kernel_rfl) (by kernel_rfl) (by kernel_rfl) (fun _ _ _ h => h) (Or.inr ⟨by with_unfolding_all rfl, rfl⟩) hHeld ?_
            try simp only [Act.put, List.setIfInBounds_toArray, List.set_cons_zero, List.set_cons_succ]
            refine wpAnyH_take (i := 33) (oi := ⟨_, _, _, _, _, _⟩) (v := undef) rfl (by kernel_rfl) (by kernel_rfl) (by kernel_rfl) (fun _ _ _ h => h) (Or.inr ⟨by with_unfolding_all rfl, rfl⟩) hHeld ?_
            try simp only [Act.put, List.setIfInBounds_toArray, List.set_cons_zero, List.set_cons_succ]
            refine wpAnyH_take (i := 34) (oi := ⟨_, _, _, _, _, _⟩) (v := undef) rfl (by kernel_rfl) (by kernel_rfl) (by kernel_rfl) (fun _ _ _ h => h) (Or.inr ⟨by with_unfolding_all rfl, rfl⟩) hHeld ?_
            try simp only [Act.put, List.setIfInBounds_toArray, List.set_cons_zero, List.set_cons_succ]
            refine wpAnyH_take (i := 35) (oi := ⟨_, _, _, _, _, _⟩) (v := undef) rfl (by kernel_rfl) (by kernel_rfl) (by kernel_rfl) (fun _ _ _ h => h) (Or.inr ⟨by with_unfolding_all rfl, rfl⟩) hHeld ?_
            try simp only [Act.put, List.setIfInBounds_toArray, List.set_cons_zero, List.set_cons_succ]
            refine wpAnyH_take (i := 36) (oi := ⟨_, _, _, _, _, _⟩) (v := undef) rfl (by kernel_rfl) (by kernel_rfl) (by kernel_rfl) (fun _ _ _ h => h) (Or.inr ⟨by with_unfolding_all rfl, rfl⟩) hHeld ?_
            try simp only [Act.put, List.setIfInBounds_toArray, List.set_cons_zero, List.set_cons_succ]
            refine wpAnyH_take (i := 37) (oi := ⟨_, _, _, _, _, _⟩) (v := .bool true) rfl (by kernel_rfl) (by kernel_rfl) (by kernel_rfl) (fun _ _ _ h => h) (Or.inl ⟨wanted_free rfl, fun w' hSw => ?_⟩) hHeld ?_
            · go_simp
            try simp only [Act.put, List.setIfInBounds_toArray, List.set_cons_zero, List.set_cons_succ]
            refine wpAnyH_done (by kernel_rfl) ?_ _
            clear hHeld
            go_wp2_with fail
            go_ret
            exact ⟨congrArg (fun b => Ending.returned (Value.bool b)) (boolP_no (show ¬ ManOk nm ls bs from fun h => HF.out h.2.2)).symm, Sta.fin HS10⟩
          · as_aux_lemma =>
            have HF := hidP (LabsOk.not_at hkl hx0 hx1 (fun e0 e1 => by rw [hd1] at e1; cases e1))
            have cHS9_0_2 : wl7.cell? ⟨w.heap.size, 2, none⟩ = some (.slice (some ⟨b2, o2, none⟩) y2 c2) := Sta.c (i := 0) HS9 rfl rfl
            go_wp2_with fail
            clear cHS9_0_2
            have HS12 := Sta.drew HS9
            refine wp_region_held_drew (S := fun w' => w'.cell? ⟨w.heap.size, 2, none⟩ = some (.slice (some ⟨b2, o2, none⟩) y2 c2) ∧ w'.cell? ⟨b2, o2 + k * 2, none⟩ = some (.string x0) ∧ w'.cell? ⟨b2, o2 + k * 2 + 1, none⟩ = some (.string x1)) (by kernel_rfl) ⟨Sta.c (i := 0) HS12 rfl rfl, (Sta.t (i := 0) HS12 rfl :).2.1, (Sta.t (i := 0) HS12 rfl :).2.2⟩ (fun hHeld => ?_)
            generalize wl7.drew = w12 at *
            refine wpAnyH_take (i := 0) (oi := ⟨_, _, _, _, _, _⟩) (v := .pointer (some ⟨w.heap.size, 2, none⟩)) rfl (by kernel_rfl) (by kernel_rfl) (by kernel_rfl) (fun _ _ _ h => h) (Or.inl ⟨wanted_free rfl, fun w' hSw => ?_⟩) hHeld ?_
            · go_simp
            try simp only [Act.put, List.setIfInBounds_toArray, List.set_cons_zero, List.set_cons_succ]
            refine wpAnyH_take (i := 1) (oi := ⟨_, _, _, _, _, _⟩) (v := .slice (some ⟨b2, o2, none⟩) y2 c2) rfl (by kernel_rfl) (by kernel_rfl) (by kernel_rfl) (fun _ _ _ h => h) (Or.inl ⟨wanted_free rfl, fun w' hSw => ?_⟩) hHeld ?_
            · obtain ⟨s0, s1, s2⟩ := hSw
              go_simp
            try simp only [Act.put, List.setIfInBounds_toArray, List.set_cons_zero, List.set_cons_succ]
            refine wpAnyH_take (i := 2) (oi := ⟨_, _, _, _, _, _⟩) (v := .int .i64 (k : Int)) rfl (by kernel_rfl) (by kernel_rfl) (by kernel_rfl) (fun _ _ _ h => h) (Or.inl ⟨wanted_free rfl, fun w' hSw => ?_⟩) hHeld ?_
            · go_simp
            try simp only [Act.put, List.setIfInBounds_toArray, List.set_cons_zero, List.set_cons_succ]
            refine wpAnyH_take (i := 3) (oi := ⟨_, _, _, _, _, _⟩) (v := .pointer (some ⟨b2, o2 + k * 2, none⟩)) rfl (by kernel_rfl) (by kernel_rfl) (by kernel_rfl) (fun _ _ _ h => h) (Or.inl ⟨wanted_free rfl, fun w' hSw => ?_⟩) hHeld ?_
            · go_simp
            try simp only [Act.put, List.setIfInBounds_toArray, List.set_cons_zero, List.set_cons_succ]
            refine wpAnyH_take (i := 4) (oi := ⟨_, _, _, _, _, _⟩) (v := .pointer (some ⟨b2, o2 + k * 2, none⟩)) rfl (by kernel_rfl) (by kernel_rfl) (by kernel_rfl) (fun _ _ _ h => h) (Or.inl ⟨wanted_free rfl, fun w' hSw => ?_⟩) hHeld ?_
            · go_simp
            try simp only [Act.put, List.setIfInBounds_toArray, List.set_cons_zero, List.set_cons_succ]
            refine wpAnyH_take (i := 5) (oi := ⟨_, _, _, _, _, _⟩) (v := .string x0) rfl (by kernel_rfl) (by kernel_rfl) (by kernel_rfl) (fun _ _ _ h => h) (Or.inl ⟨wanted_free rfl, fun w' hSw => ?_⟩) hHeld ?_
            · obtain ⟨s0, s1, s2⟩ := hSw
              go_simp
            try simp only [Act.put, List.setIfInBounds_toArray, List.set_cons_zero, List.set_cons_succ]
            refine wpAnyH_ready (rs := [6]) (by kernel_rfl) (by simp) (AllReadyH.cons (o := ⟨_, _, _, _, _, _⟩) rfl (fun K hK => ?_) AllReadyH.nil)
            rewrite [if_pos (wanted_free rfl)]
            go_simp
            (with_reducible refine (hC4 w12 x0 W0.out hd0).mono ?_)
            rintro r w' ⟨rfl, rfl⟩
            go_wp2_with fail
            refine hK.out _ _ ⟨Sta.c (i := 0) HS12 rfl rfl, (Sta.t (i := 0) HS12 rfl :).2.1, (Sta.t (i := 0) HS12 rfl :).2.2⟩ (fun hHeld => ?_)
            clear hK K
            try simp only [Act.put, List.setIfInBounds_toArray, List.set_cons_zero, List.set_cons_succ]
            refine wpAnyH_take (i := 7) (oi := ⟨_, _, _, _, _, _⟩) (v := .bool false) rfl (by kernel_rfl) (by kernel_rfl) (by kernel_rfl) (fun _ _ _ h => h) (Or.inl ⟨wanted_free rfl, fun w' hSw => ?_⟩) hHeld ?_
            · go_simp
            try simp only [Act.put, List.setIfInBounds_toArray, List.set_cons_zero, List.set_cons_succ]
            refine wpAnyH_take (i := 8) (oi := ⟨_, _, _, _, _, _⟩) (v := .bool false) rfl (by kernel_rfl) (by kernel_rfl) (by kernel_rfl) (fun _ _ _ h => h) (Or.inl ⟨wanted_free rfl, fun w' hSw => ?_⟩) hHeld ?_
            · go_simp
            try simp only [Act.put, List.setIfInBounds_toArray, List.set_cons_zero, List.set_cons_succ]
            refine wpAnyH_take (i := 9) (oi := ⟨_, _, _, _, _, _⟩) (v := .pointer (some ⟨w.heap.size, 2, none⟩)) rfl (by kernel_rfl) (by kernel_rfl) (by kernel_rfl) (fun _ _ _ h => h) (Or.inl ⟨by with_unfolding_all rfl, fun w' hSw => ?_⟩) hHeld ?_
            · go_simp
            try simp only [Act.put, List.setIfInBounds_toArray, List.set_cons_zero, List.set_cons_succ]
            refine wpAnyH_take (i := 10) (oi := ⟨_, _, _, _, _, _⟩) (v := .slice (some ⟨b2, o2, none⟩) y2 c2) rfl (by kernel_rfl) (by kernel_rfl) (by kernel_rfl) (fun _ _ _ h => h) (Or.inl ⟨by with_unfolding_all rfl, fun w' hSw => ?_⟩) hHeld ?_
            · obtain ⟨s0, s1, s2⟩ := hSw
              go_simp
            try simp only [Act.put, List.setIfInBounds_toArray, List.set_cons_zero, List.set_cons_succ]
            refine wpAnyH_take (i := 11) (oi := ⟨_, _, _, _, _, _⟩) (v := .int .i64 (k : Int)) rfl (by kernel_rfl) (by kernel_rfl) (by kernel_rfl) (fun _ _ _ h => h) (Or.inl ⟨by with_unfolding_all rfl, fun w' hSw => ?_⟩) hHeld ?_
            · go_simp
            try simp only [Act.put, List.setIfInBounds_toArray, List.set_cons_zero, List.set_cons_succ]
            refine wpAnyH_take (i := 12) (oi := ⟨_, _, _, _, _, _⟩) (v := .pointer (some ⟨b2, o2 + k * 2, none⟩)) rfl (by kernel_rfl) (by kernel_rfl) (by kernel_rfl) (fun _ _ _ h => h) (Or.inl ⟨by with_unfolding_all rfl, fun w' hSw => ?_⟩) hHeld ?_
            · go_simp
            try simp only [Act.put, List.setIfInBounds_toArray, List.set_cons_zero, List.set_cons_succ]
            refine wpAnyH_take (i := 13) (oi := ⟨_, _, _, _, _, _⟩) (v := .pointer (some ⟨b2, o2 + k * 2 + 1, none⟩)) rfl (by kernel_rfl) (by kernel_rfl) (by kernel_rfl) (fun _ _ _ h => h) (Or.inl ⟨by with_unfolding_all rfl, fun w' hSw => ?_⟩) hHeld ?_
            · go_simp
            try simp only [Act.put, List.setIfInBounds_toArray, List.set_cons_zero, List.set_cons_succ]
            refine wpAnyH_take (i := 14) (oi := ⟨_, _, _, _, _, _⟩) (v := .string x1) rfl (by kernel_rfl) (by kernel_rfl) (by kernel_rfl) (fun _ _ _ h => h) (Or.inl ⟨by with_unfolding_all rfl, fun w' hSw => ?_⟩) hHeld ?_
            · obtain ⟨s0, s1, s2⟩ := hSw
              go_simp
            try simp only [Act.put, List.setIfInBounds_toArray, List.set_cons_zero, List.set_cons_succ]
            refine wpAnyH_ready (rs := [15]) (by kernel_rfl) (by simp) (AllReadyH.cons (o := ⟨_, _, _, _, _, _⟩) rfl (fun K hK => ?_) AllReadyH.nil)
            rewrite [if_pos (by with_unfolding_all rfl)]
            go_simp
            (with_reducible refine (hC5 w12 x1 W1.out hd1).mono ?_)
            rintro r w' ⟨rfl, rfl⟩
            go_wp2_with fail
            refine hK.out _ _ ⟨Sta.c (i := 0) HS12 rfl rfl, (Sta.t (i := 0) HS12 rfl :).2.1, (Sta.t (i := 0) HS12 rfl :).2.2⟩ (fun hHeld => ?_)
            clear hK K
            try simp only [Act.put, List.setIfInBounds_toArray, List.set_cons_zero, List.set_cons_succ]
            refine wpAnyH_take (i := 16) (oi := ⟨_, _, _, _, _, _⟩) (v := .bool true) rfl (by kernel_rfl) (by kernel_rfl) (by kernel_rfl) (fun _ _ _ h => h) (Or.inl ⟨by with_unfolding_all rfl, fun w' hSw => ?_⟩) hHeld ?_
            · go_simp
            try simp only [Act.put, List.setIfInBounds_toArray, List.set_cons_zero, List.set_cons_succ]
            refine wpAnyH_take (i := 17) (oi := ⟨_, _, _, _, _, _⟩) (v := .bool true) rfl (by kernel_rfl) (by kernel_rfl) (by kernel_rfl) (fun _ _ _ h => h) (Or.inl ⟨wanted_free rfl, fun w' hSw => ?_⟩) hHeld ?_
            · go_simp
            try simp only [Act.put, List.setIfInBounds_toArray, List.set_cons_zero, List.set_cons_succ]
            refine wpAnyH_take (i := 18) (oi := ⟨_, _, _, _, _, _⟩) (v := .bool true) rfl (by kernel_rfl) (by kernel_rfl) (by kernel_rfl) (fun _ _ _ h => h) (Or.inl ⟨wanted_free rfl, fun w' hSw => ?_⟩) hHeld ?_
            · go_simp
            try simp only [Act.put, List.setIfInBounds_toArray, List.set_cons_zero, List.set_cons_succ]
            refine wpAnyH_take (i := 19) (oi := ⟨_, _, _, _, _, _⟩) (v := undef) rfl (by kernel_rfl) (by kernel_rfl) (by kernel_rfl) (fun _ _ _ h => h) (Or.inr ⟨by with_unfolding_all rfl, rfl⟩) hHeld ?_
            try simp only [Act.put, List.setIfInBounds_toArray, List.set_cons_zero, List.set_cons_succ]
            refine wpAnyH_take (i := 20) (oi := ⟨_, _, _, _, _, _⟩) (v := undef) rfl (by kernel_rfl) (by kernel_rfl) (by kernel_rfl) (fun _ _ _ h => h) (Or.inr ⟨by with_unfolding_all rfl, rfl⟩) hHeld ?_
            try simp only [Act.put, List.setIfInBounds_toArray, List.set_cons_zero, List.set_cons_succ]
            refine wpAnyH_take (i := 21) (oi := ⟨_, _, _, _, _, _⟩) (v := undef) rfl (by kernel_rfl) (by kernel_rfl) (by kernel_rfl) (fun _ _ _ h => h) (Or.inr ⟨by with_unfolding_all rfl, rfl⟩) hHeld ?_
            try simp only [Act.put, List.setIfInBounds_toArray, List.set_cons_zero, List.set_cons_succ]
            refine wpAnyH_take (i := 22) (oi := ⟨_, _, _, _, _, _⟩) (v := undef) rfl (by kernel_rfl) (by kernel_rfl) (by kernel_rfl) (fun _ _ _ h => h) (Or.inr ⟨by with_unfolding_all rfl, rfl⟩) hHeld ?_
            try simp only [Act.put, List.setIfInBounds_toArray, List.set_cons_zero, List.set_cons_succ]
            refine wpAnyH_take (i := 23) (oi := ⟨_, _, _, _, _, _⟩) (v := undef) rfl (by kernel_rfl) (by kernel_rfl) (by kernel_rfl) (fun _ _ _ h => h) (Or.inr ⟨by with_unfolding_all rfl, rfl⟩) hHeld ?_
            try simp only [Act.put, List.setIfInBounds_toArray, List.set_cons_zero, List.set_cons_succ]
            refine wpAnyH_take (i := 24) (oi := ⟨_, _, _, _, _, _⟩) (v := undef) rfl (by kernel_rfl) (by kernel_rfl) (by kernel_rfl) (fun _ _ _ h => h) (Or.inr ⟨by with_unfolding_all rfl, rfl⟩) hHeld ?_
            try simp only [Act.put, List.setIfInBounds_toArray, List.set_cons_zero, List.set_cons_succ]
            refine wpAnyH_take (i := 25) (oi := ⟨_, _, _, _, _, _⟩) (v := undef) rfl (by kernel_rfl) (by kernel_rfl) (by kernel_rfl) (fun _ _ _ h => h) (Or.inr ⟨by with_unfolding_all rfl, rfl⟩) hHeld ?_
            try simp only [Act.put, List.setIfInBounds_toArray, List.set_cons_zero, List.set_cons_succ]
            refine wpAnyH_take (i := 26) (oi := ⟨_, _, _, _, _, _⟩) (v := undef) rfl (by kernel_rfl) (by kernel_rfl) (by kernel_rfl) (fun _ _ _ h => h) (Or.inr ⟨by with_unfolding_all rfl, rfl⟩) hHeld ?_
            try simp only [Act.put, List.setIfInBounds_toArray, List.set_cons_zero, List.set_cons_succ]
            refine wpAnyH_take (i := 27) (oi := ⟨_, _, _, _, _, _⟩) (v := undef) rfl (by kernel_rfl) (by kernel_rfl) (by kernel_rfl) (fun _ _ _ h => h) (Or.inr ⟨by with_unfolding_all rfl, rfl⟩) hHeld ?_
            try simp only [Act.put, List.setIfInBounds_toArray, List.set_cons_zero, List.set_cons_succ]
            refine wpAnyH_take (i := 28) (oi := ⟨_, _, _, _, _, _⟩) (v := undef) rfl (by kernel_rfl) (by kernel_rfl) (by kernel_rfl) (fun _ _ _ h => h) (Or.inr ⟨by with_unfolding_all rfl, rfl⟩) hHeld ?_
            try simp only [Act.put, List.setIfInBounds_toArray, List.set_cons_zero, List.set_cons_succ]
            refine wpAnyH_take (i := 29) (oi := ⟨_, _, _, _, _, _⟩) (v := undef) rfl (by kernel_rfl) (by kernel_rfl) (by kernel_rfl) (fun _ _ _ h => h) (Or.inr ⟨by with_unfolding_all rfl, rfl⟩) hHeld ?_
            try simp only [Act.put, List.setIfInBounds_toArray, List.set_cons_zero, List.set_cons_succ]
            refine wpAnyH_take (i := 30) (oi := ⟨_, _, _, _, _, _⟩) (v := undef) rfl (by kernel_rfl) (by kernel_rfl) (by kernel_rfl) (fun _ _ _ h => h) (Or.inr ⟨by with_unfolding_all rfl, rfl⟩) hHeld ?_
            try simp only [Act.put, List.setIfInBounds_toArray, List.set_cons_zero, List.set_cons_succ]
            refine wpAnyH_take (i := 31) (oi := ⟨_, _, _, _, _, _⟩) (v := undef) rfl (by kernel_rfl) (by kernel_rfl) (by kernel_rfl) (fun _ _ _ h => h) (Or.inr ⟨by with_unfolding_all rfl, rfl⟩) hHeld ?_
            try simp only [Act.put, List.setIfInBounds_toArray, List.set_cons_zero, List.set_cons_succ]
            refine wpAnyH_take (i := 32) (oi := ⟨_, _, _, _, _, _⟩) (v := undef) rfl (by kernel_rfl) (by kernel_rfl) (by kernel_rfl) (fun _ _ _ h => h) (Or.inr ⟨by with_unfolding_all rfl, rfl⟩) hHeld ?_
            try simp only [Act.put, List.setIfInBounds_toArray, List.set_cons_zero, List.set_cons_succ]
            refine wpAnyH_take (i := 33) (oi := ⟨_, _, _, _, _, _⟩) (v := undef) rfl (by kernel_rfl) (by kernel_rfl) (by kernel_rfl) (fun _ _ _ h => h) (Or.inr ⟨by with_unfolding_all rfl, rfl⟩) hHeld ?_
            try simp only [Act.put, List.setIfInBounds_toArray, List.set_cons_zero, List.set_cons_succ]
            refine wpAnyH_take (i := 34) (oi := ⟨_, _, _, _, _, _⟩) (v := undef) rfl (by kernel_rfl) (by kernel_rfl) (by kernel_rfl) (fun _ _ _ h => h) (Or.inr ⟨by with_unfolding_all rfl, rfl⟩) hHeld ?_
            try simp only [Act.put, List.setIfInBounds_toArray, List.set_cons_zero, List.set_cons_succ]
            refine wpAnyH_take (i := 35) (oi := ⟨_, _, _, _, _, _⟩) (v := undef) rfl (by kernel_rfl) (by kernel_rfl) (by kernel_rfl) (fun _ _ _ h => h) (Or.inr ⟨by with_unfolding_all rfl, rfl⟩) hHeld ?_
            try simp only [Act.put, List.setIfInBounds_toArray, List.set_cons_zero, List.set_cons_succ]
            refine wpAnyH_take (i := 36) (oi := ⟨_, _, _, _, _, _⟩) (v := undef) rfl (by kernel_rfl) (by kernel_rfl) (by kernel_rfl) (fun _ _ _ h => h) (Or.inr ⟨by with_unfolding_all rfl, rfl⟩) hHeld ?_
            try simp only [Act.put, List.setIfInBounds_toArray, List.set_cons_zero, List.set_cons_succ]
            refine wpAnyH_take (i := 37) (oi := ⟨_, _, _, _, _, _⟩) (v := .bool true) rfl (by kernel_rfl) (by kernel_rfl) (by kernel_rfl) (fun _ _ _ h => h) (Or.inl ⟨wanted_free rfl, fun w' hSw => ?_⟩) hHeld ?_
            · go_simp
            try simp only [Act.put, List.setIfInBounds_toArray, List.set_cons_zero, List.set_cons_succ]
            refine wpAnyH_done (by kernel_rfl) ?_ _
            clear hHeld
            go_wp2_with fail
            go_ret
            exact ⟨congrArg (fun b => Ending.returned (Value.bool b)) (boolP_no (show ¬ ManOk nm ls bs from fun h => HF.out h.2.2)).symm, Sta.fin HS12⟩
          · as_aux_lemma =>
            have d5b : decide ((0 : Int) < (k : Int)) = false := decide_eq_false (by omega)
            have hkn : ¬ (0 < k) := by omega
            have HT2 := hidP (LabsOk.step HT.out hkl hx0 hx1 hd0 hd1 (fun k1 _ e => by omega))
            clear hk0
            have cHS9_0_2 : wl7.cell? ⟨w.heap.size, 2, none⟩ = some (.slice (some ⟨b2, o2, none⟩) y2 c2) := Sta.c (i := 0) HS9 rfl rfl
            go_wp2_with fail
            clear cHS9_0_2
            have HS15 := Sta.drew HS9
            refine wp_region_held_drew (S := fun w' => w'.cell? ⟨w.heap.size, 2, none⟩ = some (.slice (some ⟨b2, o2, none⟩) y2 c2) ∧ w'.cell? ⟨b2, o2 + k * 2, none⟩ = some (.string x0) ∧ w'.cell? ⟨b2, o2 + k * 2 + 1, none⟩ = some (.string x1)) (by kernel_rfl) ⟨Sta.c (i := 0) HS15 rfl rfl, (Sta.t (i := 0) HS15 rfl :).2.1, (Sta.t (i := 0) HS15 rfl :).2.2⟩ (fun hHeld => ?_)
            generalize wl7.drew = w15 at *
            refine wpAnyH_take (i := 0) (oi := ⟨_, _, _, _, _, _⟩) (v := .pointer (some ⟨w.heap.size, 2, none⟩)) rfl (by kernel_rfl) (by kernel_rfl) (by kernel_rfl) (fun _ _ _ h => h) (Or.inl ⟨wanted_free rfl, fun w' hSw => ?_⟩) hHeld ?_
            · go_simp
            try simp only [Act.put, List.setIfInBounds_toArray, List.set_cons_zero, List.set_cons_succ]
            refine wpAnyH_take (i := 1) (oi := ⟨_, _, _, _, _, _⟩) (v := .slice (some ⟨b2, o2, none⟩) y2 c2) rfl (by kernel_rfl) (by kernel_rfl) (by kernel_rfl) (fun _ _ _ h => h) (Or.inl ⟨wanted_free rfl, fun w' hSw => ?_⟩) hHeld ?_
            · obtain ⟨s0, s1, s2⟩ := hSw
              go_simp
            try simp only [Act.put, List.setIfInBounds_toArray, List.set_cons_zero, List.set_cons_succ]
            refine wpAnyH_take (i := 2) (oi := ⟨_, _, _, _, _, _⟩) (v := .int .i64 (k : Int)) rfl (by kernel_rfl) (by kernel_rfl) (by kernel_rfl) (fun _ _ _ h => h) (Or.inl ⟨wanted_free rfl, fun w' hSw => ?_⟩) hHeld ?_
            · go_simp
            try simp only [Act.put, List.setIfInBounds_toArray, List.set_cons_zero, List.set_cons_succ]
            refine wpAnyH_take (i := 3) (oi := ⟨_, _, _, _, _, _⟩) (v := .pointer (some ⟨b2, o2 + k * 2, none⟩)) rfl (by kernel_rfl) (by kernel_rfl) (by kernel_rfl) (fun _ _ _ h => h) (Or.inl ⟨wanted_free rfl, fun w' hSw => ?_⟩) hHeld ?_
            · go_simp
            try simp only [Act.put, List.setIfInBounds_toArray, List.set_cons_zero, List.set_cons_succ]
            refine wpAnyH_take (i := 4) (oi := ⟨_, _, _, _, _, _⟩) (v := .pointer (some ⟨b2, o2 + k * 2, none⟩)) rfl (by kernel_rfl) (by kernel_rfl) (by kernel_rfl) (fun _ _ _ h => h) (Or.inl ⟨wanted_free rfl, fun w' hSw => ?_⟩) hHeld ?_
            · go_simp
            try simp only [Act.put, List.setIfInBounds_toArray, List.set_cons_zero, List.set_cons_succ]
            refine wpAnyH_take (i := 5) (oi := ⟨_, _, _, _, _, _⟩) (v := .string x0) rfl (by kernel_rfl) (by kernel_rfl) (by kernel_rfl) (fun _ _ _ h => h) (Or.inl ⟨wanted_free rfl, fun w' hSw => ?_⟩) hHeld ?_
            · obtain ⟨s0, s1, s2⟩ := hSw
              go_simp
            try simp only [Act.put, List.setIfInBounds_toArray, List.set_cons_zero, List.set_cons_succ]
            refine wpAnyH_ready (rs := [6]) (by kernel_rfl) (by simp) (AllReadyH.cons (o := ⟨_, _, _, _, _, _⟩) rfl (fun K hK => ?_) AllReadyH.nil)
            rewrite [if_pos (wanted_free rfl)]
            go_simp
            (with_reducible refine (hC4 w15 x0 W0.out hd0).mono ?_)
            rintro r w' ⟨rfl, rfl⟩
            go_wp2_with fail
            refine hK.out _ _ ⟨Sta.c (i := 0) HS15 rfl rfl, (Sta.t (i := 0) HS15 rfl :).2.1, (Sta.t (i := 0) HS15 rfl :).2.2⟩ (fun hHeld => ?_)
            clear hK K
            try simp only [Act.put, List.setIfInBounds_toArray, List.set_cons_zero, List.set_cons_succ]
            refine wpAnyH_take (i := 7) (oi := ⟨_, _, _, _, _, _⟩) (v := .bool false) rfl (by kernel_rfl) (by kernel_rfl) (by kernel_rfl) (fun _ _ _ h => h) (Or.inl ⟨wanted_free rfl, fun w' hSw => ?_⟩) hHeld ?_
            · go_simp
            try simp only [Act.put, List.setIfInBounds_toArray, List.set_cons_zero, List.set_cons_succ]
            refine wpAnyH_take (i := 8) (oi := ⟨_, _, _, _, _, _⟩) (v := .bool false) rfl (by kernel_rfl) (by kernel_rfl) (by kernel_rfl) (fun _ _ _ h => h) (Or.inl ⟨wanted_free rfl, fun w' hSw => ?_⟩) hHeld ?_
            · go_simp
            try simp only [Act.put, List.setIfInBounds_toArray, List.set_cons_zero, List.set_cons_succ]
            refine wpAnyH_take (i := 9) (oi := ⟨_, _, _, _, _, _⟩) (v := .pointer (some ⟨w.heap.size, 2, none⟩)) rfl (by kernel_rfl) (by kernel_rfl) (by kernel_rfl) (fun _ _ _ h => h) (Or.inl ⟨by with_unfolding_all rfl, fun w' hSw => ?_⟩) hHeld ?_
            · go_simp
            try simp only [Act.put, List.setIfInBounds_toArray, List.set_cons_zero, List.set_cons_succ]
            refine wpAnyH_take (i := 10) (oi := ⟨_, _, _, _, _, _⟩) (v := .slice (some ⟨b2, o2, none⟩) y2 c2) rfl (by kernel_rfl) (by kernel_rfl) (by kernel_rfl) (fun _ _ _ h => h) (Or.inl ⟨by with_unfolding_all rfl, fun w' hSw => ?_⟩) hHeld ?_
            · obtain ⟨s0, s1, s2⟩ := hSw
              go_simp
            try simp only [Act.put, List.setIfInBounds_toArray, List.set_cons_zero, List.set_cons_succ]
            refine wpAnyH_take (i := 11) (oi := ⟨_, _, _, _, _, _⟩) (v := .int .i64 (k : Int)) rfl (by kernel_rfl) (by kernel_rfl) (by kernel_rfl) (fun _ _ _ h => h) (Or.inl ⟨by with_unfolding_all rfl, fun w' hSw => ?_⟩) hHeld ?_
            · go_simp
            try simp only [Act.put, List.setIfInBounds_toArray, List.set_cons_zero, List.set_cons_succ]
            refine wpAnyH_take (i := 12) (oi := ⟨_, _, _, _, _, _⟩) (v := .pointer (some ⟨b2, o2 + k * 2, none⟩)) rfl (by kernel_rfl) (by kernel_rfl) (by kernel_rfl) (fun _ _ _ h => h) (Or.inl ⟨by with_unfolding_all rfl, fun w' hSw => ?_⟩) hHeld ?_
            · go_simp
            try simp only [Act.put, List.setIfInBounds_toArray, List.set_cons_zero, List.set_cons_succ]
            refine wpAnyH_take (i := 13) (oi := ⟨_, _, _, _, _, _⟩) (v := .pointer (some ⟨b2, o2 + k * 2 + 1, none⟩)) rfl (by kernel_rfl) (by kernel_rfl) (by kernel_rfl) (fun _ _ _ h => h) (Or.inl ⟨by with_unfolding_all rfl, fun w' hSw => ?_⟩) hHeld ?_
            · go_simp
            try simp only [Act.put, List.setIfInBounds_toArray, List.set_cons_zero, List.set_cons_succ]
            refine wpAnyH_take (i := 14) (oi := ⟨_, _, _, _, _, _⟩) (v := .string x1) rfl (by kernel_rfl) (by kernel_rfl) (by kernel_rfl) (fun _ _ _ h => h) (Or.inl ⟨by with_unfolding_all rfl, fun w' hSw => ?_⟩) hHeld ?_
            · obtain ⟨s0, s1, s2⟩ := hSw
              go_simp
            try simp only [Act.put, List.setIfInBounds_toArray, List.set_cons_zero, List.set_cons_succ]
            refine wpAnyH_ready (rs := [15]) (by kernel_rfl) (by simp) (AllReadyH.cons (o := ⟨_, _, _, _, _, _⟩) rfl (fun K hK => ?_) AllReadyH.nil)
            rewrite [if_pos (by with_unfolding_all rfl)]
            go_simp
            (with_reducible refine (hC6 w15 x1 W1.out hd1).mono ?_)
            rintro r w' ⟨rfl, rfl⟩
            go_wp2_with fail
            refine hK.out _ _ ⟨Sta.c (i := 0) HS15 rfl rfl, (Sta.t (i := 0) HS15 rfl :).2.1, (Sta.t (i := 0) HS15 rfl :).2.2⟩ (fun hHeld => ?_)
            clear hK K
            try simp only [Act.put, List.setIfInBounds_toArray, List.set_cons_zero, List.set_cons_succ]
            refine wpAnyH_take (i := 16) (oi := ⟨_, _, _, _, _, _⟩) (v := .bool false) rfl (by kernel_rfl) (by kernel_rfl) (by kernel_rfl) (fun _ _ _ h => h) (Or.inl ⟨by with_unfolding_all rfl, fun w' hSw => ?_⟩) hHeld ?_
            · go_simp
            try simp only [Act.put, List.setIfInBounds_toArray, List.set_cons_zero, List.set_cons_succ]
            refine wpAnyH_take (i := 17) (oi := ⟨_, _, _, _, _, _⟩) (v := .bool false) rfl (by kernel_rfl) (by kernel_rfl) (by kernel_rfl) (fun _ _ _ h => h) (Or.inl ⟨wanted_free rfl, fun w' hSw => ?_⟩) hHeld ?_
            · go_simp
            try simp only [Act.put, List.setIfInBounds_toArray, List.set_cons_zero, List.set_cons_succ]
            refine wpAnyH_take (i := 18) (oi := ⟨_, _, _, _, _, _⟩) (v := .bool false) rfl (by kernel_rfl) (by kernel_rfl) (by kernel_rfl) (fun _ _ _ h => h) (Or.inl ⟨wanted_free rfl, fun w' hSw => ?_⟩) hHeld ?_
            · go_simp
            try simp only [Act.put, List.setIfInBounds_toArray, List.set_cons_zero, List.set_cons_succ]
            refine wpAnyH_take (i := 19) (oi := ⟨_, _, _, _, _, _⟩) (v := .int .i64 (k : Int)) rfl (by kernel_rfl) (by kernel_rfl) (by kernel_rfl) (fun _ _ _ h => h) (Or.inl ⟨by with_unfolding_all rfl, fun w' hSw => ?_⟩) hHeld ?_
            · go_simp
            try simp only [Act.put, List.setIfInBounds_toArray, List.set_cons_zero, List.set_cons_succ]
            refine wpAnyH_take (i := 20) (oi := ⟨_, _, _, _, _, _⟩) (v := .bool false) rfl (by kernel_rfl) (by kernel_rfl) (by kernel_rfl) (fun _ _ _ h => h) (Or.inl ⟨by with_unfolding_all rfl, fun w' hSw => ?_⟩) hHeld ?_
            · go_simp
            try simp only [Act.put, List.setIfInBounds_toArray, List.set_cons_zero, List.set_cons_succ]
            refine wpAnyH_take (i := 21) (oi := ⟨_, _, _, _, _, _⟩) (v := .bool false) rfl (by kernel_rfl) (by kernel_rfl) (by kernel_rfl) (fun _ _ _ h => h) (Or.inl ⟨by with_unfolding_all rfl, fun w' hSw => ?_⟩) hHeld ?_
            · go_simp
            try simp only [Act.put, List.setIfInBounds_toArray, List.set_cons_zero, List.set_cons_succ]
            refine wpAnyH_take (i := 22) (oi := ⟨_, _, _, _, _, _⟩) (v := undef) rfl (by kernel_rfl) (by kernel_rfl) (by kernel_rfl) (fun _ _ _ h => h) (Or.inr ⟨by with_unfolding_all rfl, rfl⟩) hHeld ?_
            try simp only [Act.put, List.setIfInBounds_toArray, List.set_cons_zero, List.set_cons_succ]
            refine wpAnyH_take (i := 23) (oi := ⟨_, _, _, _, _, _⟩) (v := undef) rfl (by kernel_rfl) (by kernel_rfl) (by kernel_rfl) (fun _ _ _ h => h) (Or.inr ⟨by with_unfolding_all rfl, rfl⟩) hHeld ?_
            try simp only [Act.put, List.setIfInBounds_toArray, List.set_cons_zero, List.set_cons_succ]
            refine wpAnyH_take (i := 24) (oi := ⟨_, _, _, _, _, _⟩) (v := undef) rfl (by kernel_rfl) (by kernel_rfl) (by kernel_rfl) (fun _ _ _ h => h) (Or.inr ⟨by with_unfolding_all rfl, rfl⟩) hHeld ?_
            try simp only [Act.put, List.setIfInBounds_toArray, List.set_cons_zero, List.set_cons_succ]
            refine wpAnyH_take (i := 25) (oi := ⟨_, _, _, _, _, _⟩) (v := undef) rfl (by kernel_rfl) (by kernel_rfl) (by kernel_rfl) (fun _ _ _ h => h) (Or.inr ⟨by with_unfolding_all rfl, rfl⟩) hHeld ?_
            try simp only [Act.put, List.setIfInBounds_toArray, List.set_cons_zero, List.set_cons_succ]
            refine wpAnyH_take (i := 26) (oi := ⟨_, _, _, _, _, _⟩) (v := undef) rfl (by kernel_rfl) (by kernel_rfl) (by kernel_rfl) (fun _ _ _ h => h) (Or.inr ⟨by with_unfolding_all rfl, rfl⟩) hHeld ?_
            try simp only [Act.put, List.setIfInBounds_toArray, List.set_cons_zero, List.set_cons_succ]
            refine wpAnyH_take (i := 27) (oi := ⟨_, _, _, _, _, _⟩) (v := undef) rfl (by kernel_rfl) (by kernel_rfl) (by kernel_rfl) (fun _ _ _ h => h) (Or.inr ⟨by with_unfolding_all rfl, rfl⟩) hHeld ?_
            try simp only [Act.put, List.setIfInBounds_toArray, List.set_cons_zero, List.set_cons_succ]
            refine wpAnyH_take (i := 28) (oi := ⟨_, _, _, _, _, _⟩) (v := undef) rfl (by kernel_rfl) (by kernel_rfl) (by kernel_rfl) (fun _ _ _ h => h) (Or.inr ⟨by with_unfolding_all rfl, rfl⟩) hHeld ?_
            try simp only [Act.put, List.setIfInBounds_toArray, List.set_cons_zero, List.set_cons_succ]
            refine wpAnyH_take (i := 29) (oi := ⟨_, _, _, _, _, _⟩) (v := undef) rfl (by kernel_rfl) (by kernel_rfl) (by kernel_rfl) (fun _ _ _ h => h) (Or.inr ⟨by with_unfolding_all rfl, rfl⟩) hHeld ?_
            try simp only [Act.put, List.setIfInBounds_toArray, List.set_cons_zero, List.set_cons_succ]
            refine wpAnyH_take (i := 30) (oi := ⟨_, _, _, _, _, _⟩) (v := undef) rfl (by kernel_rfl) (by kernel_rfl) (by kernel_rfl) (fun _ _ _ h => h) (Or.inr ⟨by with_unfolding_all rfl, rfl⟩) hHeld ?_
            try simp only [Act.put, List.setIfInBounds_toArray, List.set_cons_zero, List.set_cons_succ]
            refine wpAnyH_take (i := 31) (oi := ⟨_, _, _, _, _, _⟩) (v := undef) rfl (by kernel_rfl) (by kernel_rfl) (by kernel_rfl) (fun _ _ _ h => h) (Or.inr ⟨by with_unfolding_all rfl, rfl⟩) hHeld ?_
            try simp only [Act.put, List.setIfInBounds_toArray, List.set_cons_zero, List.set_cons_succ]
            refine wpAnyH_take (i := 32) (oi := ⟨_, _, _, _, _, _⟩) (v := undef) rfl (by kernel_rfl) (by kernel_rfl) (by kernel_rfl) (fun _ _ _ h => h) (Or.inr ⟨by with_unfolding_all rfl, rfl⟩) hHeld ?_
            try simp only [Act.put, List.setIfInBounds_toArray, List.set_cons_zero, List.set_cons_succ]
            refine wpAnyH_take (i := 33) (oi := ⟨_, _, _, _, _, _⟩) (v := undef) rfl (by kernel_rfl) (by kernel_rfl) (by kernel_rfl) (fun _ _ _ h => h) (Or.inr ⟨by with_unfolding_all rfl, rfl⟩) hHeld ?_
            try simp only [Act.put, List.setIfInBounds_toArray, List.set_cons_zero, List.set_cons_succ]
            refine wpAnyH_take (i := 34) (oi := ⟨_, _, _, _, _, _⟩) (v := undef) rfl (by kernel_rfl) (by kernel_rfl) (by kernel_rfl) (fun _ _ _ h => h) (Or.inr ⟨by with_unfolding_all rfl, rfl⟩) hHeld ?_
            try simp only [Act.put, List.setIfInBounds_toArray, List.set_cons_zero, List.set_cons_succ]
            refine wpAnyH_take (i := 35) (oi := ⟨_, _, _, _, _, _⟩) (v := undef) rfl (by kernel_rfl) (by kernel_rfl) (by kernel_rfl) (fun _ _ _ h => h) (Or.inr ⟨by with_unfolding_all rfl, rfl⟩) hHeld ?_
            try simp only [Act.put, List.setIfInBounds_toArray, List.set_cons_zero, List.set_cons_succ]
            refine wpAnyH_take (i := 36) (oi := ⟨_, _, _, _, _, _⟩) (v := .bool false) rfl (by kernel_rfl) (by kernel_rfl) (by kernel_rfl) (fun _ _ _ h => h) (Or.inl ⟨by with_unfolding_all rfl, fun w' hSw => ?_⟩) hHeld ?_
            · go_simp
            try simp only [Act.put, List.setIfInBounds_toArray, List.set_cons_zero, List.set_cons_succ]
            refine wpAnyH_take (i := 37) (oi := ⟨_, _, _, _, _, _⟩) (v := .bool false) rfl (by kernel_rfl) (by kernel_rfl) (by kernel_rfl) (fun _ _ _ h => h) (Or.inl ⟨wanted_free rfl, fun w' hSw => ?_⟩) hHeld ?_
            · go_simp
            try simp only [Act.put, List.setIfInBounds_toArray, List.set_cons_zero, List.set_cons_succ]
            refine wpAnyH_done (by kernel_rfl) ?_ _
            clear hHeld
            go_wp2_with fail
            have HS18 := Sta.imp 0 (fun w' => LayAt w' a1 ls ∧ LabAt w' (some ⟨b2, o2, none⟩) bs) HS15 rfl (fun w' h => h.1)
            go_roundw
            case rel => exact ⟨k + 1, by go_num, hlt7, HT2, HS18⟩
            case measure => simp [intOf]; omega
          · have d5b : decide ((0 : Int) < (k : Int)) = true := decide_eq_true (by omega)
            obtain ⟨k1, hk1⟩ : ∃ k1, k - 1 = k1 := ⟨_, rfl⟩
            have ek : (k : Int) - 1 = (k1 : Int) := by omega
            have ewk : IntKind.i64.wrap (k1 : Int) = (k1 : Int) := by simp [IntKind.wrap, IntKind.signed, IntKind.bits]; omega
            have hk1l : k1 < bs.length := by omega
            have lk1 : (k1 : Int) < y2 := by omega
            have l01 : (0 : Int) ≤ k1 := by omega
            have HKE : Hid (k = k1 + 1) := by show _ = _; omega
            clear hk1
            obtain ⟨z0, hz0⟩ : ∃ y, bs[k1].ky = y := ⟨_, rfl⟩
            obtain ⟨z1, hz1⟩ : ∃ y, bs[k1].vl = y := ⟨_, rfl⟩
            have HS20 := Sta.imp 0 (fun w' => (LayAt w' a1 ls ∧ LabAt w' (some ⟨b2, o2, none⟩) bs) ∧ w'.cell? ⟨b2, o2 + k * 2, none⟩ = some (.string x0) ∧ w'.cell? ⟨b2, o2 + k * 2 + 1, none⟩ = some (.string x1) ∧ w'.cell? ⟨b2, o2 + k1 * 2, none⟩ = some (.string z0) ∧ w'.cell? ⟨b2, o2 + k1 * 2 + 1, none⟩ = some (.string z1)) HS9 rfl (fun w' h => ⟨h.1, h.2.1, h.2.2, by rw [← hz0]; exact (LabAt.here h.1.2 k1 hk1l).1, by rw [← hz1]; exact (LabAt.here h.1.2 k1 hk1l).2⟩)
            cases hlt2 : nmLt z0 x0
            · as_aux_lemma =>
              have d7 : Op.bytesLess z0.toList x0.toList = false := hlt2
              have HF := hidP (LabsOk.not_lt hkl hx0 hk1l hz0 HKE.out hlt2)
              have cHS9_0_2 : wl7.cell? ⟨w.heap.size, 2, none⟩ = some (.slice (some ⟨b2, o2, none⟩) y2 c2) := Sta.c (i := 0) HS9 rfl rfl
              go_wp2_with fail
              clear cHS9_0_2
              have HS21 := Sta.drew HS20
              refine wp_region_held_drew (S := fun w' => w'.cell? ⟨w.heap.size, 2, none⟩ = some (.slice (some ⟨b2, o2, none⟩) y2 c2) ∧ w'.cell? ⟨b2, o2 + k * 2, none⟩ = some (.string x0) ∧ w'.cell? ⟨b2, o2 + k * 2 + 1, none⟩ = some (.string x1) ∧ w'.cell? ⟨b2, o2 + k1 * 2, none⟩ = some (.string z0)) (by kernel_rfl) ⟨Sta.c (i := 0) HS21 rfl rfl, (Sta.t (i := 0) HS21 rfl :).2.1, (Sta.t (i := 0) HS21 rfl :).2.2.1, (Sta.t (i := 0) HS21 rfl :).2.2.2.1⟩ (fun hHeld => ?_)
              generalize wl7.drew = w21 at *
              refine wpAnyH_take (i := 0) (oi := ⟨_, _, _, _, _, _⟩) (v := .pointer (some ⟨w.heap.size, 2, none⟩)) rfl (by kernel_rfl) (by kernel_rfl) (by kernel_rfl) (fun _ _ _ h => h) (Or.inl ⟨wanted_free rfl, fun w' hSw => ?_⟩) hHeld ?_
              · go_simp
              try simp only [Act.put, List.setIfInBounds_toArray, List.set_cons_zero, List.set_cons_succ]
              refine wpAnyH_take (i := 1) (oi := ⟨_, _, _, _, _, _⟩) (v := .slice (some ⟨b2, o2, none⟩) y2 c2) rfl (by kernel_rfl) (by kernel_rfl) (by kernel_rfl) (fun _ _ _ h => h) (Or.inl ⟨wanted_free rfl, fun w' hSw => ?_⟩) hHeld ?_
              · obtain ⟨s0, s1, s2, s3⟩ := hSw
                go_simp
              try simp only [Act.put, List.setIfInBounds_toArray, List.set_cons_zero, List.set_cons_succ]
              refine wpAnyH_take (i := 2) (oi := ⟨_, _, _, _, _, _⟩) (v := .int .i64 (k : Int)) rfl (by kernel_rfl) (by kernel_rfl) (by kernel_rfl) (fun _ _ _ h => h) (Or.inl ⟨wanted_free rfl, fun w' hSw => ?_⟩) hHeld ?_
              · go_simp
              try simp only [Act.put, List.setIfInBounds_toArray, List.set_cons_zero, List.set_cons_succ]
              refine wpAnyH_take (i := 3) (oi := ⟨_, _, _, _, _, _⟩) (v := .pointer (some ⟨b2, o2 + k * 2, none⟩)) rfl (by kernel_rfl) (by kernel_rfl) (by kernel_rfl) (fun _ _ _ h => h) (Or.inl ⟨wanted_free rfl, fun w' hSw => ?_⟩) hHeld ?_
              · go_simp
              try simp only [Act.put, List.setIfInBounds_toArray, List.set_cons_zero, List.set_cons_succ]
              refine wpAnyH_take (i := 4) (oi := ⟨_, _, _, _, _, _⟩) (v := .pointer (some ⟨b2, o2 + k * 2, none⟩)) rfl (by kernel_rfl) (by kernel_rfl) (by kernel_rfl) (fun _ _ _ h => h) (Or.inl ⟨wanted_free rfl, fun w' hSw => ?_⟩) hHeld ?_
              · go_simp
              try simp only [Act.put, List.setIfInBounds_toArray, List.set_cons_zero, List.set_cons_succ]
              refine wpAnyH_take (i := 5) (oi := ⟨_, _, _, _, _, _⟩) (v := .string x0) rfl (by kernel_rfl) (by kernel_rfl) (by kernel_rfl) (fun _ _ _ h => h) (Or.inl ⟨wanted_free rfl, fun w' hSw => ?_⟩) hHeld ?_
              · obtain ⟨s0, s1, s2, s3⟩ := hSw
                go_simp
              try simp only [Act.put, List.setIfInBounds_toArray, List.set_cons_zero, List.set_cons_succ]
              refine wpAnyH_ready (rs := [6]) (by kernel_rfl) (by simp) (AllReadyH.cons (o := ⟨_, _, _, _, _, _⟩) rfl (fun K hK => ?_) AllReadyH.nil)
              rewrite [if_pos (wanted_free rfl)]
              go_simp
              (with_reducible refine (hC4 w21 x0 W0.out hd0).mono ?_)
              rintro r w' ⟨rfl, rfl⟩
              go_wp2_with fail
              refine hK.out _ _ ⟨Sta.c (i := 0) HS21 rfl rfl, (Sta.t (i := 0) HS21 rfl :).2.1, (Sta.t (i := 0) HS21 rfl :).2.2.1, (Sta.t (i := 0) HS21 rfl :).2.2.2.1⟩ (fun hHeld => ?_)
              clear hK K
              try simp only [Act.put, List.setIfInBounds_toArray, List.set_cons_zero, List.set_cons_succ]
              refine wpAnyH_take (i := 7) (oi := ⟨_, _, _, _, _, _⟩) (v := .bool false) rfl (by kernel_rfl) (by kernel_rfl) (by kernel_rfl) (fun _ _ _ h => h) (Or.inl ⟨wanted_free rfl, fun w' hSw => ?_⟩) hHeld ?_
              · go_simp
              try simp only [Act.put, List.setIfInBounds_toArray, List.set_cons_zero, List.set_cons_succ]
              refine wpAnyH_take (i := 8) (oi := ⟨_, _, _, _, _, _⟩) (v := .bool false) rfl (by kernel_rfl) (by kernel_rfl) (by kernel_rfl) (fun _ _ _ h => h) (Or.inl ⟨wanted_free rfl, fun w' hSw => ?_⟩) hHeld ?_
              · go_simp
              try simp only [Act.put, List.setIfInBounds_toArray, List.set_cons_zero, List.set_cons_succ]
              refine wpAnyH_take (i := 9) (oi := ⟨_, _, _, _, _, _⟩) (v := .pointer (some ⟨w.heap.size, 2, none⟩)) rfl (by kernel_rfl) (by kernel_rfl) (by kernel_rfl) (fun _ _ _ h => h) (Or.inl ⟨by with_unfolding_all rfl, fun w' hSw => ?_⟩) hHeld ?_
              · go_simp
              try simp only [Act.put, List.setIfInBounds_toArray, List.set_cons_zero, List.set_cons_succ]
              refine wpAnyH_take (i := 10) (oi := ⟨_, _, _, _, _, _⟩) (v := .slice (some ⟨b2, o2, none⟩) y2 c2) rfl (by kernel_rfl) (by kernel_rfl) (by kernel_rfl) (fun _ _ _ h => h) (Or.inl ⟨by with_unfolding_all rfl, fun w' hSw => ?_⟩) hHeld ?_
              · obtain ⟨s0, s1, s2, s3⟩ := hSw
                go_simp
              try simp only [Act.put, List.setIfInBounds_toArray, List.set_cons_zero, List.set_cons_succ]
              refine wpAnyH_take (i := 11) (oi := ⟨_, _, _, _, _, _⟩) (v := .int .i64 (k : Int)) rfl (by kernel_rfl) (by kernel_rfl) (by kernel_rfl) (fun _ _ _ h => h) (Or.inl ⟨by with_unfolding_all rfl, fun w' hSw => ?_⟩) hHeld ?_
              · go_simp
              try simp only [Act.put, List.setIfInBounds_toArray, List.set_cons_zero, List.set_cons_succ]
              refine wpAnyH_take (i := 12) (oi := ⟨_, _, _, _, _, _⟩) (v := .pointer (some ⟨b2, o2 + k * 2, none⟩)) rfl (by kernel_rfl) (by kernel_rfl) (by kernel_rfl) (fun _ _ _ h => h) (Or.inl ⟨by with_unfolding_all rfl, fun w' hSw => ?_⟩) hHeld ?_
              · go_simp
              try simp only [Act.put, List.setIfInBounds_toArray, List.set_cons_zero, List.set_cons_succ]
              refine wpAnyH_take (i := 13) (oi := ⟨_, _, _, _, _, _⟩) (v := .pointer (some ⟨b2, o2 + k * 2 + 1, none⟩)) rfl (by kernel_rfl) (by kernel_rfl) (by kernel_rfl) (fun _ _ _ h => h) (Or.inl ⟨by with_unfolding_all rfl, fun w' hSw => ?_⟩) hHeld ?_
              · go_simp
              try simp only [Act.put, List.setIfInBounds_toArray, List.set_cons_zero, List.set_cons_succ]
              refine wpAnyH_take (i := 14) (oi := ⟨_, _, _, _, _, _⟩) (v := .string x1) rfl (by kernel_rfl) (by kernel_rfl) (by kernel_rfl) (fun _ _ _ h => h) (Or.inl ⟨by with_unfolding_all rfl, fun w' hSw => ?_⟩) hHeld ?_
              · obtain ⟨s0, s1, s2, s3⟩ := hSw
                go_simp
              try simp only [Act.put, List.setIfInBounds_toArray, List.set_cons_zero, List.set_cons_succ]
              refine wpAnyH_ready (rs := [15]) (by kernel_rfl) (by simp) (AllReadyH.cons (o := ⟨_, _, _, _, _, _⟩) rfl (fun K hK => ?_) AllReadyH.nil)
              rewrite [if_pos (by with_unfolding_all rfl)]
              go_simp
              (with_reducible refine (hC6 w21 x1 W1.out hd1).mono ?_)
              rintro r w' ⟨rfl, rfl⟩
              go_wp2_with fail
              refine hK.out _ _ ⟨Sta.c (i := 0) HS21 rfl rfl, (Sta.t (i := 0) HS21 rfl :).2.1, (Sta.t (i := 0) HS21 rfl :).2.2.1, (Sta.t (i := 0) HS21 rfl :).2.2.2.1⟩ (fun hHeld => ?_)
              clear hK K
              try simp only [Act.put, List.setIfInBounds_toArray, List.set_cons_zero, List.set_cons_succ]
              refine wpAnyH_take (i := 16) (oi := ⟨_, _, _, _, _, _⟩) (v := .bool false) rfl (by kernel_rfl) (by kernel_rfl) (by kernel_rfl) (fun _ _ _ h => h) (Or.inl ⟨by with_unfolding_all rfl, fun w' hSw => ?_⟩) hHeld ?_
              · go_simp
              try simp only [Act.put, List.setIfInBounds_toArray, List.set_cons_zero, List.set_cons_succ]
              refine wpAnyH_take (i := 17) (oi := ⟨_, _, _, _, _, _⟩) (v := .bool false) rfl (by kernel_rfl) (by kernel_rfl) (by kernel_rfl) (fun _ _ _ h => h) (Or.inl ⟨wanted_free rfl, fun w' hSw => ?_⟩) hHeld ?_
              · go_simp
              try simp only [Act.put, List.setIfInBounds_toArray, List.set_cons_zero, List.set_cons_succ]
              refine wpAnyH_take (i := 18) (oi := ⟨_, _, _, _, _, _⟩) (v := .bool false) rfl (by kernel_rfl) (by kernel_rfl) (by kernel_rfl) (fun _ _ _ h => h) (Or.inl ⟨wanted_free rfl, fun w' hSw => ?_⟩) hHeld ?_
              · go_simp
              try simp only [Act.put, List.setIfInBounds_toArray, List.set_cons_zero, List.set_cons_succ]
              refine wpAnyH_take (i := 19) (oi := ⟨_, _, _, _, _, _⟩) (v := .int .i64 (k : Int)) rfl (by kernel_rfl) (by kernel_rfl) (by kernel_rfl) (fun _ _ _ h => h) (Or.inl ⟨by with_unfolding_all rfl, fun w' hSw => ?_⟩) hHeld ?_
              · go_simp
              try simp only [Act.put, List.setIfInBounds_toArray, List.set_cons_zero, List.set_cons_succ]
              refine wpAnyH_take (i := 20) (oi := ⟨_, _, _, _, _, _⟩) (v := .bool true) rfl (by kernel_rfl) (by kernel_rfl) (by kernel_rfl) (fun _ _ _ h => h) (Or.inl ⟨by with_unfolding_all rfl, fun w' hSw => ?_⟩) hHeld ?_
              · go_simp
              try simp only [Act.put, List.setIfInBounds_toArray, List.set_cons_zero, List.set_cons_succ]
              refine wpAnyH_take (i := 21) (oi := ⟨_, _, _, _, _, _⟩) (v := .bool true) rfl (by kernel_rfl) (by kernel_rfl) (by kernel_rfl) (fun _ _ _ h => h) (Or.inl ⟨by with_unfolding_all rfl, fun w' hSw => ?_⟩) hHeld ?_
              · go_simp
              try simp only [Act.put, List.setIfInBounds_toArray, List.set_cons_zero, List.set_cons_succ]
              refine wpAnyH_take (i := 22) (oi := ⟨_, _, _, _, _, _⟩) (v := .pointer (some ⟨w.heap.size, 2, none⟩)) rfl (by kernel_rfl) (by kernel_rfl) (by kernel_rfl) (fun _ _ _ h => h) (Or.inl ⟨by with_unfolding_all rfl, fun w' hSw => ?_⟩) hHeld ?_
              · go_simp
              try simp only [Act.put, List.setIfInBounds_toArray, List.set_cons_zero, List.set_cons_succ]
              refine wpAnyH_take (i := 23) (oi := ⟨_, _, _, _, _, _⟩) (v := .slice (some ⟨b2, o2, none⟩) y2 c2) rfl (by kernel_rfl) (by kernel_rfl) (by kernel_rfl) (fun _ _ _ h => h) (Or.inl ⟨by with_unfolding_all rfl, fun w' hSw => ?_⟩) hHeld ?_
              · obtain ⟨s0, s1, s2, s3⟩ := hSw
                go_simp
              try simp only [Act.put, List.setIfInBounds_toArray, List.set_cons_zero, List.set_cons_succ]
              refine wpAnyH_take (i := 24) (oi := ⟨_, _, _, _, _, _⟩) (v := .int .i64 (k : Int)) rfl (by kernel_rfl) (by kernel_rfl) (by kernel_rfl) (fun _ _ _ h => h) (Or.inl ⟨by with_unfolding_all rfl, fun w' hSw => ?_⟩) hHeld ?_
              · go_simp
              try simp only [Act.put, List.setIfInBounds_toArray, List.set_cons_zero, List.set_cons_succ]
              refine wpAnyH_take (i := 25) (oi := ⟨_, _, _, _, _, _⟩) (v := .int .i64 (k1 : Int)) rfl (by kernel_rfl) (by kernel_rfl) (by kernel_rfl) (fun _ _ _ h => h) (Or.inl ⟨by with_unfolding_all rfl, fun w' hSw => ?_⟩) hHeld ?_
              · go_simp
              try simp only [Act.put, List.setIfInBounds_toArray, List.set_cons_zero, List.set_cons_succ]
              refine wpAnyH_take (i := 26) (oi := ⟨_, _, _, _, _, _⟩) (v := .pointer (some ⟨b2, o2 + k1 * 2, none⟩)) rfl (by kernel_rfl) (by kernel_rfl) (by kernel_rfl) (fun _ _ _ h => h) (Or.inl ⟨by with_unfolding_all rfl, fun w' hSw => ?_⟩) hHeld ?_
              · go_simp
              try simp only [Act.put, List.setIfInBounds_toArray, List.set_cons_zero, List.set_cons_succ]
              refine wpAnyH_take (i := 27) (oi := ⟨_, _, _, _, _, _⟩) (v := .pointer (some ⟨b2, o2 + k1 * 2, none⟩)) rfl (by kernel_rfl) (by kernel_rfl) (by kernel_rfl) (fun _ _ _ h => h) (Or.inl ⟨by with_unfolding_all rfl, fun w' hSw => ?_⟩) hHeld ?_
              · go_simp
              try simp only [Act.put, List.setIfInBounds_toArray, List.set_cons_zero, List.set_cons_succ]
              refine wpAnyH_take (i := 28) (oi := ⟨_, _, _, _, _, _⟩) (v := .string z0) rfl (by kernel_rfl) (by kernel_rfl) (by kernel_rfl) (fun _ _ _ h => h) (Or.inl ⟨by with_unfolding_all rfl, fun w' hSw => ?_⟩) hHeld ?_
              · obtain ⟨s0, s1, s2, s3⟩ := hSw
                go_simp
              try simp only [Act.put, List.setIfInBounds_toArray, List.set_cons_zero, List.set_cons_succ]
              refine wpAnyH_take (i := 29) (oi := ⟨_, _, _, _, _, _⟩) (v := .pointer (some ⟨w.heap.size, 2, none⟩)) rfl (by kernel_rfl) (by kernel_rfl) (by kernel_rfl) (fun _ _ _ h => h) (Or.inl ⟨by with_unfolding_all rfl, fun w' hSw => ?_⟩) hHeld ?_
              · go_simp
              try simp only [Act.put, List.setIfInBounds_toArray, List.set_cons_zero, List.set_cons_succ]
              refine wpAnyH_take (i := 30) (oi := ⟨_, _, _, _, _, _⟩) (v := .slice (some ⟨b2, o2, none⟩) y2 c2) rfl (by kernel_rfl) (by kernel_rfl) (by kernel_rfl) (fun _ _ _ h => h) (Or.inl ⟨by with_unfolding_all rfl, fun w' hSw => ?_⟩) hHeld ?_
              · obtain ⟨s0, s1, s2, s3⟩ := hSw
                go_simp
              try simp only [Act.put, List.setIfInBounds_toArray, List.set_cons_zero, List.set_cons_succ]
              refine wpAnyH_take (i := 31) (oi := ⟨_, _, _, _, _, _⟩) (v := .int .i64 (k : Int)) rfl (by kernel_rfl) (by kernel_rfl) (by kernel_rfl) (fun _ _ _ h => h) (Or.inl ⟨by with_unfolding_all rfl, fun w' hSw => ?_⟩) hHeld ?_
              · go_simp
              try simp only [Act.put, List.setIfInBounds_toArray, List.set_cons_zero, List.set_cons_succ]
              refine wpAnyH_take (i := 32) (oi := ⟨_, _, _, _, _, _⟩) (v := .pointer (some ⟨b2, o2 + k * 2, none⟩)) rfl (by kernel_rfl) (by kernel_rfl) (by kernel_rfl) (fun _ _ _ h => h) (Or.inl ⟨by with_unfolding_all rfl, fun w' hSw => ?_⟩) hHeld ?_
              · go_simp
              try simp only [Act.put, List.setIfInBounds_toArray, List.set_cons_zero, List.set_cons_succ]
              refine wpAnyH_take (i := 33) (oi := ⟨_, _, _, _, _, _⟩) (v := .pointer (some ⟨b2, o2 + k * 2, none⟩)) rfl (by kernel_rfl) (by kernel_rfl) (by kernel_rfl) (fun _ _ _ h => h) (Or.inl ⟨by with_unfolding_all rfl, fun w' hSw => ?_⟩) hHeld ?_
              · go_simp
              try simp only [Act.put, List.setIfInBounds_toArray, List.set_cons_zero, List.set_cons_succ]
              refine wpAnyH_take (i := 34) (oi := ⟨_, _, _, _, _, _⟩) (v := .string x0) rfl (by kernel_rfl) (by kernel_rfl) (by kernel_rfl) (fun _ _ _ h => h) (Or.inl ⟨by with_unfolding_all rfl, fun w' hSw => ?_⟩) hHeld ?_
              · obtain ⟨s0, s1, s2, s3⟩ := hSw
                go_simp
              try simp only [Act.put, List.setIfInBounds_toArray, List.set_cons_zero, List.set_cons_succ]
              refine wpAnyH_take (i := 35) (oi := ⟨_, _, _, _, _, _⟩) (v := .bool true) rfl (by kernel_rfl) (by kernel_rfl) (by kernel_rfl) (fun _ _ _ h => h) (Or.inl ⟨by with_unfolding_all rfl, fun w' hSw => ?_⟩) hHeld ?_
              · go_simp
              try simp only [Act.put, List.setIfInBounds_toArray, List.set_cons_zero, List.set_cons_succ]
              refine wpAnyH_take (i := 36) (oi := ⟨_, _, _, _, _, _⟩) (v := .bool true) rfl (by kernel_rfl) (by kernel_rfl) (by kernel_rfl) (fun _ _ _ h => h) (Or.inl ⟨by with_unfolding_all rfl, fun w' hSw => ?_⟩) hHeld ?_
              · go_simp
              try simp only [Act.put, List.setIfInBounds_toArray, List.set_cons_zero, List.set_cons_succ]
              refine wpAnyH_take (i := 37) (oi := ⟨_, _, _, _, _, _⟩) (v := .bool true) rfl (by kernel_rfl) (by kernel_rfl) (by kernel_rfl) (fun _ _ _ h => h) (Or.inl ⟨wanted_free rfl, fun w' hSw => ?_⟩) hHeld ?_
              · go_simp
              try simp only [Act.put, List.setIfInBounds_toArray, List.set_cons_zero, List.set_cons_succ]
              refine wpAnyH_done (by kernel_rfl) ?_ _
              clear hHeld
              go_wp2_with fail
              go_ret
              exact ⟨congrArg (fun b => Ending.returned (Value.bool b)) (boolP_no (show ¬ ManOk nm ls bs from fun h => HF.out h.2.2)).symm, Sta.fin HS21⟩
            · as_aux_lemma =>
              have d7 : Op.bytesLess z0.toList x0.toList = true := hlt2
              have HT2 := hidP (LabsOk.step HT.out hkl hx0 hx1 hd0 hd1 (fun k2 h2 e => by have e2 : k2 = k1 := (by have := HKE.out; omega); subst e2; rw [hz0]; exact hlt2))
              have cHS9_0_2 : wl7.cell? ⟨w.heap.size, 2, none⟩ = some (.slice (some ⟨b2, o2, none⟩) y2 c2) := Sta.c (i := 0) HS9 rfl rfl
              go_wp2_with fail
              clear cHS9_0_2
              have HS24 := Sta.drew HS20
              refine wp_region_held_drew (S := fun w' => w'.cell? ⟨w.heap.size, 2, none⟩ = some (.slice (some ⟨b2, o2, none⟩) y2 c2) ∧ w'.cell? ⟨b2, o2 + k * 2, none⟩ = some (.string x0) ∧ w'.cell? ⟨b2, o2 + k * 2 + 1, none⟩ = some (.string x1) ∧ w'.cell? ⟨b2, o2 + k1 * 2, none⟩ = some (.string z0)) (by kernel_rfl) ⟨Sta.c (i := 0) HS24 rfl rfl, (Sta.t (i := 0) HS24 rfl :).2.1, (Sta.t (i := 0) HS24 rfl :).2.2.1, (Sta.t (i := 0) HS24 rfl :).2.2.2.1⟩ (fun hHeld => ?_)
              generalize wl7.drew = w24 at *
              refine wpAnyH_take (i := 0) (oi := ⟨_, _, _, _, _, _⟩) (v := .pointer (some ⟨w.heap.size, 2, none⟩)) rfl (by kernel_rfl) (by kernel_rfl) (by kernel_rfl) (fun _ _ _ h => h) (Or.inl ⟨wanted_free rfl, fun w' hSw => ?_⟩) hHeld ?_
              · go_simp
              try simp only [Act.put, List.setIfInBounds_toArray, List.set_cons_zero, List.set_cons_succ]
              refine wpAnyH_take (i := 1) (oi := ⟨_, _, _, _, _, _⟩) (v := .slice (some ⟨b2, o2, none⟩) y2 c2) rfl (by kernel_rfl) (by kernel_rfl) (by kernel_rfl) (fun _ _ _ h => h) (Or.inl ⟨wanted_free rfl, fun w' hSw => ?_⟩) hHeld ?_
              · obtain ⟨s0, s1, s2, s3⟩ := hSw
                go_simp
              try simp only [Act.put, List.setIfInBounds_toArray, List.set_cons_zero, List.set_cons_succ]
              refine wpAnyH_take (i := 2) (oi := ⟨_, _, _, _, _, _⟩) (v := .int .i64 (k : Int)) rfl (by kernel_rfl) (by kernel_rfl) (by kernel_rfl) (fun _ _ _ h => h) (Or.inl ⟨wanted_free rfl, fun w' hSw => ?_⟩) hHeld ?_
              · go_simp
              try simp only [Act.put, List.setIfInBounds_toArray, List.set_cons_zero, List.set_cons_succ]
              refine wpAnyH_take (i := 3) (oi := ⟨_, _, _, _, _, _⟩) (v := .pointer (some ⟨b2, o2 + k * 2, none⟩)) rfl (by kernel_rfl) (by kernel_rfl) (by kernel_rfl) (fun _ _ _ h => h) (Or.inl ⟨wanted_free rfl, fun w' hSw => ?_⟩) hHeld ?_
              · go_simp
              try simp only [Act.put, List.setIfInBounds_toArray, List.set_cons_zero, List.set_cons_succ]
              refine wpAnyH_take (i := 4) (oi := ⟨_, _, _, _, _, _⟩) (v := .pointer (some ⟨b2, o2 + k * 2, none⟩)) rfl (by kernel_rfl) (by kernel_rfl) (by kernel_rfl) (fun _ _ _ h => h) (Or.inl ⟨wanted_free rfl, fun w' hSw => ?_⟩) hHeld ?_
              · go_simp
              try simp only [Act.put, List.setIfInBounds_toArray, List.set_cons_zero, List.set_cons_succ]
              refine wpAnyH_take (i := 5) (oi := ⟨_, _, _, _, _, _⟩) (v := .string x0) rfl (by kernel_rfl) (by kernel_rfl) (by kernel_rfl) (fun _ _ _ h => h) (Or.inl ⟨wanted_free rfl, fun w' hSw => ?_⟩) hHeld ?_
              · obtain ⟨s0, s1, s2, s3⟩ := hSw
                go_simp
              try simp only [Act.put, List.setIfInBounds_toArray, List.set_cons_zero, List.set_cons_succ]
              refine wpAnyH_ready (rs := [6]) (by kernel_rfl) (by simp) (AllReadyH.cons (o := ⟨_, _, _, _, _, _⟩) rfl (fun K hK => ?_) AllReadyH.nil)
              rewrite [if_pos (wanted_free rfl)]
              go_simp
              (with_reducible refine (hC4 w24 x0 W0.out hd0).mono ?_)
              rintro r w' ⟨rfl, rfl⟩
              go_wp2_with fail
              refine hK.out _ _ ⟨Sta.c (i := 0) HS24 rfl rfl, (Sta.t (i := 0) HS24 rfl :).2.1, (Sta.t (i := 0) HS24 rfl :).2.2.1, (Sta.t (i := 0) HS24 rfl :).2.2.2.1⟩ (fun hHeld => ?_)
              clear hK K
              try simp only [Act.put, List.setIfInBounds_toArray, List.set_cons_zero, List.set_cons_succ]
              refine wpAnyH_take (i := 7) (oi := ⟨_, _, _, _, _, _⟩) (v := .bool false) rfl (by kernel_rfl) (by kernel_rfl) (by kernel_rfl) (fun _ _ _ h => h) (Or.inl ⟨wanted_free rfl, fun w' hSw => ?_⟩) hHeld ?_
              · go_simp
              try simp only [Act.put, List.setIfInBounds_toArray, List.set_cons_zero, List.set_cons_succ]
              refine wpAnyH_take (i := 8) (oi := ⟨_, _, _, _, _, _⟩) (v := .bool false) rfl (by kernel_rfl) (by kernel_rfl) (by kernel_rfl) (fun _ _ _ h => h) (Or.inl ⟨wanted_free rfl, fun w' hSw => ?_⟩) hHeld ?_
              · go_simp
              try simp only [Act.put, List.setIfInBounds_toArray, List.set_cons_zero, List.set_cons_succ]
              refine wpAnyH_take (i := 9) (oi := ⟨_, _, _, _, _, _⟩) (v := .pointer (some ⟨w.heap.size, 2, none⟩)) rfl (by kernel_rfl) (by kernel_rfl) (by kernel_rfl) (fun _ _ _ h => h) (Or.inl ⟨by with_unfolding_all rfl, fun w' hSw => ?_⟩) hHeld ?_
              · go_simp
              try simp only [Act.put, List.setIfInBounds_toArray, List.set_cons_zero, List.set_cons_succ]
              refine wpAnyH_take (i := 10) (oi := ⟨_, _, _, _, _, _⟩) (v := .slice (some ⟨b2, o2, none⟩) y2 c2) rfl (by kernel_rfl) (by kernel_rfl) (by kernel_rfl) (fun _ _ _ h => h) (Or.inl ⟨by with_unfolding_all rfl, fun w' hSw => ?_⟩) hHeld ?_
              · obtain ⟨s0, s1, s2, s3⟩ := hSw
                go_simp
              try simp only [Act.put, List.setIfInBounds_toArray, List.set_cons_zero, List.set_cons_succ]
              refine wpAnyH_take (i := 11) (oi := ⟨_, _, _, _, _, _⟩) (v := .int .i64 (k : Int)) rfl (by kernel_rfl) (by kernel_rfl) (by kernel_rfl) (fun _ _ _ h => h) (Or.inl ⟨by with_unfolding_all rfl, fun w' hSw => ?_⟩) hHeld ?_
              · go_simp
              try simp only [Act.put, List.setIfInBounds_toArray, List.set_cons_zero, List.set_cons_succ]
              refine wpAnyH_take (i := 12) (oi := ⟨_, _, _, _, _, _⟩) (v := .pointer (some ⟨b2, o2 + k * 2, none⟩)) rfl (by kernel_rfl) (by kernel_rfl) (by kernel_rfl) (fun _ _ _ h => h) (Or.inl ⟨by with_unfolding_all rfl, fun w' hSw => ?_⟩) hHeld ?_
              · go_simp
              try simp only [Act.put, List.setIfInBounds_toArray, List.set_cons_zero, List.set_cons_succ]
              refine wpAnyH_take (i := 13) (oi := ⟨_, _, _, _, _, _⟩) (v := .pointer (some ⟨b2, o2 + k * 2 + 1, none⟩)) rfl (by kernel_rfl) (by kernel_rfl) (by kernel_rfl) (fun _ _ _ h => h) (Or.inl ⟨by with_unfolding_all rfl, fun w' hSw => ?_⟩) hHeld ?_
              · go_simp
              try simp only [Act.put, List.setIfInBounds_toArray, List.set_cons_zero, List.set_cons_succ]
              refine wpAnyH_take (i := 14) (oi := ⟨_, _, _, _, _, _⟩) (v := .string x1) rfl (by kernel_rfl) (by kernel_rfl) (by kernel_rfl) (fun _ _ _ h => h) (Or.inl ⟨by with_unfolding_all rfl, fun w' hSw => ?_⟩) hHeld ?_
              · obtain ⟨s0, s1, s2, s3⟩ := hSw
                go_simp
              try simp only [Act.put, List.setIfInBounds_toArray, List.set_cons_zero, List.set_cons_succ]
              refine wpAnyH_ready (rs := [15]) (by kernel_rfl) (by simp) (AllReadyH.cons (o := ⟨_, _, _, _, _, _⟩) rfl (fun K hK => ?_) AllReadyH.nil)
              rewrite [if_pos (by with_unfolding_all rfl)]
              go_simp
              (with_reducible refine (hC6 w24 x1 W1.out hd1).mono ?_)
              rintro r w' ⟨rfl, rfl⟩
              go_wp2_with fail
              refine hK.out _ _ ⟨Sta.c (i := 0) HS24 rfl rfl, (Sta.t (i := 0) HS24 rfl :).2.1, (Sta.t (i := 0) HS24 rfl :).2.2.1, (Sta.t (i := 0) HS24 rfl :).2.2.2.1⟩ (fun hHeld => ?_)
              clear hK K
              try simp only [Act.put, List.setIfInBounds_toArray, List.set_cons_zero, List.set_cons_succ]
              refine wpAnyH_take (i := 16) (oi := ⟨_, _, _, _, _, _⟩) (v := .bool false) rfl (by kernel_rfl) (by kernel_rfl) (by kernel_rfl) (fun _ _ _ h => h) (Or.inl ⟨by with_unfolding_all rfl, fun w' hSw => ?_⟩) hHeld ?_
              · go_simp
              try simp only [Act.put, List.setIfInBounds_toArray, List.set_cons_zero, List.set_cons_succ]
              refine wpAnyH_take (i := 17) (oi := ⟨_, _, _, _, _, _⟩) (v := .bool false) rfl (by kernel_rfl) (by kernel_rfl) (by kernel_rfl) (fun _ _ _ h => h) (Or.inl ⟨wanted_free rfl, fun w' hSw => ?_⟩) hHeld ?_
              · go_simp
              try simp only [Act.put, List.setIfInBounds_toArray, List.set_cons_zero, List.set_cons_succ]
              refine wpAnyH_take (i := 18) (oi := ⟨_, _, _, _, _, _⟩) (v := .bool false) rfl (by kernel_rfl) (by kernel_rfl) (by kernel_rfl) (fun _ _ _ h => h) (Or.inl ⟨wanted_free rfl, fun w' hSw => ?_⟩) hHeld ?_
              · go_simp
              try simp only [Act.put, List.setIfInBounds_toArray, List.set_cons_zero, List.set_cons_succ]
              refine wpAnyH_take (i := 19) (oi := ⟨_, _, _, _, _, _⟩) (v := .int .i64 (k : Int)) rfl (by kernel_rfl) (by kernel_rfl) (by kernel_rfl) (fun _ _ _ h => h) (Or.inl ⟨by with_unfolding_all rfl, fun w' hSw => ?_⟩) hHeld ?_
              · go_simp
              try simp only [Act.put, List.setIfInBounds_toArray, List.set_cons_zero, List.set_cons_succ]
              refine wpAnyH_take (i := 20) (oi := ⟨_, _, _, _, _, _⟩) (v := .bool true) rfl (by kernel_rfl) (by kernel_rfl) (by kernel_rfl) (fun _ _ _ h => h) (Or.inl ⟨by with_unfolding_all rfl, fun w' hSw => ?_⟩) hHeld ?_
              · go_simp
              try simp only [Act.put, List.setIfInBounds_toArray, List.set_cons_zero, List.set_cons_succ]
              refine wpAnyH_take (i := 21) (oi := ⟨_, _, _, _, _, _⟩) (v := .bool true) rfl (by kernel_rfl) (by kernel_rfl) (by kernel_rfl) (fun _ _ _ h => h) (Or.inl ⟨by with_unfolding_all rfl, fun w' hSw => ?_⟩) hHeld ?_
              · go_simp
              try simp only [Act.put, List.setIfInBounds_toArray, List.set_cons_zero, List.set_cons_succ]
              refine wpAnyH_take (i := 22) (oi := ⟨_, _, _, _, _, _⟩) (v := .pointer (some ⟨w.heap.size, 2, none⟩)) rfl (by kernel_rfl) (by kernel_rfl) (by kernel_rfl) (fun _ _ _ h => h) (Or.inl ⟨by with_unfolding_all rfl, fun w' hSw => ?_⟩) hHeld ?_
              · go_simp
              try simp only [Act.put, List.setIfInBounds_toArray, List.set_cons_zero, List.set_cons_succ]
              refine wpAnyH_take (i := 23) (oi := ⟨_, _, _, _, _, _⟩) (v := .slice (some ⟨b2, o2, none⟩) y2 c2) rfl (by kernel_rfl) (by kernel_rfl) (by kernel_rfl) (fun _ _ _ h => h) (Or.inl ⟨by with_unfolding_all rfl, fun w' hSw => ?_⟩) hHeld ?_
              · obtain ⟨s0, s1, s2, s3⟩ := hSw
                go_simp
              try simp only [Act.put, List.setIfInBounds_toArray, List.set_cons_zero, List.set_cons_succ]
              refine wpAnyH_take (i := 24) (oi := ⟨_, _, _, _, _, _⟩) (v := .int .i64 (k : Int)) rfl (by kernel_rfl) (by kernel_rfl) (by kernel_rfl) (fun _ _ _ h => h) (Or.inl ⟨by with_unfolding_all rfl, fun w' hSw => ?_⟩) hHeld ?_
              · go_simp
              try simp only [Act.put, List.setIfInBounds_toArray, List.set_cons_zero, List.set_cons_succ]
              refine wpAnyH_take (i := 25) (oi := ⟨_, _, _, _, _, _⟩) (v := .int .i64 (k1 : Int)) rfl (by kernel_rfl) (by kernel_rfl) (by kernel_rfl) (fun _ _ _ h => h) (Or.inl ⟨by with_unfolding_all rfl, fun w' hSw => ?_⟩) hHeld ?_
              · go_simp
              try simp only [Act.put, List.setIfInBounds_toArray, List.set_cons_zero, List.set_cons_succ]
              refine wpAnyH_take (i := 26) (oi := ⟨_, _, _, _, _, _⟩) (v := .pointer (some ⟨b2, o2 + k1 * 2, none⟩)) rfl (by kernel_rfl) (by kernel_rfl) (by kernel_rfl) (fun _ _ _ h => h) (Or.inl ⟨by with_unfolding_all rfl, fun w' hSw => ?_⟩) hHeld ?_
              · go_simp
              try simp only [Act.put, List.setIfInBounds_toArray, List.set_cons_zero, List.set_cons_succ]
              refine wpAnyH_take (i := 27) (oi := ⟨_, _, _, _, _, _⟩) (v := .pointer (some ⟨b2, o2 + k1 * 2, none⟩)) rfl (by kernel_rfl) (by kernel_rfl) (by kernel_rfl) (fun _ _ _ h => h) (Or.inl ⟨by with_unfolding_all rfl, fun w' hSw => ?_⟩) hHeld ?_
              · go_simp
              try simp only [Act.put, List.setIfInBounds_toArray, List.set_cons_zero, List.set_cons_succ]
              refine wpAnyH_take (i := 28) (oi := ⟨_, _, _, _, _, _⟩) (v := .string z0) rfl (by kernel_rfl) (by kernel_rfl) (by kernel_rfl) (fun _ _ _ h => h) (Or.inl ⟨by with_unfolding_all rfl, fun w' hSw => ?_⟩) hHeld ?_
              · obtain ⟨s0, s1, s2, s3⟩ := hSw
                go_simp
              try simp only [Act.put, List.setIfInBounds_toArray, List.set_cons_zero, List.set_cons_succ]
              refine wpAnyH_take (i := 29) (oi := ⟨_, _, _, _, _, _⟩) (v := .pointer (some ⟨w.heap.size, 2, none⟩)) rfl (by kernel_rfl) (by kernel_rfl) (by kernel_rfl) (fun _ _ _ h => h) (Or.inl ⟨by with_unfolding_all rfl, fun w' hSw => ?_⟩) hHeld ?_
              · go_simp
              try simp only [Act.put, List.setIfInBounds_toArray, List.set_cons_zero, List.set_cons_succ]
              refine wpAnyH_take (i := 30) (oi := ⟨_, _, _, _, _, _⟩) (v := .slice (some ⟨b2, o2, none⟩) y2 c2) rfl (by kernel_rfl) (by kernel_rfl) (by kernel_rfl) (fun _ _ _ h => h) (Or.inl ⟨by with_unfolding_all rfl, fun w' hSw => ?_⟩) hHeld ?_
              · obtain ⟨s0, s1, s2, s3⟩ := hSw
                go_simp
              try simp only [Act.put, List.setIfInBounds_toArray, List.set_cons_zero, List.set_cons_succ]
              refine wpAnyH_take (i := 31) (oi := ⟨_, _, _, _, _, _⟩) (v := .int .i64 (k : Int)) rfl (by kernel_rfl) (by kernel_rfl) (by kernel_rfl) (fun _ _ _ h => h) (Or.inl ⟨by with_unfolding_all rfl, fun w' hSw => ?_⟩) hHeld ?_
              · go_simp
              try simp only [Act.put, List.setIfInBounds_toArray, List.set_cons_zero, List.set_cons_succ]
              refine wpAnyH_take (i := 32) (oi := ⟨_, _, _, _, _, _⟩) (v := .pointer (some ⟨b2, o2 + k * 2, none⟩)) rfl (by kernel_rfl) (by kernel_rfl) (by kernel_rfl) (fun _ _ _ h => h) (Or.inl ⟨by with_unfolding_all rfl, fun w' hSw => ?_⟩) hHeld ?_
              · go_simp
              try simp only [Act.put, List.setIfInBounds_toArray, List.set_cons_zero, List.set_cons_succ]
              refine wpAnyH_take (i := 33) (oi := ⟨_, _, _, _, _, _⟩) (v := .pointer (some ⟨b2, o2 + k * 2, none⟩)) rfl (by kernel_rfl) (by kernel_rfl) (by kernel_rfl) (fun _ _ _ h => h) (Or.inl ⟨by with_unfolding_all rfl, fun w' hSw => ?_⟩) hHeld ?_
              · go_simp
              try simp only [Act.put, List.setIfInBounds_toArray, List.set_cons_zero, List.set_cons_succ]
              refine wpAnyH_take (i := 34) (oi := ⟨_, _, _, _, _, _⟩) (v := .string x0) rfl (by kernel_rfl) (by kernel_rfl) (by kernel_rfl) (fun _ _ _ h => h) (Or.inl ⟨by with_unfolding_all rfl, fun w' hSw => ?_⟩) hHeld ?_
              · obtain ⟨s0, s1, s2, s3⟩ := hSw
                go_simp
              try simp only [Act.put, List.setIfInBounds_toArray, List.set_cons_zero, List.set_cons_succ]
              refine wpAnyH_take (i := 35) (oi := ⟨_, _, _, _, _, _⟩) (v := .bool false) rfl (by kernel_rfl) (by kernel_rfl) (by kernel_rfl) (fun _ _ _ h => h) (Or.inl ⟨by with_unfolding_all rfl, fun w' hSw => ?_⟩) hHeld ?_
              · go_simp
              try simp only [Act.put, List.setIfInBounds_toArray, List.set_cons_zero, List.set_cons_succ]
              refine wpAnyH_take (i := 36) (oi := ⟨_, _, _, _, _, _⟩) (v := .bool false) rfl (by kernel_rfl) (by kernel_rfl) (by kernel_rfl) (fun _ _ _ h => h) (Or.inl ⟨by with_unfolding_all rfl, fun w' hSw => ?_⟩) hHeld ?_
              · go_simp
              try simp only [Act.put, List.setIfInBounds_toArray, List.set_cons_zero, List.set_cons_succ]
              refine wpAnyH_take (i := 37) (oi := ⟨_, _, _, _, _, _⟩) (v := .bool false) rfl (by kernel_rfl) (by kernel_rfl) (by kernel_rfl) (fun _ _ _ h => h) (Or.inl ⟨wanted_free rfl, fun w' hSw => ?_⟩) hHeld ?_
              · go_simp
              try simp only [Act.put, List.setIfInBounds_toArray, List.set_cons_zero, List.set_cons_succ]
              refine wpAnyH_done (by kernel_rfl) ?_ _
              clear hHeld
              go_wp2_with fail
              have HS27 := Sta.imp 0 (fun w' => LayAt w' a1 ls ∧ LabAt w' (some ⟨b2, o2, none⟩) bs) HS24 rfl (fun w' h => h.1)
              go_roundw
              case rel => exact ⟨k + 1, by go_num, hlt7, HT2, HS27⟩
              case measure => simp [intOf]; omega
      have lk6 : (k : Int) < y1 := by omega
      have l06 : (0 : Int) ≤ k := by omega
      have hkl : k < ls.length := by have := HN1.out; omega
      obtain ⟨b1, o1, rfl, hz28⟩ := (Sta.t (i := 0) HS6 rfl :).1 k hkl
      clear hz28
      obtain ⟨x0, hx0⟩ : ∃ y, ls[k].bl = y := ⟨_, rfl⟩
      obtain ⟨x1, hx1⟩ : ∃ y, ls[k].sz = y := ⟨_, rfl⟩
      have HS29 := Sta.imp 0 (fun w' => (LayAt w' (some ⟨b1, o1, none⟩) ls ∧ LabAt w' a2 bs) ∧ w'.cell? ⟨b1, o1 + k * 2, none⟩ = some (.string x0) ∧ w'.cell? ⟨b1, o1 + k * 2 + 1, none⟩ = some (.int .i64 x1)) HS6 rfl (fun w' h => ⟨h, by rw [← hx0]; exact (LayAt.here h.1 k hkl).1, by rw [← hx1]; exact (LayAt.here h.1 k hkl).2⟩)
      have W0 : Hid (x0.size ≤ maxLen) := by have := (HW1.out ls[k] (List.getElem_mem hkl)).1; rw [hx0] at this; exact this
      have hb4 : (¬ x0.size = 32) ∨ (x0.size = 32 ∧ x1 < 0) ∨ (x0.size = 32 ∧ 0 ≤ x1 ∧ 3000 < x1) ∨ (x0.size = 32 ∧ 0 ≤ x1 ∧ x1 ≤ 3000) := by omega
      rcases hb4 with g | ⟨g, g1⟩ | ⟨g, g1, g2⟩ | ⟨g, g1, g2⟩
      · as_aux_lemma =>
        have hd : decide (x0.size = 32) = false := decide_eq_false g
        have HF := hidP (LaysOk.not_at hkl hx0 hx1 (by omega))
        have cHS29_0_1 : wl6.cell? ⟨w.heap.size, 1, none⟩ = some (.slice (some ⟨b1, o1, none⟩) y1 c1) := Sta.c (i := 0) HS29 rfl rfl
        have tcHS29_0_0 : wl6.cell? ⟨b1, o1 + k * 2, none⟩ = some (.string x0) := (Sta.t (i := 0) HS29 rfl :).2.1
        go_wp2_with (first
          | (go_at_call 101; (with_reducible refine (hC7 wl6 x0 W0.out hd).mono ?_); rintro r w' ⟨rfl, rfl⟩))
        go_ret
        exact ⟨congrArg (fun b => Ending.returned (Value.bool b)) (boolP_no (show ¬ ManOk nm ls bs from fun h => HF.out h.2.1)).symm, Sta.fin HS29⟩
      · as_aux_lemma =>
        have hd : decide (x0.size = 32) = true := decide_eq_true g
        have d1 : decide (x1 < 0) = true := decide_eq_true g1
        have HF := hidP (LaysOk.not_at hkl hx0 hx1 (by omega))
        have cHS29_0_1 : wl6.cell? ⟨w.heap.size, 1, none⟩ = some (.slice (some ⟨b1, o1, none⟩) y1 c1) := Sta.c (i := 0) HS29 rfl rfl
        have tcHS29_0_0 : wl6.cell? ⟨b1, o1 + k * 2, none⟩ = some (.string x0) := (Sta.t (i := 0) HS29 rfl :).2.1
        have tcHS29_0_1 : wl6.cell? ⟨b1, o1 + k * 2 + 1, none⟩ = some (.int .i64 x1) := (Sta.t (i := 0) HS29 rfl :).2.2
        go_wp2_with (first
          | (go_at_call 101; (with_reducible refine (hC8 wl6 x0 W0.out hd).mono ?_); rintro r w' ⟨rfl, rfl⟩))
        go_ret
        exact ⟨congrArg (fun b => Ending.returned (Value.bool b)) (boolP_no (show ¬ ManOk nm ls bs from fun h => HF.out h.2.1)).symm, Sta.fin HS29⟩
      · as_aux_lemma =>
        have hd : decide (x0.size = 32) = true := decide_eq_true g
        have d1 : decide (x1 < 0) = false := decide_eq_false (by omega)
        have d2 : decide (3000 < x1) = true := decide_eq_true g2
        have HF := hidP (LaysOk.not_at hkl hx0 hx1 (by omega))
        have cHS29_0_1 : wl6.cell? ⟨w.heap.size, 1, none⟩ = some (.slice (some ⟨b1, o1, none⟩) y1 c1) := Sta.c (i := 0) HS29 rfl rfl
        have tcHS29_0_0 : wl6.cell? ⟨b1, o1 + k * 2, none⟩ = some (.string x0) := (Sta.t (i := 0) HS29 rfl :).2.1
        have tcHS29_0_1 : wl6.cell? ⟨b1, o1 + k * 2 + 1, none⟩ = some (.int .i64 x1) := (Sta.t (i := 0) HS29 rfl :).2.2
        go_wp2_with (first
          | (go_at_call 101; (with_reducible refine (hC8 wl6 x0 W0.out hd).mono ?_); rintro r w' ⟨rfl, rfl⟩))
        go_ret
        exact ⟨congrArg (fun b => Ending.returned (Value.bool b)) (boolP_no (show ¬ ManOk nm ls bs from fun h => HF.out h.2.1)).symm, Sta.fin HS29⟩
      · as_aux_lemma =>
        have hd : decide (x0.size = 32) = true := decide_eq_true g
        have d1 : decide (x1 < 0) = false := decide_eq_false (by omega)
        have d2 : decide (3000 < x1) = false := decide_eq_false (by omega)
        have HT2 := hidP (LaysOk.step HT.out hkl hx0 hx1 ⟨g, g1, g2⟩)
        have cHS29_0_1 : wl6.cell? ⟨w.heap.size, 1, none⟩ = some (.slice (some ⟨b1, o1, none⟩) y1 c1) := Sta.c (i := 0) HS29 rfl rfl
        have tcHS29_0_0 : wl6.cell? ⟨b1, o1 + k * 2, none⟩ = some (.string x0) := (Sta.t (i := 0) HS29 rfl :).2.1
        have tcHS29_0_1 : wl6.cell? ⟨b1, o1 + k * 2 + 1, none⟩ = some (.int .i64 x1) := (Sta.t (i := 0) HS29 rfl :).2.2
        go_wp2_with (first
          | (go_at_call 101; (with_reducible refine (hC8 wl6 x0 W0.out hd).mono ?_); rintro r w' ⟨rfl, rfl⟩))
        clear cHS29_0_1 tcHS29_0_0 tcHS29_0_1
        have HS34 := Sta.imp 0 (fun w' => LayAt w' (some ⟨b1, o1, none⟩) ls ∧ LabAt w' a2 bs) HS29 rfl (fun w' h => h.1)
        go_roundw
        case rel => exact ⟨k + 1, by go_num, hlt6, HT2, HS34⟩
        case measure => simp [intOf]; omega
end Go.Proofs.YtchfpiadfmnphaaDoor
namespace Go.Proofs.YtchfpiadfmnphaaDoor
open Go.RowKit
set_option linter.unusedVariables false

set_option maxRecDepth 100000 in
set_option maxHeartbeats 16000000 in
theorem specMan (t : ByteArray) (w : World) (hs : t.size ≤ maxLen) :
    Calls Tryd.prog 51 #[.string t] w fun r w' => ∃ (nm : ByteArray) (ls : List LayV) (bs : List LabV) (a1 : Option Addr) (n1 c1 : Nat) (a2 : Option Addr) (n2 c2 : Nat) (ok : Bool), r = .returned (.tuple #[.agg #[.string nm, .slice a1 n1 c1, .slice a2 n2 c2], .bool ok]) ∧ (n1 = ls.length ∧ n2 = bs.length ∧ ls.length ≤ 10 ∧ bs.length ≤ 10) ∧ ((ok = true ∧ ManOkT t nm ls bs) ∨ (ok = false ∧ ¬ ∃ nm ls bs, ManOkT t nm ls bs)) ∧ Made w w' (fun w2 => LayAt w2 a1 ls ∧ LabAt w2 a2 bs) ∧ Below w.heap.size w w' := by
  have HS' := hidP hs
  have hC1 : ∀ w0 (w1 : World), (RowV w0 w1.heap.size [.string t, .int .i64 0, .bool false]) → Calls Tryd.prog 69 #[.pointer (some ⟨w1.heap.size, 0, none⟩), .string ⟨#[73]⟩] w0 fun r w' => ∃ (p1 : Nat) (d1 : Bool), r = .returned (.tuple #[]) ∧ FstR t ⟨#[73]⟩ p1 d1 ∧ RowV w' w1.heap.size [.string t, .int .i64 (p1 : Int), .bool d1] ∧ Only w1.heap.size w0 w' := fun w0 w1 n0 => spFirst _ t ⟨#[73]⟩ w0 hs n0
  have hC2 : ∀ w0 (p1 : Nat) (d1 : Bool) (w1 : World), (RowV w0 w1.heap.size [.string t, .int .i64 (p1 : Int), .bool d1]) → (p1 ≤ t.size) → Calls Tryd.prog 70 #[.pointer (some ⟨w1.heap.size, 0, none⟩)] w0 fun r w' => ∃ (nm : ByteArray) (p2 : Nat) (d2 : Bool), r = .returned (.string nm) ∧ TxtR t p1 d1 nm p2 d2 ∧ RowV w' w1.heap.size [.string t, .int .i64 (p2 : Int), .bool d2] ∧ Only w1.heap.size w0 w' := fun w0 p1 d1 w1 n0 n1 => spTxt _ p1 t w0 hs n1 d1 n0
  have hC3 : ∀ w0 (p2 : Nat) (d2 : Bool) (w1 : World), (RowV w0 w1.heap.size [.string t, .int .i64 (p2 : Int), .bool d2]) → (p2 ≤ t.size) → Calls Tryd.prog 71 #[.pointer (some ⟨w1.heap.size, 0, none⟩), .int .i64 10] w0 fun r w' => ∃ (m : Nat) (p3 : Nat) (d3 : Bool), r = .returned (.int .i64 (m : Int)) ∧ ManR t p2 d2 10 m p3 d3 ∧ RowV w' w1.heap.size [.string t, .int .i64 (p3 : Int), .bool d3] ∧ Only w1.heap.size w0 w' := fun w0 p2 d2 w1 n0 n1 => spMany _ p2 10 t w0 hs n1 d2 n0
  have hC4 : ∀ w0 (pa : Nat) (da : Bool) (w1 : World), (RowV w0 w1.heap.size [.string t, .int .i64 (pa : Int), .bool da]) → (pa ≤ t.size) → Calls Tryd.prog 71 #[.pointer (some ⟨w1.heap.size, 0, none⟩), .int .i64 10] w0 fun r w' => ∃ (m2 : Nat) (p4 : Nat) (d4 : Bool), r = .returned (.int .i64 (m2 : Int)) ∧ ManR t pa da 10 m2 p4 d4 ∧ RowV w' w1.heap.size [.string t, .int .i64 (p4 : Int), .bool d4] ∧ Only w1.heap.size w0 w' := fun w0 pa da w1 n0 n1 => spMany _ pa 10 t w0 hs n1 da n0
  have hC5 : ∀ w0 (pb : Nat) (db : Bool) (w1 : World), (RowV w0 w1.heap.size [.string t, .int .i64 (pb : Int), .bool db]) → (pb ≤ t.size) → (doneB t pb db = false) → Calls Tryd.prog 74 #[.pointer (some ⟨w1.heap.size, 0, none⟩)] w0 fun r w' => r = .returned (.bool false) ∧ Below w0.heap.size w0 w' := fun w0 pb db w1 n0 n1 n2 => by rw [← n2]; exact spDone _ pb t w0 hs n1 db n0
  have hC6 : ∀ w0 (pb : Nat) (db : Bool) (w1 : World), (RowV w0 w1.heap.size [.string t, .int .i64 (pb : Int), .bool db]) → (pb ≤ t.size) → (doneB t pb db = true) → Calls Tryd.prog 74 #[.pointer (some ⟨w1.heap.size, 0, none⟩)] w0 fun r w' => r = .returned (.bool true) ∧ Below w0.heap.size w0 w' := fun w0 pb db w1 n0 n1 n2 => by rw [← n2]; exact spDone _ pb t w0 hs n1 db n0
  have hC7 : ∀ w0 (nm : ByteArray) (aa : Option Addr) (na : Nat) (ca : Nat) (la : List LayV) (ab : Option Addr) (nb : Nat) (cb : Nat) (lb : List LabV), (LayO w0 w.heap.size (.slice aa na ca) la) → (LabO w0 w.heap.size (.slice ab nb cb) lb) → (nm.size ≤ maxLen ∧ (∀ x ∈ la, x.w) ∧ ∀ x ∈ lb, x.w) → (la.length ≤ 10 ∧ lb.length ≤ 10) → (boolP (ManOk nm la lb) = false) → Calls Tryd.prog 75 #[.agg #[.string nm, .slice aa na ca, .slice ab nb cb]] w0 fun r w' => r = .returned (.bool false) ∧ Below w0.heap.size w0 w' := fun w0 nm aa na ca la ab nb cb lb n0 n1 n2 n3 n4 => by rw [← n4]; exact specManR nm aa ca na la ab cb nb lb w0 (LayO.row n0).2.2.symm (LayO.row n0).1.lay (by have := (LayO.row n0).2.2; unfold maxLen; omega) n2.2.1 (LabO.row n1).2.2.symm (LabO.row n1).1.lab (by have := (LabO.row n1).2.2; unfold maxLen; omega) n2.2.2 n2.1
  have hC8 : ∀ w0 (nm : ByteArray) (aa : Option Addr) (na : Nat) (ca : Nat) (la : List LayV) (ab : Option Addr) (nb : Nat) (cb : Nat) (lb : List LabV), (LayO w0 w.heap.size (.slice aa na ca) la) → (LabO w0 w.heap.size (.slice ab nb cb) lb) → (nm.size ≤ maxLen ∧ (∀ x ∈ la, x.w) ∧ ∀ x ∈ lb, x.w) → (la.length ≤ 10 ∧ lb.length ≤ 10) → (boolP (ManOk nm la lb) = true) → Calls Tryd.prog 75 #[.agg #[.string nm, .slice aa na ca, .slice ab nb cb]] w0 fun r w' => r = .returned (.bool true) ∧ Below w0.heap.size w0 w' := fun w0 nm aa na ca la ab nb cb lb n0 n1 n2 n3 n4 => by rw [← n4]; exact specManR nm aa ca na la ab cb nb lb w0 (LayO.row n0).2.2.symm (LayO.row n0).1.lay (by have := (LayO.row n0).2.2; unfold maxLen; omega) n2.2.1 (LabO.row n1).2.2.symm (LabO.row n1).1.lab (by have := (LabO.row n1).2.2; unfold maxLen; omega) n2.2.2 n2.1
  have hC9 : ∀ w0 (pb : Nat) (db : Bool) (w1 : World), (RowV w0 w1.heap.size [.string t, .int .i64 (pb : Int), .bool db]) → (pb ≤ t.size) → Calls Tryd.prog 70 #[.pointer (some ⟨w1.heap.size, 0, none⟩)] w0 fun r w' => ∃ (x0 : ByteArray) (q1 : Nat) (e1 : Bool), r = .returned (.string x0) ∧ TxtR t pb db x0 q1 e1 ∧ RowV w' w1.heap.size [.string t, .int .i64 (q1 : Int), .bool e1] ∧ Only w1.heap.size w0 w' := fun w0 pb db w1 n0 n1 => spTxt _ pb t w0 hs n1 db n0
  have hC10 : ∀ w0 (q1 : Nat) (e1 : Bool) (w1 : World), (RowV w0 w1.heap.size [.string t, .int .i64 (q1 : Int), .bool e1]) → (q1 ≤ t.size) → Calls Tryd.prog 70 #[.pointer (some ⟨w1.heap.size, 0, none⟩)] w0 fun r w' => ∃ (x1 : ByteArray) (q2 : Nat) (e2 : Bool), r = .returned (.string x1) ∧ TxtR t q1 e1 x1 q2 e2 ∧ RowV w' w1.heap.size [.string t, .int .i64 (q2 : Int), .bool e2] ∧ Only w1.heap.size w0 w' := fun w0 q1 e1 w1 n0 n1 => spTxt _ q1 t w0 hs n1 e1 n0
  have hC11 : ∀ w0 (pa : Nat) (da : Bool) (w1 : World), (RowV w0 w1.heap.size [.string t, .int .i64 (pa : Int), .bool da]) → (pa ≤ t.size) → Calls Tryd.prog 72 #[.pointer (some ⟨w1.heap.size, 0, none⟩), .int .i64 32] w0 fun r w' => ∃ (x0 : ByteArray) (q1 : Nat) (e1 : Bool), r = .returned (.string x0) ∧ BytR t pa da x0 q1 e1 ∧ RowV w' w1.heap.size [.string t, .int .i64 (q1 : Int), .bool e1] ∧ Only w1.heap.size w0 w' := fun w0 pa da w1 n0 n1 => spByt _ pa t w0 hs n1 da n0
  have hC12 : ∀ w0 (q1 : Nat) (e1 : Bool) (w1 : World), (RowV w0 w1.heap.size [.string t, .int .i64 (q1 : Int), .bool e1]) → (q1 ≤ t.size) → Calls Tryd.prog 73 #[.pointer (some ⟨w1.heap.size, 0, none⟩)] w0 fun r w' => ∃ (x1 : Int) (q2 : Nat) (e2 : Bool), r = .returned (.int .i64 x1) ∧ NumR t q1 e1 x1 q2 e2 ∧ RowV w' w1.heap.size [.string t, .int .i64 (q2 : Int), .bool e2] ∧ Only w1.heap.size w0 w' := fun w0 q1 e1 w1 n0 n1 => spNum _ q1 t w0 hs n1 e1 n0
  have HS0 : Hid (Sta [] w [] [] w) := Sta.start w
  clear hs
  go_enter Tryd.func51, Tryd.ntmps51
  go_wp2_with (first
    | ((with_reducible refine wpList_allocV (w := w) (by with_unfolding_all rfl) 41 (by with_unfolding_all rfl) [.string ⟨#[]⟩, .slice none 0 0, .slice none 0 0] Tryd.zT_implManifest ?_); intro w1 hA1 hB1 hS1; clear hS1; have HS1 := Sta.new HS0 hA1 hB1 (by simp); clear hA1 hB1)
    | ((with_reducible refine wpList_boxV (w := w1) (by with_unfolding_all rfl) 109 (.tmp 11) (by with_unfolding_all rfl) [.string t, .int .i64 0, .bool false] (by with_unfolding_all rfl) ?_); intro w2 hA2 hB2 hS2; clear hS2; have HS2 := Sta.new HS1 hA2 hB2 (by simp); clear hA2 hB2)
    | ((with_reducible refine wpList_allocV (w := w2) (by with_unfolding_all rfl) 41 (by with_unfolding_all rfl) [.string ⟨#[]⟩, .slice none 0 0, .slice none 0 0] Tryd.zT_implManifest ?_); intro w3 hA3 hB3 hS3; clear hS3; have HS3 := Sta.new HS2 hA3 hB3 (by simp); clear hA3 hB3)
    | ((with_reducible refine wpList_storeS (w := w3) (by with_unfolding_all rfl) 41 (.tmp 5) (.tmp 13) (by with_unfolding_all rfl) w2.heap.size [.string ⟨#[]⟩, .slice none 0 0, .slice none 0 0] [.string ⟨#[]⟩, .slice none 0 0, .slice none 0 0] (by with_unfolding_all rfl) (by with_unfolding_all rfl) (Sta.r (i := 0) HS3 (by with_unfolding_all rfl)) 3 Tryd.sT_implManifest (by with_unfolding_all rfl) (by with_unfolding_all rfl) (by with_unfolding_all rfl) ?_); intro w4 hA4 hO4; have HS4 := Sta.put 0 HS3 rfl hA4 (by simp) hO4; clear hA4 hO4)
    | (go_at_call 69; have n5_0 : RowV w4 w1.heap.size [.string t, .int .i64 0, .bool false] := (Sta.r (i := 1) HS4 rfl :); (with_reducible refine (hC1 w4 w1 n5_0).mono ?_); rintro r w5 ⟨p1, d1, rfl, f1, hA5, hO5⟩; have Hf1 := hidP f1; clear f1; have HS5 := Sta.put 1 HS4 rfl hA5 (by simp) hO5; clear hA5 hO5)
    | (go_at_call 70; have n6_0 : RowV w5 w1.heap.size [.string t, .int .i64 (p1 : Int), .bool d1] := (Sta.r (i := 1) HS5 rfl :); have n6_1 : p1 ≤ t.size := Hf1.out.1; (with_reducible refine (hC2 w5 p1 d1 w1 n6_0 n6_1).mono ?_); rintro r w6 ⟨nm, p2, d2, rfl, f2, hA6, hO6⟩; have Hf2 := hidP f2; clear f2; have HS6 := Sta.put 1 HS5 rfl hA6 (by simp) hO6; clear hA6 hO6)
    | ((with_reducible refine wpList_cellS (w := w6) (by with_unfolding_all rfl) 9 (.tmp 18) (.tmp 17) (by with_unfolding_all rfl) w2.heap.size 0 [.string ⟨#[]⟩, .slice none 0 0, .slice none 0 0] [.string nm, .slice none 0 0, .slice none 0 0] (.string nm) (by with_unfolding_all rfl) (by with_unfolding_all rfl) (by with_unfolding_all rfl) Tryd.s1_string (Sta.r (i := 0) HS6 (by with_unfolding_all rfl)) (by simp) (by with_unfolding_all rfl) ?_); intro w7 hA7 hO7; have HS7 := Sta.put 0 HS6 rfl hA7 (by simp) hO7; clear hA7 hO7)
    | (go_at_call 71; have n8_0 : RowV w7 w1.heap.size [.string t, .int .i64 (p2 : Int), .bool d2] := (Sta.r (i := 1) HS7 rfl :); have n8_1 : p2 ≤ t.size := Hf2.out.1; (with_reducible refine (hC3 w7 p2 d2 w1 n8_0 n8_1).mono ?_); rintro r w8 ⟨m, p3, d3, rfl, f3, hA8, hO8⟩; have Hf3 := hidP f3; clear f3; have HS8 := Sta.put 1 HS7 rfl hA8 (by simp) hO8; clear hA8 hO8))
  have HS9 : Hid (Sta [] w [(w2.heap.size, [.string nm, .slice none 0 0, .slice none 0 0]), (w1.heap.size, [.string t, .int .i64 (p3 : Int), .bool d3]), (w.heap.size, [.string ⟨#[]⟩, .slice none 0 0, .slice none 0 0])] [⟨fun k => (Value.slice none 0 0).ownBlock = some k, fun w' => LayO w' w.heap.size (.slice none 0 0) ([])⟩] w8) := Sta.own0 w.heap.size 85 2 HS8
  go_wp2_with fail
  have HM10 : Hid (m ≤ 10) := Hf3.out.2.1
  go_loopw [6] (fun v0 wr => ∃ (k : Nat) (pa : Nat) (da : Bool) (aa : Option Addr) (na : Nat) (ca : Nat) (la : List LayV), v0 = .int .i64 ((m - k : Nat) : Int) ∧ k ≤ m ∧ Hid (pa ≤ t.size) ∧ Hid (la.length = k) ∧ Hid (StM t da (restLs t nm la (m - k) pa) (nm.size ≤ maxLen ∧ ∀ y ∈ la, y.w)) ∧ Hid (Sta [] w [(w2.heap.size, [.string nm, .slice aa na ca, .slice none 0 0]), (w1.heap.size, [.string t, .int .i64 (pa : Int), .bool da]), (w.heap.size, [.string ⟨#[]⟩, .slice none 0 0, .slice none 0 0])] [⟨fun k => (Value.slice aa na ca).ownBlock = some k, fun w' => LayO w' w.heap.size (.slice aa na ca) la⟩] wr)) (fun v0 _ => (intOf v0).toNat)
  case atStart => exact ⟨0, p3, d3, none, 0, 0, [], by rw [Nat.sub_zero], Nat.zero_le _, Hf3.out.1, rfl, mq_many (mq_text HS'.out (mq_first Hf1.out) Hf2.out) Hf3.out, HS9⟩
  case round =>
    rename Go.World => wl10
    clear HS9
    obtain ⟨k, pa, da, aa, na, ca, la, rfl, hk10, HPa, HLa, HR, HS10⟩ := hrel
    by_cases hlt10 : k < m
    case neg =>
      obtain rfl : m = k := by omega
      have HRe : Hid (StM t da (restLs t nm la 0 pa) (nm.size ≤ maxLen ∧ ∀ y ∈ la, y.w)) := by have := HR.out; rw [Nat.sub_self] at this; exact this
      clear HR
      go_wp2_with (first
        | (go_at_call 71; have n11_0 : RowV wl10 w1.heap.size [.string t, .int .i64 (pa : Int), .bool da] := (Sta.r (i := 1) HS10 rfl :); (with_reducible refine (hC4 wl10 pa da w1 n11_0 HPa.out).mono ?_); rintro r w11 ⟨m2, p4, d4, rfl, f4, hA11, hO11⟩; have Hf4 := hidP f4; clear f4; have HS11 := Sta.put 1 HS10 rfl hA11 (by simp) hO11; clear hA11 hO11))
      have HS12 : Hid (Sta [] w [(w2.heap.size, [.string nm, .slice aa na ca, .slice none 0 0]), (w1.heap.size, [.string t, .int .i64 (p4 : Int), .bool d4]), (w.heap.size, [.string ⟨#[]⟩, .slice none 0 0, .slice none 0 0])] [⟨fun k => (Value.slice none 0 0).ownBlock = some k, fun w' => LabO w' w.heap.size (.slice none 0 0) ([])⟩, ⟨fun m => (Value.slice aa na ca).ownBlock = some m, fun w' => LayO w' w.heap.size (.slice aa na ca) la⟩] w11) := Sta.own0 w.heap.size 116 2 HS11
      go_wp2_with fail
      have HM20 : Hid (m2 ≤ 10) := Hf4.out.2.1
      go_loopw [8] (fun v0 wr => ∃ (k : Nat) (pb : Nat) (db : Bool) (ab : Option Addr) (nb : Nat) (cb : Nat) (lb : List LabV), v0 = .int .i64 ((m2 - k : Nat) : Int) ∧ k ≤ m2 ∧ Hid (pb ≤ t.size) ∧ Hid (lb.length = k) ∧ Hid (StM t db (restBs t nm la lb (m2 - k) pb) (nm.size ≤ maxLen ∧ (∀ y ∈ la, y.w) ∧ ∀ y ∈ lb, y.w)) ∧ Hid (Sta [] w [(w2.heap.size, [.string nm, .slice aa na ca, .slice ab nb cb]), (w1.heap.size, [.string t, .int .i64 (pb : Int), .bool db]), (w.heap.size, [.string ⟨#[]⟩, .slice none 0 0, .slice none 0 0])] [⟨fun k => (Value.slice ab nb cb).ownBlock = some k, fun w' => LabO w' w.heap.size (.slice ab nb cb) lb⟩, ⟨fun m => (Value.slice aa na ca).ownBlock = some m, fun w' => LayO w' w.heap.size (.slice aa na ca) la⟩] wr)) (fun v0 _ => (intOf v0).toNat)
      case atStart => exact ⟨0, p4, d4, none, 0, 0, [], by rw [Nat.sub_zero], Nat.zero_le _, Hf4.out.1, rfl, mq_mid HRe.out Hf4.out, HS12⟩
      case round =>
        rename Go.World => wl13
        clear HS12
        obtain ⟨k, pb, db, ab, nb, cb, lb, rfl, hk13, HPb, HLb, HR, HS13⟩ := hrel
        by_cases hlt13 : k < m2
        case neg =>
          obtain rfl : m2 = k := by omega
          have HE := hidP (mq_end (show StM t db (restBs t nm la lb 0 pb) (nm.size ≤ maxLen ∧ (∀ y ∈ la, y.w) ∧ ∀ y ∈ lb, y.w) from by have := HR.out; rw [Nat.sub_self] at this; exact this))
          have HLen : Hid (la.length ≤ 10 ∧ lb.length ≤ 10) := by have h1 := HLa.out; have h2 := HLb.out; have h3 := HM10.out; have h4 := HM20.out; show _ ∧ _; omega
          clear HR
          have hb3 : doneB t pb db = false ∨ (doneB t pb db = true ∧ boolP (ManOk nm la lb) = false) ∨ (doneB t pb db = true ∧ boolP (ManOk nm la lb) = true) := by cases doneB t pb db <;> cases boolP (ManOk nm la lb) <;> simp
          rcases hb3 with hd | ⟨hd, hh⟩ | ⟨hd, hh⟩
          · as_aux_lemma =>
            go_wp2_with fail
            have HS14 := Sta.drew HS13
            refine wp_region_held_drew (S := fun w' => w'.cell? ⟨w2.heap.size, 0, none⟩ = some (.string nm) ∧ w'.cell? ⟨w2.heap.size, 1, none⟩ = some (.slice aa na ca) ∧ w'.cell? ⟨w2.heap.size, 2, none⟩ = some (.slice ab nb cb)) (by kernel_rfl) ⟨Sta.c (i := 0) HS14 rfl rfl, Sta.c (i := 0) HS14 rfl rfl, Sta.c (i := 0) HS14 rfl rfl⟩ (fun hHeld => ?_)
            generalize wl13.drew = w14 at *
            refine wpAnyH_take (i := 0) (oi := ⟨_, _, _, _, _, _⟩) (v := .agg #[.string nm, .slice aa na ca, .slice ab nb cb]) rfl (by kernel_rfl) (by kernel_rfl) (by kernel_rfl) (fun _ _ _ h => h) (Or.inl ⟨wanted_free rfl, fun w' hSw => ?_⟩) hHeld ?_
            · obtain ⟨s0, s1, s2⟩ := hSw
              go_simp
            try simp only [Act.put, List.setIfInBounds_toArray, List.set_cons_zero, List.set_cons_succ]
            refine wpAnyH_take (i := 1) (oi := ⟨_, _, _, _, _, _⟩) (v := .pointer (some ⟨w1.heap.size, 0, none⟩)) rfl (by kernel_rfl) (by kernel_rfl) (by kernel_rfl) (fun _ _ _ h => h) (Or.inl ⟨wanted_free rfl, fun w' hSw => ?_⟩) hHeld ?_
            · go_simp
            try simp only [Act.put, List.setIfInBounds_toArray, List.set_cons_zero, List.set_cons_succ]
            refine wpAnyH_ready (rs := [2]) (by kernel_rfl) (by simp) (AllReadyH.cons (o := ⟨_, _, _, _, _, _⟩) rfl (fun K hK => ?_) AllReadyH.nil)
            rewrite [if_pos (wanted_free rfl)]
            go_simp
            have n15_0 : RowV w14 w1.heap.size [.string t, .int .i64 (pb : Int), .bool db] := (Sta.r (i := 1) HS14 rfl :)
            (with_reducible refine (hC5 w14 pb db w1 n15_0 HPb.out hd).mono ?_)
            rintro r w15 ⟨rfl, hB15⟩
            have HS15 := Sta.call HS14 hB15
            clear hB15
            go_wp2_with fail
            refine hK.out _ _ ⟨Sta.c (i := 0) HS15 rfl rfl, Sta.c (i := 0) HS15 rfl rfl, Sta.c (i := 0) HS15 rfl rfl⟩ (fun hHeld => ?_)
            clear hK K
            try simp only [Act.put, List.setIfInBounds_toArray, List.set_cons_zero, List.set_cons_succ]
            refine wpAnyH_take (i := 3) (oi := ⟨_, _, _, _, _, _⟩) (v := .bool false) rfl (by kernel_rfl) (by kernel_rfl) (by kernel_rfl) (fun _ _ _ h => h) (Or.inl ⟨wanted_free rfl, fun w' hSw => ?_⟩) hHeld ?_
            · go_simp
            try simp only [Act.put, List.setIfInBounds_toArray, List.set_cons_zero, List.set_cons_succ]
            refine wpAnyH_take (i := 4) (oi := ⟨_, _, _, _, _, _⟩) (v := undef) rfl (by kernel_rfl) (by kernel_rfl) (by kernel_rfl) (fun _ _ _ h => h) (Or.inr ⟨by with_unfolding_all rfl, rfl⟩) hHeld ?_
            try simp only [Act.put, List.setIfInBounds_toArray, List.set_cons_zero, List.set_cons_succ]
            refine wpAnyH_take (i := 5) (oi := ⟨_, _, _, _, _, _⟩) (v := undef) rfl (by kernel_rfl) (by kernel_rfl) (by kernel_rfl) (fun _ _ _ h => h) (Or.inr ⟨by with_unfolding_all rfl, rfl⟩) hHeld ?_
            try simp only [Act.put, List.setIfInBounds_toArray, List.set_cons_zero, List.set_cons_succ]
            refine wpAnyH_take (i := 6) (oi := ⟨_, _, _, _, _, _⟩) (v := .bool false) rfl (by kernel_rfl) (by kernel_rfl) (by kernel_rfl) (fun _ _ _ h => h) (Or.inl ⟨wanted_free rfl, fun w' hSw => ?_⟩) hHeld ?_
            · go_simp
            try simp only [Act.put, List.setIfInBounds_toArray, List.set_cons_zero, List.set_cons_succ]
            refine wpAnyH_ready (rs := [7]) (by kernel_rfl) (by simp) (AllReadyH.cons (o := ⟨_, _, _, _, _, _⟩) rfl (fun K hK => ?_) AllReadyH.nil)
            rewrite [if_pos (wanted_free rfl)]
            with_reducible refine wp_storeV 41 (.tmp 2) (.tmp 57) (by with_unfolding_all rfl) w.heap.size [.string ⟨#[]⟩, .slice none 0 0, .slice none 0 0] [.string nm, .slice aa na ca, .slice ab nb cb] (by with_unfolding_all rfl) (by with_unfolding_all rfl) (Sta.r (i := 2) HS15 (by with_unfolding_all rfl)) 3 Tryd.sT_implManifest (by with_unfolding_all rfl) (by with_unfolding_all rfl) (List.all_eq_true.1 (by with_unfolding_all rfl)) ?_
            intro w16 hA16 hO16
            have HS16 := Sta.put 2 HS15 rfl hA16 (by simp) hO16
            clear hA16 hO16
            refine hK.out _ _ ⟨Sta.c (i := 0) HS16 rfl rfl, Sta.c (i := 0) HS16 rfl rfl, Sta.c (i := 0) HS16 rfl rfl⟩ (fun hHeld => ?_)
            clear hK K
            try simp only [Act.put]
            refine wpAnyH_take (i := 8) (oi := ⟨_, _, _, _, _, _⟩) (v := .bool false) rfl (by kernel_rfl) (by kernel_rfl) (by kernel_rfl) (fun _ _ _ h => h) (Or.inl ⟨wanted_free rfl, fun w' hSw => ?_⟩) hHeld ?_
            · go_simp
            try simp only [Act.put, List.setIfInBounds_toArray, List.set_cons_zero, List.set_cons_succ]
            refine wpAnyH_done (by kernel_rfl) ?_ _
            clear hHeld
            go_wp2_with fail
            exact bodyPost_ret (results_VB (t := 41) rfl _ w.heap.size [.string nm, .slice aa na ca, .slice ab nb cb] rfl (Sta.r (i := 2) HS16 (by with_unfolding_all rfl)) Tryd.uT_implManifest 3 Tryd.sT_implManifest rfl (.bool false) rfl) rfl ⟨nm, la, lb, aa, na, ca, ab, nb, cb, false, rfl, ⟨(LayO.row (Sta.t (i := 1) HS16 rfl : LayO _ _ (.slice aa na ca) la)).2.2, (LabO.row (Sta.t (i := 0) HS16 rfl : LabO _ _ (.slice ab nb cb) lb)).2.2, HLen.out⟩, Or.inr ⟨rfl, HE.out.1 hd⟩, (Made.and' (P := fun w2 => LayO w2 w.heap.size (.slice aa na ca) la) (Q := fun w2 => LabO w2 w.heap.size (.slice ab nb cb) lb) (Sta.made_of (i := 1) HS16 rfl (fun k hk => (own_ge (Sta.t (i := 1) HS16 rfl : LayO _ _ (.slice aa na ca) la) hk).1)) (Sta.made_of (i := 0) HS16 rfl (fun k hk => (own_ge (Sta.t (i := 0) HS16 rfl : LabO _ _ (.slice ab nb cb) lb) hk).1))).imp (fun w2 h2 => ⟨(LayO.row h2.1).1.lay, (LabO.row h2.2).1.lab⟩), Sta.fin HS16⟩
          · as_aux_lemma =>
            have HW3 := hidP (HE.out.2 hd).1
            go_wp2_with fail
            have HS17 := Sta.drew HS13
            refine wp_region_held_drew (S := fun w' => w'.cell? ⟨w2.heap.size, 0, none⟩ = some (.string nm) ∧ w'.cell? ⟨w2.heap.size, 1, none⟩ = some (.slice aa na ca) ∧ w'.cell? ⟨w2.heap.size, 2, none⟩ = some (.slice ab nb cb)) (by kernel_rfl) ⟨Sta.c (i := 0) HS17 rfl rfl, Sta.c (i := 0) HS17 rfl rfl, Sta.c (i := 0) HS17 rfl rfl⟩ (fun hHeld => ?_)
            generalize wl13.drew = w17 at *
            refine wpAnyH_take (i := 0) (oi := ⟨_, _, _, _, _, _⟩) (v := .agg #[.string nm, .slice aa na ca, .slice ab nb cb]) rfl (by kernel_rfl) (by kernel_rfl) (by kernel_rfl) (fun _ _ _ h => h) (Or.inl ⟨wanted_free rfl, fun w' hSw => ?_⟩) hHeld ?_
            · obtain ⟨s0, s1, s2⟩ := hSw
              go_simp
            try simp only [Act.put, List.setIfInBounds_toArray, List.set_cons_zero, List.set_cons_succ]
            refine wpAnyH_take (i := 1) (oi := ⟨_, _, _, _, _, _⟩) (v := .pointer (some ⟨w1.heap.size, 0, none⟩)) rfl (by kernel_rfl) (by kernel_rfl) (by kernel_rfl) (fun _ _ _ h => h) (Or.inl ⟨wanted_free rfl, fun w' hSw => ?_⟩) hHeld ?_
            · go_simp
            try simp only [Act.put, List.setIfInBounds_toArray, List.set_cons_zero, List.set_cons_succ]
            refine wpAnyH_ready (rs := [2]) (by kernel_rfl) (by simp) (AllReadyH.cons (o := ⟨_, _, _, _, _, _⟩) rfl (fun K hK => ?_) AllReadyH.nil)
            rewrite [if_pos (wanted_free rfl)]
            go_simp
            have n18_0 : RowV w17 w1.heap.size [.string t, .int .i64 (pb : Int), .bool db] := (Sta.r (i := 1) HS17 rfl :)
            (with_reducible refine (hC6 w17 pb db w1 n18_0 HPb.out hd).mono ?_)
            rintro r w18 ⟨rfl, hB18⟩
            have HS18 := Sta.call HS17 hB18
            clear hB18
            go_wp2_with fail
            refine hK.out _ _ ⟨Sta.c (i := 0) HS18 rfl rfl, Sta.c (i := 0) HS18 rfl rfl, Sta.c (i := 0) HS18 rfl rfl⟩ (fun hHeld => ?_)
            clear hK K
            try simp only [Act.put, List.setIfInBounds_toArray, List.set_cons_zero, List.set_cons_succ]
            refine wpAnyH_take (i := 3) (oi := ⟨_, _, _, _, _, _⟩) (v := .bool true) rfl (by kernel_rfl) (by kernel_rfl) (by kernel_rfl) (fun _ _ _ h => h) (Or.inl ⟨wanted_free rfl, fun w' hSw => ?_⟩) hHeld ?_
            · go_simp
            try simp only [Act.put, List.setIfInBounds_toArray, List.set_cons_zero, List.set_cons_succ]
            refine wpAnyH_take (i := 4) (oi := ⟨_, _, _, _, _, _⟩) (v := .agg #[.string nm, .slice aa na ca, .slice ab nb cb]) rfl (by kernel_rfl) (by kernel_rfl) (by kernel_rfl) (fun _ _ _ h => h) (Or.inl ⟨by with_unfolding_all rfl, fun w' hSw => ?_⟩) hHeld ?_
            · obtain ⟨s0, s1, s2⟩ := hSw
              go_simp
            try simp only [Act.put, List.setIfInBounds_toArray, List.set_cons_zero, List.set_cons_succ]
            refine wpAnyH_ready (rs := [5]) (by kernel_rfl) (by simp) (AllReadyH.cons (o := ⟨_, _, _, _, _, _⟩) rfl (fun K hK => ?_) AllReadyH.nil)
            rewrite [if_pos (by with_unfolding_all rfl)]
            go_simp
            have n19_0 : LayO w18 w.heap.size (.slice aa na ca) la := (Sta.t (i := 1) HS18 rfl :)
            have n19_1 : LabO w18 w.heap.size (.slice ab nb cb) lb := (Sta.t (i := 0) HS18 rfl :)
            (with_reducible refine (hC7 w18 nm aa na ca la ab nb cb lb n19_0 n19_1 HW3.out HLen.out hh).mono ?_)
            rintro r w19 ⟨rfl, hB19⟩
            have HS19 := Sta.call HS18 hB19
            clear hB19
            go_wp2_with fail
            refine hK.out _ _ ⟨Sta.c (i := 0) HS19 rfl rfl, Sta.c (i := 0) HS19 rfl rfl, Sta.c (i := 0) HS19 rfl rfl⟩ (fun hHeld => ?_)
            clear hK K
            try simp only [Act.put, List.setIfInBounds_toArray, List.set_cons_zero, List.set_cons_succ]
            refine wpAnyH_take (i := 6) (oi := ⟨_, _, _, _, _, _⟩) (v := .bool false) rfl (by kernel_rfl) (by kernel_rfl) (by kernel_rfl) (fun _ _ _ h => h) (Or.inl ⟨wanted_free rfl, fun w' hSw => ?_⟩) hHeld ?_
            · go_simp
            try simp only [Act.put, List.setIfInBounds_toArray, List.set_cons_zero, List.set_cons_succ]
            refine wpAnyH_ready (rs := [7]) (by kernel_rfl) (by simp) (AllReadyH.cons (o := ⟨_, _, _, _, _, _⟩) rfl (fun K hK => ?_) AllReadyH.nil)
            rewrite [if_pos (wanted_free rfl)]
            with_reducible refine wp_storeV 41 (.tmp 2) (.tmp 57) (by with_unfolding_all rfl) w.heap.size [.string ⟨#[]⟩, .slice none 0 0, .slice none 0 0] [.string nm, .slice aa na ca, .slice ab nb cb] (by with_unfolding_all rfl) (by with_unfolding_all rfl) (Sta.r (i := 2) HS19 (by with_unfolding_all rfl)) 3 Tryd.sT_implManifest (by with_unfolding_all rfl) (by with_unfolding_all rfl) (List.all_eq_true.1 (by with_unfolding_all rfl)) ?_
            intro w20 hA20 hO20
            have HS20 := Sta.put 2 HS19 rfl hA20 (by simp) hO20
            clear hA20 hO20
            refine hK.out _ _ ⟨Sta.c (i := 0) HS20 rfl rfl, Sta.c (i := 0) HS20 rfl rfl, Sta.c (i := 0) HS20 rfl rfl⟩ (fun hHeld => ?_)
            clear hK K
            try simp only [Act.put]
            refine wpAnyH_take (i := 8) (oi := ⟨_, _, _, _, _, _⟩) (v := .bool false) rfl (by kernel_rfl) (by kernel_rfl) (by kernel_rfl) (fun _ _ _ h => h) (Or.inl ⟨wanted_free rfl, fun w' hSw => ?_⟩) hHeld ?_
            · go_simp
            try simp only [Act.put, List.setIfInBounds_toArray, List.set_cons_zero, List.set_cons_succ]
            refine wpAnyH_done (by kernel_rfl) ?_ _
            clear hHeld
            go_wp2_with fail
            exact bodyPost_ret (results_VB (t := 41) rfl _ w.heap.size [.string nm, .slice aa na ca, .slice ab nb cb] rfl (Sta.r (i := 2) HS20 (by with_unfolding_all rfl)) Tryd.uT_implManifest 3 Tryd.sT_implManifest rfl (.bool false) rfl) rfl ⟨nm, la, lb, aa, na, ca, ab, nb, cb, false, rfl, ⟨(LayO.row (Sta.t (i := 1) HS20 rfl : LayO _ _ (.slice aa na ca) la)).2.2, (LabO.row (Sta.t (i := 0) HS20 rfl : LabO _ _ (.slice ab nb cb) lb)).2.2, HLen.out⟩, Or.inr ⟨rfl, (HE.out.2 hd).2.2 hh⟩, (Made.and' (P := fun w2 => LayO w2 w.heap.size (.slice aa na ca) la) (Q := fun w2 => LabO w2 w.heap.size (.slice ab nb cb) lb) (Sta.made_of (i := 1) HS20 rfl (fun k hk => (own_ge (Sta.t (i := 1) HS20 rfl : LayO _ _ (.slice aa na ca) la) hk).1)) (Sta.made_of (i := 0) HS20 rfl (fun k hk => (own_ge (Sta.t (i := 0) HS20 rfl : LabO _ _ (.slice ab nb cb) lb) hk).1))).imp (fun w2 h2 => ⟨(LayO.row h2.1).1.lay, (LabO.row h2.2).1.lab⟩), Sta.fin HS20⟩
          · as_aux_lemma =>
            have HW3 := hidP (HE.out.2 hd).1
            go_wp2_with fail
            have HS21 := Sta.drew HS13
            refine wp_region_held_drew (S := fun w' => w'.cell? ⟨w2.heap.size, 0, none⟩ = some (.string nm) ∧ w'.cell? ⟨w2.heap.size, 1, none⟩ = some (.slice aa na ca) ∧ w'.cell? ⟨w2.heap.size, 2, none⟩ = some (.slice ab nb cb)) (by kernel_rfl) ⟨Sta.c (i := 0) HS21 rfl rfl, Sta.c (i := 0) HS21 rfl rfl, Sta.c (i := 0) HS21 rfl rfl⟩ (fun hHeld => ?_)
            generalize wl13.drew = w21 at *
            refine wpAnyH_take (i := 0) (oi := ⟨_, _, _, _, _, _⟩) (v := .agg #[.string nm, .slice aa na ca, .slice ab nb cb]) rfl (by kernel_rfl) (by kernel_rfl) (by kernel_rfl) (fun _ _ _ h => h) (Or.inl ⟨wanted_free rfl, fun w' hSw => ?_⟩) hHeld ?_
            · obtain ⟨s0, s1, s2⟩ := hSw
              go_simp
            try simp only [Act.put, List.setIfInBounds_toArray, List.set_cons_zero, List.set_cons_succ]
            refine wpAnyH_take (i := 1) (oi := ⟨_, _, _, _, _, _⟩) (v := .pointer (some ⟨w1.heap.size, 0, none⟩)) rfl (by kernel_rfl) (by kernel_rfl) (by kernel_rfl) (fun _ _ _ h => h) (Or.inl ⟨wanted_free rfl, fun w' hSw => ?_⟩) hHeld ?_
            · go_simp
            try simp only [Act.put, List.setIfInBounds_toArray, List.set_cons_zero, List.set_cons_succ]
            refine wpAnyH_ready (rs := [2]) (by kernel_rfl) (by simp) (AllReadyH.cons (o := ⟨_, _, _, _, _, _⟩) rfl (fun K hK => ?_) AllReadyH.nil)
            rewrite [if_pos (wanted_free rfl)]
            go_simp
            have n22_0 : RowV w21 w1.heap.size [.string t, .int .i64 (pb : Int), .bool db] := (Sta.r (i := 1) HS21 rfl :)
            (with_reducible refine (hC6 w21 pb db w1 n22_0 HPb.out hd).mono ?_)
            rintro r w22 ⟨rfl, hB22⟩
            have HS22 := Sta.call HS21 hB22
            clear hB22
            go_wp2_with fail
            refine hK.out _ _ ⟨Sta.c (i := 0) HS22 rfl rfl, Sta.c (i := 0) HS22 rfl rfl, Sta.c (i := 0) HS22 rfl rfl⟩ (fun hHeld => ?_)
            clear hK K
            try simp only [Act.put, List.setIfInBounds_toArray, List.set_cons_zero, List.set_cons_succ]
            refine wpAnyH_take (i := 3) (oi := ⟨_, _, _, _, _, _⟩) (v := .bool true) rfl (by kernel_rfl) (by kernel_rfl) (by kernel_rfl) (fun _ _ _ h => h) (Or.inl ⟨wanted_free rfl, fun w' hSw => ?_⟩) hHeld ?_
            · go_simp
            try simp only [Act.put, List.setIfInBounds_toArray, List.set_cons_zero, List.set_cons_succ]
            refine wpAnyH_take (i := 4) (oi := ⟨_, _, _, _, _, _⟩) (v := .agg #[.string nm, .slice aa na ca, .slice ab nb cb]) rfl (by kernel_rfl) (by kernel_rfl) (by kernel_rfl) (fun _ _ _ h => h) (Or.inl ⟨by with_unfolding_all rfl, fun w' hSw => ?_⟩) hHeld ?_
            · obtain ⟨s0, s1, s2⟩ := hSw
              go_simp
            try simp only [Act.put, List.setIfInBounds_toArray, List.set_cons_zero, List.set_cons_succ]
            refine wpAnyH_ready (rs := [5]) (by kernel_rfl) (by simp) (AllReadyH.cons (o := ⟨_, _, _, _, _, _⟩) rfl (fun K hK => ?_) AllReadyH.nil)
            rewrite [if_pos (by with_unfolding_all rfl)]
            go_simp
            have n23_0 : LayO w22 w.heap.size (.slice aa na ca) la := (Sta.t (i := 1) HS22 rfl :)
            have n23_1 : LabO w22 w.heap.size (.slice ab nb cb) lb := (Sta.t (i := 0) HS22 rfl :)
            (with_reducible refine (hC8 w22 nm aa na ca la ab nb cb lb n23_0 n23_1 HW3.out HLen.out hh).mono ?_)
            rintro r w23 ⟨rfl, hB23⟩
            have HS23 := Sta.call HS22 hB23
            clear hB23
            go_wp2_with fail
            refine hK.out _ _ ⟨Sta.c (i := 0) HS23 rfl rfl, Sta.c (i := 0) HS23 rfl rfl, Sta.c (i := 0) HS23 rfl rfl⟩ (fun hHeld => ?_)
            clear hK K
            try simp only [Act.put, List.setIfInBounds_toArray, List.set_cons_zero, List.set_cons_succ]
            refine wpAnyH_take (i := 6) (oi := ⟨_, _, _, _, _, _⟩) (v := .bool true) rfl (by kernel_rfl) (by kernel_rfl) (by kernel_rfl) (fun _ _ _ h => h) (Or.inl ⟨wanted_free rfl, fun w' hSw => ?_⟩) hHeld ?_
            · go_simp
            try simp only [Act.put, List.setIfInBounds_toArray, List.set_cons_zero, List.set_cons_succ]
            refine wpAnyH_ready (rs := [7]) (by kernel_rfl) (by simp) (AllReadyH.cons (o := ⟨_, _, _, _, _, _⟩) rfl (fun K hK => ?_) AllReadyH.nil)
            rewrite [if_pos (wanted_free rfl)]
            with_reducible refine wp_storeV 41 (.tmp 2) (.tmp 57) (by with_unfolding_all rfl) w.heap.size [.string ⟨#[]⟩, .slice none 0 0, .slice none 0 0] [.string nm, .slice aa na ca, .slice ab nb cb] (by with_unfolding_all rfl) (by with_unfolding_all rfl) (Sta.r (i := 2) HS23 (by with_unfolding_all rfl)) 3 Tryd.sT_implManifest (by with_unfolding_all rfl) (by with_unfolding_all rfl) (List.all_eq_true.1 (by with_unfolding_all rfl)) ?_
            intro w24 hA24 hO24
            have HS24 := Sta.put 2 HS23 rfl hA24 (by simp) hO24
            clear hA24 hO24
            refine hK.out _ _ ⟨Sta.c (i := 0) HS24 rfl rfl, Sta.c (i := 0) HS24 rfl rfl, Sta.c (i := 0) HS24 rfl rfl⟩ (fun hHeld => ?_)
            clear hK K
            try simp only [Act.put]
            refine wpAnyH_take (i := 8) (oi := ⟨_, _, _, _, _, _⟩) (v := .bool true) rfl (by kernel_rfl) (by kernel_rfl) (by kernel_rfl) (fun _ _ _ h => h) (Or.inl ⟨wanted_free rfl, fun w' hSw => ?_⟩) hHeld ?_
            · go_simp
            try simp only [Act.put, List.setIfInBounds_toArray, List.set_cons_zero, List.set_cons_succ]
            refine wpAnyH_done (by kernel_rfl) ?_ _
            clear hHeld
            go_wp2_with fail
            exact bodyPost_ret (results_VB (t := 41) rfl _ w.heap.size [.string nm, .slice aa na ca, .slice ab nb cb] rfl (Sta.r (i := 2) HS24 (by with_unfolding_all rfl)) Tryd.uT_implManifest 3 Tryd.sT_implManifest rfl (.bool true) rfl) rfl ⟨nm, la, lb, aa, na, ca, ab, nb, cb, true, rfl, ⟨(LayO.row (Sta.t (i := 1) HS24 rfl : LayO _ _ (.slice aa na ca) la)).2.2, (LabO.row (Sta.t (i := 0) HS24 rfl : LabO _ _ (.slice ab nb cb) lb)).2.2, HLen.out⟩, Or.inl ⟨rfl, (HE.out.2 hd).2.1 hh⟩, (Made.and' (P := fun w2 => LayO w2 w.heap.size (.slice aa na ca) la) (Q := fun w2 => LabO w2 w.heap.size (.slice ab nb cb) lb) (Sta.made_of (i := 1) HS24 rfl (fun k hk => (own_ge (Sta.t (i := 1) HS24 rfl : LayO _ _ (.slice aa na ca) la) hk).1)) (Sta.made_of (i := 0) HS24 rfl (fun k hk => (own_ge (Sta.t (i := 0) HS24 rfl : LabO _ _ (.slice ab nb cb) lb) hk).1))).imp (fun w2 h2 => ⟨(LayO.row h2.1).1.lay, (LabO.row h2.2).1.lab⟩), Sta.fin HS24⟩
        have lk13 : (k : Int) < m2 := by omega
        have l013 : (0 : Int) ≤ k := by omega
        obtain ⟨j, hj⟩ : ∃ j, m2 - k = j + 1 := ⟨m2 - k - 1, by omega⟩
        have hj2 : m2 - (k + 1) = j := by omega
        have em : ((j + 1 : Nat) : Int) - 1 = (j : Int) := by omega
        have ewj : IntKind.i64.wrap (j : Int) = (j : Int) := by have := HM20.out; simp [IntKind.wrap, IntKind.signed, IntKind.bits]; omega
        have dj : decide ((0 : Int) < ((j + 1 : Nat) : Int)) = true := decide_eq_true (by omega)
        rw [hj]
        have HRr : Hid (StM t db (restBs t nm la lb (j + 1) pb) (nm.size ≤ maxLen ∧ (∀ y ∈ la, y.w) ∧ ∀ y ∈ lb, y.w)) := by have := HR.out; rw [hj] at this; exact this
        clear HR hj
        go_wp2_with (first
          | ((with_reducible refine wpList_allocV (w := wl13) (by with_unfolding_all rfl) 116 (by with_unfolding_all rfl) [.string ⟨#[]⟩, .string ⟨#[]⟩] Tryd.zT_implLabel ?_); intro w25 hA25 hB25 hS25; clear hS25; have HS25 := Sta.new HS13 hA25 hB25 (by simp); clear hA25 hB25)
          | ((with_reducible refine wpList_storeS (w := w25) (by with_unfolding_all rfl) 116 (.tmp 9) (.tmp 44) (by with_unfolding_all rfl) wl13.heap.size [.string ⟨#[]⟩, .string ⟨#[]⟩] [.string ⟨#[]⟩, .string ⟨#[]⟩] (by with_unfolding_all rfl) (by with_unfolding_all rfl) (Sta.r (i := 0) HS25 (by with_unfolding_all rfl)) 2 Tryd.sT_implLabel (by with_unfolding_all rfl) (by with_unfolding_all rfl) (by with_unfolding_all rfl) ?_); intro w26 hA26 hO26; have HS26 := Sta.put 0 HS25 rfl hA26 (by simp) hO26; clear hA26 hO26)
          | (go_at_call 70; have n27_0 : RowV w26 w1.heap.size [.string t, .int .i64 (pb : Int), .bool db] := (Sta.r (i := 2) HS26 rfl :); (with_reducible refine (hC9 w26 pb db w1 n27_0 HPb.out).mono ?_); rintro r w27 ⟨x0, q1, e1, rfl, f5, hA27, hO27⟩; have Hf5 := hidP f5; clear f5; have HS27 := Sta.put 2 HS26 rfl hA27 (by simp) hO27; clear hA27 hO27)
          | ((with_reducible refine wpList_cellS (w := w27) (by with_unfolding_all rfl) 9 (.tmp 47) (.tmp 46) (by with_unfolding_all rfl) wl13.heap.size 0 [.string ⟨#[]⟩, .string ⟨#[]⟩] [.string x0, .string ⟨#[]⟩] (.string x0) (by with_unfolding_all rfl) (by with_unfolding_all rfl) (by with_unfolding_all rfl) Tryd.s1_string (Sta.r (i := 0) HS27 (by with_unfolding_all rfl)) (by simp) (by with_unfolding_all rfl) ?_); intro w28 hA28 hO28; have HS28 := Sta.put 0 HS27 rfl hA28 (by simp) hO28; clear hA28 hO28)
          | (go_at_call 70; have n29_0 : RowV w28 w1.heap.size [.string t, .int .i64 (q1 : Int), .bool e1] := (Sta.r (i := 2) HS28 rfl :); have n29_1 : q1 ≤ t.size := Hf5.out.1; (with_reducible refine (hC10 w28 q1 e1 w1 n29_0 n29_1).mono ?_); rintro r w29 ⟨x1, q2, e2, rfl, f6, hA29, hO29⟩; have Hf6 := hidP f6; clear f6; have HS29 := Sta.put 2 HS28 rfl hA29 (by simp) hO29; clear hA29 hO29)
          | ((with_reducible refine wpList_cellS (w := w29) (by with_unfolding_all rfl) 9 (.tmp 50) (.tmp 49) (by with_unfolding_all rfl) wl13.heap.size 1 [.string x0, .string ⟨#[]⟩] [.string x0, .string x1] (.string x1) (by with_unfolding_all rfl) (by with_unfolding_all rfl) (by with_unfolding_all rfl) Tryd.s1_string (Sta.r (i := 0) HS29 (by with_unfolding_all rfl)) (by simp) (by with_unfolding_all rfl) ?_); intro w30 hA30 hO30; have HS30 := Sta.put 0 HS29 rfl hA30 (by simp) hO30; clear hA30 hO30; have cHS30_1_2 : w30.cell? ⟨w2.heap.size, 2, none⟩ = some (.slice ab nb cb) := Sta.c (i := 1) HS30 rfl rfl)
          | ((with_reducible refine wpList_loadV (w := w30) (by with_unfolding_all rfl) 116 (.tmp 9) (by with_unfolding_all rfl) wl13.heap.size [.string x0, .string x1] (by with_unfolding_all rfl) (Sta.r (i := 0) HS30 (by with_unfolding_all rfl)) Tryd.uT_implLabel 2 Tryd.sT_implLabel (by with_unfolding_all rfl) ?_))
          | ((with_reducible refine wpList_buildLab (w := w30) (by with_unfolding_all rfl) (.tmp 53) (by with_unfolding_all rfl) x0 x1 (by with_unfolding_all rfl) ?_); intro w31 hA31 hB31; have HS31 := Sta.new HS30 hA31 hB31 (by simp [labv]); clear hA31 hB31; clear cHS30_1_2)
          | ((with_reducible refine wpList_appendLab (W := w31) (by with_unfolding_all rfl) (.tmp 52) (.tmp 54) (by with_unfolding_all rfl) w.heap.size (.slice ab nb cb) lb ⟨x0, x1⟩ (by with_unfolding_all rfl) (Sta.t (i := 0) HS31 rfl) w30.heap.size (by with_unfolding_all rfl) (Sta.r (i := 0) HS31 (by with_unfolding_all rfl)) (by have := HLb.out; have := HM20.out; omega) (Sta.size HS31) ?_); intro v32 w32 hO32 hG32 hb32; obtain ⟨a32, m32, c32, hm32, rfl⟩ := LabO.form hO32; have HS32 := Sta.app 0 HS31 rfl (Nat.le_refl _) hO32 hG32 hb32; have Hm32 := hidP hm32; clear hO32 hG32 hb32 hm32)
          | ((with_reducible refine wpList_cellS (w := w32) (by with_unfolding_all rfl) 39 (.tmp 56) (.tmp 55) (by with_unfolding_all rfl) w2.heap.size 2 [.string nm, .slice aa na ca, .slice ab nb cb] [.string nm, .slice aa na ca, .slice a32 m32 c32] (.slice a32 m32 c32) (by with_unfolding_all rfl) (by with_unfolding_all rfl) (by with_unfolding_all rfl) Tryd.s1_slimplLabel (Sta.r (i := 2) HS32 (by with_unfolding_all rfl)) (by simp) (by with_unfolding_all rfl) ?_); intro w33 hA33 hO33; have HS33 := Sta.put 2 HS32 rfl hA33 (by simp) hO33; clear hA33 hO33))
        go_roundw
        case rel => exact ⟨k + 1, q2, e2, a32, m32, c32, (lb ++ ([⟨x0, x1⟩] : List LabV)), by rw [hj2], hlt13, Hf6.out.1, by show _ = _; rw [List.length_append, HLb.out]; rfl, by show StM _ _ _ _; rw [hj2]; exact mq_lab HS'.out HRr.out Hf5.out Hf6.out, Sta.drop 2 0 HS33⟩
        case measure => simp [intOf] <;> omega
    have lk10 : (k : Int) < m := by omega
    have l010 : (0 : Int) ≤ k := by omega
    obtain ⟨j, hj⟩ : ∃ j, m - k = j + 1 := ⟨m - k - 1, by omega⟩
    have hj2 : m - (k + 1) = j := by omega
    have em : ((j + 1 : Nat) : Int) - 1 = (j : Int) := by omega
    have ewj : IntKind.i64.wrap (j : Int) = (j : Int) := by have := HM10.out; simp [IntKind.wrap, IntKind.signed, IntKind.bits]; omega
    have dj : decide ((0 : Int) < ((j + 1 : Nat) : Int)) = true := decide_eq_true (by omega)
    rw [hj]
    have HRr : Hid (StM t da (restLs t nm la (j + 1) pa) (nm.size ≤ maxLen ∧ ∀ y ∈ la, y.w)) := by have := HR.out; rw [hj] at this; exact this
    clear HR hj
    go_wp2_with (first
      | ((with_reducible refine wpList_allocV (w := wl10) (by with_unfolding_all rfl) 85 (by with_unfolding_all rfl) [.string ⟨#[]⟩, .int .i64 0] Tryd.zT_implLayer ?_); intro w34 hA34 hB34 hS34; clear hS34; have HS34 := Sta.new HS10 hA34 hB34 (by simp); clear hA34 hB34)
      | ((with_reducible refine wpList_storeS (w := w34) (by with_unfolding_all rfl) 85 (.tmp 7) (.tmp 25) (by with_unfolding_all rfl) wl10.heap.size [.string ⟨#[]⟩, .int .i64 0] [.string ⟨#[]⟩, .int .i64 0] (by with_unfolding_all rfl) (by with_unfolding_all rfl) (Sta.r (i := 0) HS34 (by with_unfolding_all rfl)) 2 Tryd.sT_implLayer (by with_unfolding_all rfl) (by with_unfolding_all rfl) (by with_unfolding_all rfl) ?_); intro w35 hA35 hO35; have HS35 := Sta.put 0 HS34 rfl hA35 (by simp) hO35; clear hA35 hO35)
      | (go_at_call 72; have n36_0 : RowV w35 w1.heap.size [.string t, .int .i64 (pa : Int), .bool da] := (Sta.r (i := 2) HS35 rfl :); (with_reducible refine (hC11 w35 pa da w1 n36_0 HPa.out).mono ?_); rintro r w36 ⟨x0, q1, e1, rfl, f5, hA36, hO36⟩; have Hf5 := hidP f5; clear f5; have HS36 := Sta.put 2 HS35 rfl hA36 (by simp) hO36; clear hA36 hO36)
      | ((with_reducible refine wpList_cellS (w := w36) (by with_unfolding_all rfl) 9 (.tmp 28) (.tmp 27) (by with_unfolding_all rfl) wl10.heap.size 0 [.string ⟨#[]⟩, .int .i64 0] [.string x0, .int .i64 0] (.string x0) (by with_unfolding_all rfl) (by with_unfolding_all rfl) (by with_unfolding_all rfl) Tryd.s1_string (Sta.r (i := 0) HS36 (by with_unfolding_all rfl)) (by simp) (by with_unfolding_all rfl) ?_); intro w37 hA37 hO37; have HS37 := Sta.put 0 HS36 rfl hA37 (by simp) hO37; clear hA37 hO37)
      | (go_at_call 73; have n38_0 : RowV w37 w1.heap.size [.string t, .int .i64 (q1 : Int), .bool e1] := (Sta.r (i := 2) HS37 rfl :); have n38_1 : q1 ≤ t.size := Hf5.out.1; (with_reducible refine (hC12 w37 q1 e1 w1 n38_0 n38_1).mono ?_); rintro r w38 ⟨x1, q2, e2, rfl, f6, hA38, hO38⟩; have Hf6 := hidP f6; clear f6; have HS38 := Sta.put 2 HS37 rfl hA38 (by simp) hO38; clear hA38 hO38)
      | ((with_reducible refine wpList_cellS (w := w38) (by with_unfolding_all rfl) 2 (.tmp 31) (.tmp 30) (by with_unfolding_all rfl) wl10.heap.size 1 [.string x0, .int .i64 0] [.string x0, .int .i64 x1] (.int .i64 x1) (by with_unfolding_all rfl) (by with_unfolding_all rfl) (by with_unfolding_all rfl) Tryd.s1_int64 (Sta.r (i := 0) HS38 (by with_unfolding_all rfl)) (by simp) (by with_unfolding_all rfl) ?_); intro w39 hA39 hO39; have HS39 := Sta.put 0 HS38 rfl hA39 (by simp) hO39; clear hA39 hO39; have cHS39_1_1 : w39.cell? ⟨w2.heap.size, 1, none⟩ = some (.slice aa na ca) := Sta.c (i := 1) HS39 rfl rfl)
      | ((with_reducible refine wpList_loadV (w := w39) (by with_unfolding_all rfl) 85 (.tmp 7) (by with_unfolding_all rfl) wl10.heap.size [.string x0, .int .i64 x1] (by with_unfolding_all rfl) (Sta.r (i := 0) HS39 (by with_unfolding_all rfl)) Tryd.uT_implLayer 2 Tryd.sT_implLayer (by with_unfolding_all rfl) ?_))
      | ((with_reducible refine wpList_buildLay (w := w39) (by with_unfolding_all rfl) (.tmp 34) (by with_unfolding_all rfl) x0 x1 (by with_unfolding_all rfl) ?_); intro w40 hA40 hB40; have HS40 := Sta.new HS39 hA40 hB40 (by simp [layv]); clear hA40 hB40; clear cHS39_1_1)
      | ((with_reducible refine wpList_appendLay (W := w40) (by with_unfolding_all rfl) (.tmp 33) (.tmp 35) (by with_unfolding_all rfl) w.heap.size (.slice aa na ca) la ⟨x0, x1⟩ (by with_unfolding_all rfl) (Sta.t (i := 0) HS40 rfl) w39.heap.size (by with_unfolding_all rfl) (Sta.r (i := 0) HS40 (by with_unfolding_all rfl)) (by have := HLa.out; have := HM10.out; omega) (Sta.size HS40) ?_); intro v41 w41 hO41 hG41 hb41; obtain ⟨a41, m41, c41, hm41, rfl⟩ := LayO.form hO41; have HS41 := Sta.app 0 HS40 rfl (Nat.le_refl _) hO41 hG41 hb41; have Hm41 := hidP hm41; clear hO41 hG41 hb41 hm41)
      | ((with_reducible refine wpList_cellS (w := w41) (by with_unfolding_all rfl) 38 (.tmp 37) (.tmp 36) (by with_unfolding_all rfl) w2.heap.size 1 [.string nm, .slice aa na ca, .slice none 0 0] [.string nm, .slice a41 m41 c41, .slice none 0 0] (.slice a41 m41 c41) (by with_unfolding_all rfl) (by with_unfolding_all rfl) (by with_unfolding_all rfl) Tryd.s1_slimplLayer (Sta.r (i := 2) HS41 (by with_unfolding_all rfl)) (by simp) (by with_unfolding_all rfl) ?_); intro w42 hA42 hO42; have HS42 := Sta.put 2 HS41 rfl hA42 (by simp) hO42; clear hA42 hO42))
    go_roundw
    case rel => exact ⟨k + 1, q2, e2, a41, m41, c41, (la ++ ([⟨x0, x1⟩] : List LayV)), by rw [hj2], hlt10, Hf6.out.1, by show _ = _; rw [List.length_append, HLa.out]; rfl, by show StM _ _ _ _; rw [hj2]; exact mq_lay HS'.out HRr.out Hf5.out Hf6.out, Sta.drop 2 0 HS42⟩
    case measure => simp [intOf] <;> omega
end Go.Proofs.YtchfpiadfmnphaaDoor
