/- The bytes of manifests, on both sides. -/
import Derived.Test.YtchfpiadfmnphaaMfT
import Derived.Test.YtchfpiadfmnphaaMfI
import Derived.Test.YtchfpiadfmnphaaMfS
namespace Go.Proofs.Ytchfpiadfmnphaa
open Go.RowKit
set_option linter.unusedVariables false

set_option maxRecDepth 100000 in
set_option maxHeartbeats 8000000 in
theorem implManB (nm : ByteArray) (a1 : Option Addr) (c1 y1 : Nat) (ls : List LayV) (a2 : Option Addr) (c2 y2 : Nat) (bs : List LabV) (w : World) (h1 : ls.length = y1) (h2 : LayAt w a1 ls) (h3 : y1 ≤ maxLen) (h4 : ∀ x ∈ ls, x.w) (h5 : bs.length = y2) (h6 : LabAt w a2 bs) (h7 : y2 ≤ maxLen) (h8 : ∀ x ∈ bs, x.w) (h0 : nm.size ≤ maxLen) :
    Calls Try.prog 16 #[.agg #[.string nm, .slice a1 y1 c1, .slice a2 y2 c2]] w fun r w' => r = .returned (.string (manBy nm ls bs)) ∧ Below w.heap.size w w' := by
  have h3' := h3
  have h7' := h7
  unfold maxLen at h3' h7'
  have HN1 := hidP h1
  have HW1 := hidP h4
  have HN2 := hidP h5
  have HW2 := hidP h8
  obtain ⟨R, hR⟩ : ∃ R, manT nm ls bs = R := ⟨_, rfl⟩
  obtain ⟨q0, hq0⟩ : ∃ q, putT nm = q := ⟨_, rfl⟩
  obtain ⟨q1, hq1⟩ : ∃ q, putS (y1 : Int) = q := ⟨_, rfl⟩
  obtain ⟨q2, hq2⟩ : ∃ q, putS (y2 : Int) = q := ⟨_, rfl⟩
  have s0 : q0.size ≤ 20010 := by rw [← hq0]; exact putT_len nm
  have s1 : q1.size ≤ 10 := by rw [← hq1]; exact putS_size _
  have s2 : q2.size ≤ 10 := by rw [← hq2]; exact putS_size _
  obtain ⟨T1, hT1⟩ : ∃ T, (⟨#[73]⟩ : ByteArray) ++ q0 = T := ⟨_, rfl⟩
  have t1 : T1.size ≤ 20011 := by rw [← hT1, ByteArray.size_append]; show 1 + _ ≤ _; omega
  obtain ⟨T2, hT2⟩ : ∃ T, T1 ++ q1 = T := ⟨_, rfl⟩
  have t2 : T2.size ≤ 20021 := by rw [← hT2, ByteArray.size_append]; omega
  have u1 : ¬ 9223372036854775807 < 1 + q0.size := by omega
  have u2 : ¬ 9223372036854775807 < T1.size + q1.size := by omega
  have HR0 : Hid (putLabs (putLays T2 (ls.drop 0) ++ q2) bs = R) := by show _ = _; rw [← hR, ← hT2, ← hT1, ← hq0, ← hq1, ← hq2, ← h1, ← h5]; rfl
  have HRr := hidP hR
  have HQ := hidP (show putT nm = q0 ∧ putS (y1 : Int) = q1 ∧ putS (y2 : Int) = q2 from ⟨hq0, hq1, hq2⟩)
  clear hR hq0 hq1 hq2
  have hC1 : ∀ w0, (LayAt w0 a1 ls) → (LabAt w0 a2 bs) → (boolP (ManOk nm ls bs) = false) → Calls Try.prog 13 #[.agg #[.string nm, .slice a1 y1 c1, .slice a2 y2 c2]] w0 fun r w' => r = .returned (.bool false) ∧ Below w0.heap.size w0 w' := fun w0 n0 n1 n2 => by rw [← n2]; exact implManR nm a1 c1 y1 ls a2 c2 y2 bs w0 h1 n0 h3 h4 h5 n1 h7 h8 h0
  have hC2 : ∀ w0, (LayAt w0 a1 ls) → (LabAt w0 a2 bs) → (boolP (ManOk nm ls bs) = true) → Calls Try.prog 13 #[.agg #[.string nm, .slice a1 y1 c1, .slice a2 y2 c2]] w0 fun r w' => r = .returned (.bool true) ∧ Below w0.heap.size w0 w' := fun w0 n0 n1 n2 => by rw [← n2]; exact implManR nm a1 c1 y1 ls a2 c2 y2 bs w0 h1 n0 h3 h4 h5 n1 h7 h8 h0
  have hC3 : ∀ w0, (putT nm = q0 ∧ putS (y1 : Int) = q1 ∧ putS (y2 : Int) = q2) → Calls Try.prog 53 #[.string nm] w0 fun r w' => r = .returned (.string q0) ∧ Below w0.heap.size w0 w' := fun w0 n0 => by rw [← n0.1]; exact implPutT nm w0 h0
  have hC4 : ∀ w0, (putT nm = q0 ∧ putS (y1 : Int) = q1 ∧ putS (y2 : Int) = q2) → Calls Try.prog 54 #[.int .i64 (y1 : Int)] w0 fun r w' => r = .returned (.string q1) ∧ Below w0.heap.size w0 w' := fun w0 n0 => by rw [← n0.2.1]; exact implPut (y1 : Int) w0 (i64_cnt h3)
  have hC5 : ∀ w0, (putT nm = q0 ∧ putS (y1 : Int) = q1 ∧ putS (y2 : Int) = q2) → Calls Try.prog 54 #[.int .i64 (y2 : Int)] w0 fun r w' => r = .returned (.string q2) ∧ Below w0.heap.size w0 w' := fun w0 n0 => by rw [← n0.2.2]; exact implPut (y2 : Int) w0 (i64_cnt h7)
  have hC6 : ∀ w0 (x0 : ByteArray) (p0 : ByteArray), (x0.size ≤ maxLen) → (putT x0 = p0) → Calls Try.prog 53 #[.string x0] w0 fun r w' => r = .returned (.string p0) ∧ Below w0.heap.size w0 w' := fun w0 x0 p0 n0 n1 => by rw [← n1]; exact implPutT x0 w0 n0
  have hC7 : ∀ w0 (x1 : ByteArray) (p1 : ByteArray), (x1.size ≤ maxLen) → (putT x1 = p1) → Calls Try.prog 53 #[.string x1] w0 fun r w' => r = .returned (.string p1) ∧ Below w0.heap.size w0 w' := fun w0 x1 p1 n0 n1 => by rw [← n1]; exact implPutT x1 w0 n0
  have hC8 : ∀ w0 (x1 : Int) (p1 : ByteArray), (I64 x1) → (putS x1 = p1) → Calls Try.prog 54 #[.int .i64 x1] w0 fun r w' => r = .returned (.string p1) ∧ Below w0.heap.size w0 w' := fun w0 x1 p1 n0 n1 => by rw [← n1]; exact implPut x1 w0 n0
  have HS0 : Hid (Sta [] w [] [⟨fun k => k < w.heap.size, fun w' => LayAt w' a1 ls ∧ LabAt w' a2 bs⟩] w) := Sta.arg (fun w' => LayAt w' a1 ls ∧ LabAt w' a2 bs) (fun w' hb => ⟨h2.below hb, h6.below hb⟩)
  clear h1 h2 h4 h5 h6 h8 h0 h3 h7
  go_enter Try.func16, Try.ntmps16
  cases hd0 : boolP (ManOk nm ls bs)
  · as_aux_lemma =>
    go_wp2_with (first
      | ((with_reducible refine wpList_boxV (w := w) (by with_unfolding_all rfl) 31 (.tmp 0) (by with_unfolding_all rfl) [.string nm, .slice a1 y1 c1, .slice a2 y2 c2] (by with_unfolding_all rfl) ?_); intro w1 hA1 hB1 hS1; clear hS1; have HS1 := Sta.new HS0 hA1 hB1 (by simp); clear hA1 hB1)
      | ((with_reducible refine wpList_loadV (w := w1) (by with_unfolding_all rfl) 31 (.tmp 1) (by with_unfolding_all rfl) w.heap.size [.string nm, .slice a1 y1 c1, .slice a2 y2 c2] (by with_unfolding_all rfl) (Sta.r (i := 0) HS1 (by with_unfolding_all rfl)) Try.uT_implManifest 3 Try.sT_implManifest (by with_unfolding_all rfl) ?_))
      | (go_at_call 13; have n2_0 : LayAt w1 a1 ls := (Sta.t (i := 0) HS1 rfl :).1; have n2_1 : LabAt w1 a2 bs := (Sta.t (i := 0) HS1 rfl :).2; (with_reducible refine (hC1 w1 n2_0 n2_1 hd0).mono ?_); rintro r w2 ⟨rfl, hB2⟩; have HS2 := Sta.call HS1 hB2; clear hB2))
    go_ret
    exact ⟨congrArg (fun b => Ending.returned (Value.string b)) (manBy_no hd0).symm, Sta.fin HS2⟩
  · as_aux_lemma =>
    have HOK := hidP (boolP_of hd0)
    go_wp2_with (first
      | ((with_reducible refine wpList_boxV (w := w) (by with_unfolding_all rfl) 31 (.tmp 0) (by with_unfolding_all rfl) [.string nm, .slice a1 y1 c1, .slice a2 y2 c2] (by with_unfolding_all rfl) ?_); intro w3 hA3 hB3 hS3; clear hS3; have HS3 := Sta.new HS0 hA3 hB3 (by simp); clear hA3 hB3)
      | ((with_reducible refine wpList_loadV (w := w3) (by with_unfolding_all rfl) 31 (.tmp 1) (by with_unfolding_all rfl) w.heap.size [.string nm, .slice a1 y1 c1, .slice a2 y2 c2] (by with_unfolding_all rfl) (Sta.r (i := 0) HS3 (by with_unfolding_all rfl)) Try.uT_implManifest 3 Try.sT_implManifest (by with_unfolding_all rfl) ?_))
      | (go_at_call 13; have n4_0 : LayAt w3 a1 ls := (Sta.t (i := 0) HS3 rfl :).1; have n4_1 : LabAt w3 a2 bs := (Sta.t (i := 0) HS3 rfl :).2; (with_reducible refine (hC2 w3 n4_0 n4_1 hd0).mono ?_); rintro r w4 ⟨rfl, hB4⟩; have HS4 := Sta.call HS3 hB4; clear hB4))
    have HS5 := Sta.drew HS4
    go_region_held3 (fun w' => w'.cell? ⟨w.heap.size, 0, none⟩ = some (.string nm) ∧ w'.cell? ⟨w.heap.size, 1, none⟩ = some (.slice a1 y1 c1) ∧ Hid (Sta [] w [(w.heap.size, [.string nm, .slice a1 y1 c1, .slice a2 y2 c2])] [⟨fun k => k < w.heap.size, fun w' => LayAt w' a1 ls ∧ LabAt w' a2 bs⟩] w'))
      (first | exact ⟨Sta.c (i := 0) (HS5) rfl rfl, Sta.c (i := 0) (HS5) rfl rfl, (HS5)⟩ | exact ⟨Sta.c (i := 0) (Sta.call (HS5) hB6) rfl rfl, Sta.c (i := 0) (Sta.call (HS5) hB6) rfl rfl, (Sta.call (HS5) hB6)⟩ | exact ⟨Sta.c (i := 0) (Sta.call (Sta.call (HS5) hB6) hB7) rfl rfl, Sta.c (i := 0) (Sta.call (Sta.call (HS5) hB6) hB7) rfl rfl, (Sta.call (Sta.call (HS5) hB6) hB7)⟩)
      (first
        | (go_at_call 53; (with_reducible refine (hC3 _ HQ.out).mono ?_); rintro r w6 ⟨rfl, hB6⟩)
        | (go_at_call 54; (with_reducible refine (hC4 _ HQ.out).mono ?_); rintro r w7 ⟨rfl, hB7⟩))
    all_goals
      have HS8 := Sta.call (Sta.call (HS5) hB6) hB7
      have cHS8_0_1 : w7.cell? ⟨w.heap.size, 1, none⟩ = some (.slice a1 y1 c1) := Sta.c (i := 0) HS8 rfl rfl
      go_wp2_with fail
      clear cHS8_0_1
      go_loopw [23, 3] (fun v0 v1 wr => ∃ (k : Nat) (Ta : ByteArray), v0 = .int .i64 (k : Int) ∧ v1 = .string Ta ∧ k ≤ y1 ∧ Hid (Ta.size ≤ 20021 + 42 * k) ∧ Hid (putLabs (putLays Ta (ls.drop k) ++ q2) bs = R) ∧ Hid (Sta [] w [(w.heap.size, [.string nm, .slice a1 y1 c1, .slice a2 y2 c2])] [⟨fun k => k < w.heap.size, fun w' => LayAt w' a1 ls ∧ LabAt w' a2 bs⟩] wr)) (fun v0 v1 _ => y1 - (intOf v0).toNat)
      case atStart => exact ⟨0, T2, rfl, rfl, Nat.zero_le _, t2, HR0.out, HS8⟩
      case round =>
        rename Go.World => wl9
        clear HS8
        obtain ⟨k, Ta, rfl, rfl, hk9, HTs, HT, HS9⟩ := hrel
        by_cases hlt9 : k < y1
        case neg =>
          obtain rfl : y1 = k := by omega
          have HTe : Hid (putLabs (Ta ++ q2) bs = R) := by have := HT.out; rw [putLays_end HN1.out] at this; exact this
          obtain ⟨T3, hT3⟩ : ∃ T, Ta ++ q2 = T := ⟨_, rfl⟩
          have t3 : T3.size ≤ 20500 := by rw [← hT3, ByteArray.size_append]; have := HOK.out.2.1.1; have := HN1.out; have := HTs.out; omega
          have u5 : ¬ 9223372036854775807 < Ta.size + q2.size := by have := HOK.out.2.1.1; have := HN1.out; have := HTs.out; omega
          rw [hT3] at HTe
          have cHS9_0_2 : wl9.cell? ⟨w.heap.size, 2, none⟩ = some (.slice a2 y2 c2) := Sta.c (i := 0) HS9 rfl rfl
          go_wp2_with (first
            | (go_at_call 54; (with_reducible refine (hC5 wl9 HQ.out).mono ?_); rintro r w10 ⟨rfl, hB10⟩; have HS10 := Sta.call HS9 hB10; clear hB10; clear cHS9_0_2; have cHS10_0_2 : w10.cell? ⟨w.heap.size, 2, none⟩ = some (.slice a2 y2 c2) := Sta.c (i := 0) HS10 rfl rfl))
          clear cHS10_0_2
          go_loopw [45, 3] (fun v0 v1 wr => ∃ (k : Nat) (Tb : ByteArray), v0 = .int .i64 (k : Int) ∧ v1 = .string Tb ∧ k ≤ y2 ∧ Hid (Tb.size ≤ 20500 + 40020 * k) ∧ Hid (putLabs Tb (bs.drop k) = R) ∧ Hid (Sta [] w [(w.heap.size, [.string nm, .slice a1 y1 c1, .slice a2 y2 c2])] [⟨fun y1 => y1 < w.heap.size, fun w' => LayAt w' a1 ls ∧ LabAt w' a2 bs⟩] wr)) (fun v0 v1 _ => y2 - (intOf v0).toNat)
          case atStart => exact ⟨0, T3, rfl, rfl, Nat.zero_le _, show _ ≤ _ from by omega, HTe.out, HS10⟩
          case round =>
            rename Go.World => wl11
            clear HS10
            obtain ⟨k, Tb, rfl, rfl, hk11, HTs, HT, HS11⟩ := hrel
            by_cases hlt11 : k < y2
            case neg =>
              obtain rfl : y2 = k := by omega
              have HF : Hid (Tb = R) := by have := HT.out; rw [putLabs_end HN2.out] at this; exact this
              go_wp2_with fail
              go_ret
              exact ⟨congrArg (fun b => Ending.returned (Value.string b)) ((manBy_yes (boolP_yes HOK.out)).trans (HRr.out.trans HF.out.symm)).symm, Sta.fin HS11⟩
            have lk11 : (k : Int) < y2 := by omega
            have l011 : (0 : Int) ≤ k := by omega
            have hTs := HTs.out
            have y20 : y2 ≤ 10 := by have := HOK.out.2.2.1; have := HN2.out; omega
            have hkl : k < bs.length := by have := HN2.out; omega
            obtain ⟨b2, o2, rfl, hz12⟩ := (Sta.t (i := 0) HS11 rfl :).2 k hkl
            clear hz12
            obtain ⟨x0, hx0⟩ : ∃ y, bs[k].ky = y := ⟨_, rfl⟩
            obtain ⟨x1, hx1⟩ : ∃ y, bs[k].vl = y := ⟨_, rfl⟩
            have HS13 := Sta.imp 0 (fun w' => (LayAt w' a1 ls ∧ LabAt w' (some ⟨b2, o2, none⟩) bs) ∧ w'.cell? ⟨b2, o2 + k * 2, none⟩ = some (.string x0) ∧ w'.cell? ⟨b2, o2 + k * 2 + 1, none⟩ = some (.string x1)) HS11 rfl (fun w' h => ⟨h, by rw [← hx0]; exact (LabAt.here h.2 k hkl).1, by rw [← hx1]; exact (LabAt.here h.2 k hkl).2⟩)
            have W0 : Hid (x0.size ≤ maxLen) := by have := (HW2.out bs[k] (List.getElem_mem hkl)).1; rw [hx0] at this; exact this
            have W1 : Hid (x1.size ≤ maxLen) := by have := (HW2.out bs[k] (List.getElem_mem hkl)).2; rw [hx1] at this; exact this
            obtain ⟨p0, hp0⟩ : ∃ q, putT x0 = q := ⟨_, rfl⟩
            have z0 : p0.size ≤ 20010 := by rw [← hp0]; exact putT_len x0
            have HP0 := hidP hp0
            obtain ⟨p1, hp1⟩ : ∃ q, putT x1 = q := ⟨_, rfl⟩
            have z1 : p1.size ≤ 20010 := by rw [← hp1]; exact putT_len x1
            have HP1 := hidP hp1
            obtain ⟨A1, hA1⟩ : ∃ A, p0 ++ p1 = A := ⟨_, rfl⟩
            have v1 : A1.size ≤ 40020 := by rw [← hA1, ByteArray.size_append]; omega
            obtain ⟨A2, hA2⟩ : ∃ A, Tb ++ A1 = A := ⟨_, rfl⟩
            have v2 : A2.size ≤ 20500 + 40020 * (k + 1) := by rw [← hA2, ByteArray.size_append]; omega
            have u3 : ¬ 9223372036854775807 < p0.size + p1.size := by omega
            have u4 : ¬ 9223372036854775807 < Tb.size + A1.size := by omega
            have HTn : Hid (putLabs A2 (bs.drop (k + 1)) = R) := by have := HT.out; rw [putLabs_step hkl hx0 hx1, hp0, hp1, hA1, hA2] at this; exact this
            clear hp0 hp1
            have tcHS13_0_0 : wl11.cell? ⟨b2, o2 + k * 2, none⟩ = some (.string x0) := (Sta.t (i := 0) HS13 rfl :).2.1
            have tcHS13_0_1 : wl11.cell? ⟨b2, o2 + k * 2 + 1, none⟩ = some (.string x1) := (Sta.t (i := 0) HS13 rfl :).2.2
            go_wp2_with (first
              | ((with_reducible refine wpList_allocV (w := wl11) (by with_unfolding_all rfl) 71 (by with_unfolding_all rfl) [.string ⟨#[]⟩, .string ⟨#[]⟩] Try.zT_implLabel ?_); intro w14 hA14 hB14 hS14; clear hS14; have HS14 := Sta.new HS13 hA14 hB14 (by simp); clear hA14 hB14; clear tcHS13_0_0 tcHS13_0_1)
              | ((with_reducible refine wpList_storeS (w := w14) (by with_unfolding_all rfl) 71 (.tmp 7) (.tmp 48) (by with_unfolding_all rfl) wl11.heap.size [.string ⟨#[]⟩, .string ⟨#[]⟩] [.string x0, .string x1] (by with_unfolding_all rfl) (by with_unfolding_all rfl) (Sta.r (i := 0) HS14 (by with_unfolding_all rfl)) 2 Try.sT_implLabel (by with_unfolding_all rfl) (by with_unfolding_all rfl) (by with_unfolding_all rfl) ?_); intro w15 hA15 hO15; have HS15 := Sta.put 0 HS14 rfl hA15 (by simp) hO15; clear hA15 hO15))
            have HS16 := Sta.drew HS15
            go_region_held3 (fun w' => w'.cell? ⟨wl11.heap.size, 0, none⟩ = some (.string x0) ∧ w'.cell? ⟨wl11.heap.size, 1, none⟩ = some (.string x1) ∧ Hid (Sta [] w [(wl11.heap.size, [.string x0, .string x1]), (w.heap.size, [.string nm, .slice a1 y1 c1, .slice (some ⟨b2, o2, none⟩) y2 c2])] [⟨fun y1 => y1 < w.heap.size, fun w' => (LayAt w' a1 ls ∧ LabAt w' (some ⟨b2, o2, none⟩) bs) ∧ w'.cell? ⟨b2, o2 + k * 2, none⟩ = some (.string x0) ∧ w'.cell? ⟨b2, o2 + k * 2 + 1, none⟩ = some (.string x1)⟩] w'))
              (first | exact ⟨Sta.c (i := 0) (HS16) rfl rfl, Sta.c (i := 0) (HS16) rfl rfl, (HS16)⟩ | exact ⟨Sta.c (i := 0) (Sta.call (HS16) hB17) rfl rfl, Sta.c (i := 0) (Sta.call (HS16) hB17) rfl rfl, (Sta.call (HS16) hB17)⟩ | exact ⟨Sta.c (i := 0) (Sta.call (Sta.call (HS16) hB17) hB18) rfl rfl, Sta.c (i := 0) (Sta.call (Sta.call (HS16) hB17) hB18) rfl rfl, (Sta.call (Sta.call (HS16) hB17) hB18)⟩)
              (first
                | (go_at_call 53; (with_reducible refine (hC6 _ x0 p0 W0.out HP0.out).mono ?_); rintro r w17 ⟨rfl, hB17⟩)
                | (go_at_call 53; (with_reducible refine (hC7 _ x1 p1 W1.out HP1.out).mono ?_); rintro r w18 ⟨rfl, hB18⟩))
            all_goals
              have HS19 := Sta.call (Sta.call (HS16) hB17) hB18
              go_wp2_with fail
              have HS20 := Sta.imp 0 (fun w' => LayAt w' a1 ls ∧ LabAt w' (some ⟨b2, o2, none⟩) bs) HS19 rfl (fun w' h => h.1)
              go_roundw
              case rel => exact ⟨k + 1, A2, by go_num, rfl, hlt11, v2, HTn.out, Sta.drop 1 0 HS20⟩
              case measure => simp [intOf]; omega
        have lk9 : (k : Int) < y1 := by omega
        have l09 : (0 : Int) ≤ k := by omega
        have hTs := HTs.out
        have y10 : y1 ≤ 10 := by have := HOK.out.2.1.1; have := HN1.out; omega
        have hkl : k < ls.length := by have := HN1.out; omega
        obtain ⟨b1, o1, rfl, hz21⟩ := (Sta.t (i := 0) HS9 rfl :).1 k hkl
        clear hz21
        obtain ⟨x0, hx0⟩ : ∃ y, ls[k].bl = y := ⟨_, rfl⟩
        obtain ⟨x1, hx1⟩ : ∃ y, ls[k].sz = y := ⟨_, rfl⟩
        have HS22 := Sta.imp 0 (fun w' => (LayAt w' (some ⟨b1, o1, none⟩) ls ∧ LabAt w' a2 bs) ∧ w'.cell? ⟨b1, o1 + k * 2, none⟩ = some (.string x0) ∧ w'.cell? ⟨b1, o1 + k * 2 + 1, none⟩ = some (.int .i64 x1)) HS9 rfl (fun w' h => ⟨h, by rw [← hx0]; exact (LayAt.here h.1 k hkl).1, by rw [← hx1]; exact (LayAt.here h.1 k hkl).2⟩)
        have W1 : Hid (I64 x1) := by have := (HW1.out ls[k] (List.getElem_mem hkl)).2; rw [hx1] at this; exact this
        have z0 : x0.size ≤ 32 := by have := (HOK.out.2.1.2 k hkl).1; rw [hx0] at this; exact Nat.le_of_eq this
        obtain ⟨p1, hp1⟩ : ∃ q, putS x1 = q := ⟨_, rfl⟩
        have z1 : p1.size ≤ 10 := by rw [← hp1]; exact putS_size x1
        have HP1 := hidP hp1
        obtain ⟨A1, hA1⟩ : ∃ A, x0 ++ p1 = A := ⟨_, rfl⟩
        have v1 : A1.size ≤ 42 := by rw [← hA1, ByteArray.size_append]; omega
        obtain ⟨A2, hA2⟩ : ∃ A, Ta ++ A1 = A := ⟨_, rfl⟩
        have v2 : A2.size ≤ 20021 + 42 * (k + 1) := by rw [← hA2, ByteArray.size_append]; omega
        have u3 : ¬ 9223372036854775807 < x0.size + p1.size := by omega
        have u4 : ¬ 9223372036854775807 < Ta.size + A1.size := by omega
        have HTn : Hid (putLabs (putLays A2 (ls.drop (k + 1)) ++ q2) bs = R) := by have := HT.out; rw [putLays_step hkl hx0 hx1, hp1, hA1, hA2] at this; exact this
        clear hp1
        have tcHS22_0_0 : wl9.cell? ⟨b1, o1 + k * 2, none⟩ = some (.string x0) := (Sta.t (i := 0) HS22 rfl :).2.1
        have tcHS22_0_1 : wl9.cell? ⟨b1, o1 + k * 2 + 1, none⟩ = some (.int .i64 x1) := (Sta.t (i := 0) HS22 rfl :).2.2
        go_wp2_with (first
          | ((with_reducible refine wpList_allocV (w := wl9) (by with_unfolding_all rfl) 69 (by with_unfolding_all rfl) [.string ⟨#[]⟩, .int .i64 0] Try.zT_implLayer ?_); intro w23 hA23 hB23 hS23; clear hS23; have HS23 := Sta.new HS22 hA23 hB23 (by simp); clear hA23 hB23; clear tcHS22_0_0 tcHS22_0_1)
          | ((with_reducible refine wpList_storeS (w := w23) (by with_unfolding_all rfl) 69 (.tmp 5) (.tmp 26) (by with_unfolding_all rfl) wl9.heap.size [.string ⟨#[]⟩, .int .i64 0] [.string x0, .int .i64 x1] (by with_unfolding_all rfl) (by with_unfolding_all rfl) (Sta.r (i := 0) HS23 (by with_unfolding_all rfl)) 2 Try.sT_implLayer (by with_unfolding_all rfl) (by with_unfolding_all rfl) (by with_unfolding_all rfl) ?_); intro w24 hA24 hO24; have HS24 := Sta.put 0 HS23 rfl hA24 (by simp) hO24; clear hA24 hO24))
        have HS25 := Sta.drew HS24
        go_region_held3 (fun w' => w'.cell? ⟨wl9.heap.size, 0, none⟩ = some (.string x0) ∧ w'.cell? ⟨wl9.heap.size, 1, none⟩ = some (.int .i64 x1) ∧ Hid (Sta [] w [(wl9.heap.size, [.string x0, .int .i64 x1]), (w.heap.size, [.string nm, .slice (some ⟨b1, o1, none⟩) y1 c1, .slice a2 y2 c2])] [⟨fun k => k < w.heap.size, fun w' => (LayAt w' (some ⟨b1, o1, none⟩) ls ∧ LabAt w' a2 bs) ∧ w'.cell? ⟨b1, o1 + k * 2, none⟩ = some (.string x0) ∧ w'.cell? ⟨b1, o1 + k * 2 + 1, none⟩ = some (.int .i64 x1)⟩] w'))
          (first | exact ⟨Sta.c (i := 0) (HS25) rfl rfl, Sta.c (i := 0) (HS25) rfl rfl, (HS25)⟩ | exact ⟨Sta.c (i := 0) (Sta.call (HS25) hB26) rfl rfl, Sta.c (i := 0) (Sta.call (HS25) hB26) rfl rfl, (Sta.call (HS25) hB26)⟩)
          (first
            | (go_at_call 54; (with_reducible refine (hC8 _ x1 p1 W1.out HP1.out).mono ?_); rintro r w26 ⟨rfl, hB26⟩))
        all_goals
          have HS27 := Sta.call (HS25) hB26
          go_wp2_with fail
          have HS28 := Sta.imp 0 (fun w' => LayAt w' (some ⟨b1, o1, none⟩) ls ∧ LabAt w' a2 bs) HS27 rfl (fun w' h => h.1)
          go_roundw
          case rel => exact ⟨k + 1, A2, by go_num, rfl, hlt9, v2, HTn.out, Sta.drop 1 0 HS28⟩
          case measure => simp [intOf]; omega
set_option maxRecDepth 100000 in
set_option maxHeartbeats 8000000 in
theorem specManB (nm : ByteArray) (a1 : Option Addr) (c1 y1 : Nat) (ls : List LayV) (a2 : Option Addr) (c2 y2 : Nat) (bs : List LabV) (w : World) (h1 : ls.length = y1) (h2 : LayAt w a1 ls) (h3 : y1 ≤ maxLen) (h4 : ∀ x ∈ ls, x.w) (h5 : bs.length = y2) (h6 : LabAt w a2 bs) (h7 : y2 ≤ maxLen) (h8 : ∀ x ∈ bs, x.w) (h0 : nm.size ≤ maxLen) :
    Calls Try.prog 15 #[.agg #[.string nm, .slice a1 y1 c1, .slice a2 y2 c2]] w fun r w' => r = .returned (.string (manBy nm ls bs)) ∧ Below w.heap.size w w' := by
  have h3' := h3
  have h7' := h7
  unfold maxLen at h3' h7'
  have HN1 := hidP h1
  have HW1 := hidP h4
  have HN2 := hidP h5
  have HW2 := hidP h8
  obtain ⟨R, hR⟩ : ∃ R, manT nm ls bs = R := ⟨_, rfl⟩
  obtain ⟨q0, hq0⟩ : ∃ q, putT nm = q := ⟨_, rfl⟩
  obtain ⟨q1, hq1⟩ : ∃ q, putS (y1 : Int) = q := ⟨_, rfl⟩
  obtain ⟨q2, hq2⟩ : ∃ q, putS (y2 : Int) = q := ⟨_, rfl⟩
  have s0 : q0.size ≤ 20010 := by rw [← hq0]; exact putT_len nm
  have s1 : q1.size ≤ 10 := by rw [← hq1]; exact putS_size _
  have s2 : q2.size ≤ 10 := by rw [← hq2]; exact putS_size _
  obtain ⟨T1, hT1⟩ : ∃ T, (⟨#[73]⟩ : ByteArray) ++ q0 = T := ⟨_, rfl⟩
  have t1 : T1.size ≤ 20011 := by rw [← hT1, ByteArray.size_append]; show 1 + _ ≤ _; omega
  obtain ⟨T2, hT2⟩ : ∃ T, T1 ++ q1 = T := ⟨_, rfl⟩
  have t2 : T2.size ≤ 20021 := by rw [← hT2, ByteArray.size_append]; omega
  have u1 : ¬ 9223372036854775807 < 1 + q0.size := by omega
  have u2 : ¬ 9223372036854775807 < T1.size + q1.size := by omega
  have HR0 : Hid (putLabs (putLays T2 (ls.drop 0) ++ q2) bs = R) := by show _ = _; rw [← hR, ← hT2, ← hT1, ← hq0, ← hq1, ← hq2, ← h1, ← h5]; rfl
  have HRr := hidP hR
  have HQ := hidP (show putT nm = q0 ∧ putS (y1 : Int) = q1 ∧ putS (y2 : Int) = q2 from ⟨hq0, hq1, hq2⟩)
  clear hR hq0 hq1 hq2
  have hC1 : ∀ w0, (LayAt w0 a1 ls) → (LabAt w0 a2 bs) → (boolP (ManOk nm ls bs) = false) → Calls Try.prog 11 #[.agg #[.string nm, .slice a1 y1 c1, .slice a2 y2 c2]] w0 fun r w' => r = .returned (.bool false) ∧ Below w0.heap.size w0 w' := fun w0 n0 n1 n2 => by rw [← n2]; exact specManR nm a1 c1 y1 ls a2 c2 y2 bs w0 h1 n0 h3 h4 h5 n1 h7 h8 h0
  have hC2 : ∀ w0, (LayAt w0 a1 ls) → (LabAt w0 a2 bs) → (boolP (ManOk nm ls bs) = true) → Calls Try.prog 11 #[.agg #[.string nm, .slice a1 y1 c1, .slice a2 y2 c2]] w0 fun r w' => r = .returned (.bool true) ∧ Below w0.heap.size w0 w' := fun w0 n0 n1 n2 => by rw [← n2]; exact specManR nm a1 c1 y1 ls a2 c2 y2 bs w0 h1 n0 h3 h4 h5 n1 h7 h8 h0
  have hC3 : ∀ w0, (putT nm = q0 ∧ putS (y1 : Int) = q1 ∧ putS (y2 : Int) = q2) → Calls Try.prog 51 #[.string nm] w0 fun r w' => r = .returned (.string q0) ∧ Below w0.heap.size w0 w' := fun w0 n0 => by rw [← n0.1]; exact specPutT nm w0 h0
  have hC4 : ∀ w0, (putT nm = q0 ∧ putS (y1 : Int) = q1 ∧ putS (y2 : Int) = q2) → Calls Try.prog 52 #[.int .i64 (y1 : Int)] w0 fun r w' => r = .returned (.string q1) ∧ Below w0.heap.size w0 w' := fun w0 n0 => by rw [← n0.2.1]; exact specPut (y1 : Int) w0 (i64_cnt h3)
  have hC5 : ∀ w0, (putT nm = q0 ∧ putS (y1 : Int) = q1 ∧ putS (y2 : Int) = q2) → Calls Try.prog 52 #[.int .i64 (y2 : Int)] w0 fun r w' => r = .returned (.string q2) ∧ Below w0.heap.size w0 w' := fun w0 n0 => by rw [← n0.2.2]; exact specPut (y2 : Int) w0 (i64_cnt h7)
  have hC6 : ∀ w0 (x0 : ByteArray) (p0 : ByteArray), (x0.size ≤ maxLen) → (putT x0 = p0) → Calls Try.prog 51 #[.string x0] w0 fun r w' => r = .returned (.string p0) ∧ Below w0.heap.size w0 w' := fun w0 x0 p0 n0 n1 => by rw [← n1]; exact specPutT x0 w0 n0
  have hC7 : ∀ w0 (x1 : ByteArray) (p1 : ByteArray), (x1.size ≤ maxLen) → (putT x1 = p1) → Calls Try.prog 51 #[.string x1] w0 fun r w' => r = .returned (.string p1) ∧ Below w0.heap.size w0 w' := fun w0 x1 p1 n0 n1 => by rw [← n1]; exact specPutT x1 w0 n0
  have hC8 : ∀ w0 (x1 : Int) (p1 : ByteArray), (I64 x1) → (putS x1 = p1) → Calls Try.prog 52 #[.int .i64 x1] w0 fun r w' => r = .returned (.string p1) ∧ Below w0.heap.size w0 w' := fun w0 x1 p1 n0 n1 => by rw [← n1]; exact specPut x1 w0 n0
  have HS0 : Hid (Sta [] w [] [⟨fun k => k < w.heap.size, fun w' => LayAt w' a1 ls ∧ LabAt w' a2 bs⟩] w) := Sta.arg (fun w' => LayAt w' a1 ls ∧ LabAt w' a2 bs) (fun w' hb => ⟨h2.below hb, h6.below hb⟩)
  clear h1 h2 h4 h5 h6 h8 h0 h3 h7
  go_enter Try.func15, Try.ntmps15
  cases hd0 : boolP (ManOk nm ls bs)
  · as_aux_lemma =>
    go_wp2_with (first
      | ((with_reducible refine wpList_boxV (w := w) (by with_unfolding_all rfl) 31 (.tmp 0) (by with_unfolding_all rfl) [.string nm, .slice a1 y1 c1, .slice a2 y2 c2] (by with_unfolding_all rfl) ?_); intro w1 hA1 hB1 hS1; clear hS1; have HS1 := Sta.new HS0 hA1 hB1 (by simp); clear hA1 hB1)
      | ((with_reducible refine wpList_loadV (w := w1) (by with_unfolding_all rfl) 31 (.tmp 1) (by with_unfolding_all rfl) w.heap.size [.string nm, .slice a1 y1 c1, .slice a2 y2 c2] (by with_unfolding_all rfl) (Sta.r (i := 0) HS1 (by with_unfolding_all rfl)) Try.uT_implManifest 3 Try.sT_implManifest (by with_unfolding_all rfl) ?_))
      | (go_at_call 11; have n2_0 : LayAt w1 a1 ls := (Sta.t (i := 0) HS1 rfl :).1; have n2_1 : LabAt w1 a2 bs := (Sta.t (i := 0) HS1 rfl :).2; (with_reducible refine (hC1 w1 n2_0 n2_1 hd0).mono ?_); rintro r w2 ⟨rfl, hB2⟩; have HS2 := Sta.call HS1 hB2; clear hB2))
    go_ret
    exact ⟨congrArg (fun b => Ending.returned (Value.string b)) (manBy_no hd0).symm, Sta.fin HS2⟩
  · as_aux_lemma =>
    have HOK := hidP (boolP_of hd0)
    go_wp2_with (first
      | ((with_reducible refine wpList_boxV (w := w) (by with_unfolding_all rfl) 31 (.tmp 0) (by with_unfolding_all rfl) [.string nm, .slice a1 y1 c1, .slice a2 y2 c2] (by with_unfolding_all rfl) ?_); intro w3 hA3 hB3 hS3; clear hS3; have HS3 := Sta.new HS0 hA3 hB3 (by simp); clear hA3 hB3)
      | ((with_reducible refine wpList_loadV (w := w3) (by with_unfolding_all rfl) 31 (.tmp 1) (by with_unfolding_all rfl) w.heap.size [.string nm, .slice a1 y1 c1, .slice a2 y2 c2] (by with_unfolding_all rfl) (Sta.r (i := 0) HS3 (by with_unfolding_all rfl)) Try.uT_implManifest 3 Try.sT_implManifest (by with_unfolding_all rfl) ?_))
      | (go_at_call 11; have n4_0 : LayAt w3 a1 ls := (Sta.t (i := 0) HS3 rfl :).1; have n4_1 : LabAt w3 a2 bs := (Sta.t (i := 0) HS3 rfl :).2; (with_reducible refine (hC2 w3 n4_0 n4_1 hd0).mono ?_); rintro r w4 ⟨rfl, hB4⟩; have HS4 := Sta.call HS3 hB4; clear hB4))
    have HS5 := Sta.drew HS4
    go_region_held3 (fun w' => w'.cell? ⟨w.heap.size, 0, none⟩ = some (.string nm) ∧ w'.cell? ⟨w.heap.size, 1, none⟩ = some (.slice a1 y1 c1) ∧ Hid (Sta [] w [(w.heap.size, [.string nm, .slice a1 y1 c1, .slice a2 y2 c2])] [⟨fun k => k < w.heap.size, fun w' => LayAt w' a1 ls ∧ LabAt w' a2 bs⟩] w'))
      (first | exact ⟨Sta.c (i := 0) (HS5) rfl rfl, Sta.c (i := 0) (HS5) rfl rfl, (HS5)⟩ | exact ⟨Sta.c (i := 0) (Sta.call (HS5) hB6) rfl rfl, Sta.c (i := 0) (Sta.call (HS5) hB6) rfl rfl, (Sta.call (HS5) hB6)⟩ | exact ⟨Sta.c (i := 0) (Sta.call (Sta.call (HS5) hB6) hB7) rfl rfl, Sta.c (i := 0) (Sta.call (Sta.call (HS5) hB6) hB7) rfl rfl, (Sta.call (Sta.call (HS5) hB6) hB7)⟩)
      (first
        | (go_at_call 51; (with_reducible refine (hC3 _ HQ.out).mono ?_); rintro r w6 ⟨rfl, hB6⟩)
        | (go_at_call 52; (with_reducible refine (hC4 _ HQ.out).mono ?_); rintro r w7 ⟨rfl, hB7⟩))
    all_goals
      have HS8 := Sta.call (Sta.call (HS5) hB6) hB7
      go_wp2_with fail
      go_loopw [4, 3] (fun v0 v1 wr => ∃ (k : Nat) (Ta : ByteArray), v0 = .int .i64 (k : Int) ∧ v1 = .string Ta ∧ k ≤ y1 ∧ Hid (Ta.size ≤ 20021 + 42 * k) ∧ Hid (putLabs (putLays Ta (ls.drop k) ++ q2) bs = R) ∧ Hid (Sta [] w [(w.heap.size, [.string nm, .slice a1 y1 c1, .slice a2 y2 c2])] [⟨fun k => k < w.heap.size, fun w' => LayAt w' a1 ls ∧ LabAt w' a2 bs⟩] wr)) (fun v0 v1 _ => y1 - (intOf v0).toNat)
      case atStart => exact ⟨0, T2, rfl, rfl, Nat.zero_le _, t2, HR0.out, HS8⟩
      case round =>
        rename Go.World => wl9
        clear HS8
        obtain ⟨k, Ta, rfl, rfl, hk9, HTs, HT, HS9⟩ := hrel
        by_cases hlt9 : k < y1
        case neg =>
          obtain rfl : y1 = k := by omega
          have HTe : Hid (putLabs (Ta ++ q2) bs = R) := by have := HT.out; rw [putLays_end HN1.out] at this; exact this
          obtain ⟨T3, hT3⟩ : ∃ T, Ta ++ q2 = T := ⟨_, rfl⟩
          have t3 : T3.size ≤ 20500 := by rw [← hT3, ByteArray.size_append]; have := HOK.out.2.1.1; have := HN1.out; have := HTs.out; omega
          have u5 : ¬ 9223372036854775807 < Ta.size + q2.size := by have := HOK.out.2.1.1; have := HN1.out; have := HTs.out; omega
          rw [hT3] at HTe
          have cHS9_0_1 : wl9.cell? ⟨w.heap.size, 1, none⟩ = some (.slice a1 y1 c1) := Sta.c (i := 0) HS9 rfl rfl
          have cHS9_0_2 : wl9.cell? ⟨w.heap.size, 2, none⟩ = some (.slice a2 y2 c2) := Sta.c (i := 0) HS9 rfl rfl
          go_wp2_with (first
            | (go_at_call 52; (with_reducible refine (hC5 wl9 HQ.out).mono ?_); rintro r w10 ⟨rfl, hB10⟩; have HS10 := Sta.call HS9 hB10; clear hB10; clear cHS9_0_1 cHS9_0_2))
          go_loopw [5, 3] (fun v0 v1 wr => ∃ (k : Nat) (Tb : ByteArray), v0 = .int .i64 (k : Int) ∧ v1 = .string Tb ∧ k ≤ y2 ∧ Hid (Tb.size ≤ 20500 + 40020 * k) ∧ Hid (putLabs Tb (bs.drop k) = R) ∧ Hid (Sta [] w [(w.heap.size, [.string nm, .slice a1 y1 c1, .slice a2 y2 c2])] [⟨fun y1 => y1 < w.heap.size, fun w' => LayAt w' a1 ls ∧ LabAt w' a2 bs⟩] wr)) (fun v0 v1 _ => y2 - (intOf v0).toNat)
          case atStart => exact ⟨0, T3, rfl, rfl, Nat.zero_le _, show _ ≤ _ from by omega, HTe.out, HS10⟩
          case round =>
            rename Go.World => wl11
            clear HS10
            obtain ⟨k, Tb, rfl, rfl, hk11, HTs, HT, HS11⟩ := hrel
            by_cases hlt11 : k < y2
            case neg =>
              obtain rfl : y2 = k := by omega
              have HF : Hid (Tb = R) := by have := HT.out; rw [putLabs_end HN2.out] at this; exact this
              have cHS11_0_2 : wl11.cell? ⟨w.heap.size, 2, none⟩ = some (.slice a2 y2 c2) := Sta.c (i := 0) HS11 rfl rfl
              go_wp2_with fail
              go_ret
              exact ⟨congrArg (fun b => Ending.returned (Value.string b)) ((manBy_yes (boolP_yes HOK.out)).trans (HRr.out.trans HF.out.symm)).symm, Sta.fin HS11⟩
            have lk11 : (k : Int) < y2 := by omega
            have l011 : (0 : Int) ≤ k := by omega
            have hTs := HTs.out
            have y20 : y2 ≤ 10 := by have := HOK.out.2.2.1; have := HN2.out; omega
            have hkl : k < bs.length := by have := HN2.out; omega
            obtain ⟨b2, o2, rfl, hz12⟩ := (Sta.t (i := 0) HS11 rfl :).2 k hkl
            clear hz12
            obtain ⟨x0, hx0⟩ : ∃ y, bs[k].ky = y := ⟨_, rfl⟩
            obtain ⟨x1, hx1⟩ : ∃ y, bs[k].vl = y := ⟨_, rfl⟩
            have HS13 := Sta.imp 0 (fun w' => (LayAt w' a1 ls ∧ LabAt w' (some ⟨b2, o2, none⟩) bs) ∧ w'.cell? ⟨b2, o2 + k * 2, none⟩ = some (.string x0) ∧ w'.cell? ⟨b2, o2 + k * 2 + 1, none⟩ = some (.string x1)) HS11 rfl (fun w' h => ⟨h, by rw [← hx0]; exact (LabAt.here h.2 k hkl).1, by rw [← hx1]; exact (LabAt.here h.2 k hkl).2⟩)
            have W0 : Hid (x0.size ≤ maxLen) := by have := (HW2.out bs[k] (List.getElem_mem hkl)).1; rw [hx0] at this; exact this
            have W1 : Hid (x1.size ≤ maxLen) := by have := (HW2.out bs[k] (List.getElem_mem hkl)).2; rw [hx1] at this; exact this
            obtain ⟨p0, hp0⟩ : ∃ q, putT x0 = q := ⟨_, rfl⟩
            have z0 : p0.size ≤ 20010 := by rw [← hp0]; exact putT_len x0
            have HP0 := hidP hp0
            obtain ⟨p1, hp1⟩ : ∃ q, putT x1 = q := ⟨_, rfl⟩
            have z1 : p1.size ≤ 20010 := by rw [← hp1]; exact putT_len x1
            have HP1 := hidP hp1
            obtain ⟨A1, hA1⟩ : ∃ A, Tb ++ p0 = A := ⟨_, rfl⟩
            have v1 : A1.size ≤ 20500 + 40020 * k + 20010 := by rw [← hA1, ByteArray.size_append]; omega
            obtain ⟨A2, hA2⟩ : ∃ A, A1 ++ p1 = A := ⟨_, rfl⟩
            have v2 : A2.size ≤ 20500 + 40020 * (k + 1) := by rw [← hA2, ByteArray.size_append]; omega
            have u3 : ¬ 9223372036854775807 < Tb.size + p0.size := by omega
            have u4 : ¬ 9223372036854775807 < A1.size + p1.size := by omega
            have HTn : Hid (putLabs A2 (bs.drop (k + 1)) = R) := by have := HT.out; rw [putLabs_step hkl hx0 hx1, hp0, hp1, ← ByteArray.append_assoc, hA1, hA2] at this; exact this
            clear hp0 hp1
            have cHS13_0_2 : wl11.cell? ⟨w.heap.size, 2, none⟩ = some (.slice (some ⟨b2, o2, none⟩) y2 c2) := Sta.c (i := 0) HS13 rfl rfl
            go_wp2_with fail
            have HS14 := Sta.drew HS13
            clear cHS13_0_2
            go_region_held3 (fun w' => w'.cell? ⟨w.heap.size, 2, none⟩ = some (.slice (some ⟨b2, o2, none⟩) y2 c2) ∧ w'.cell? ⟨b2, o2 + k * 2, none⟩ = some (.string x0) ∧ w'.cell? ⟨b2, o2 + k * 2 + 1, none⟩ = some (.string x1) ∧ Hid (Sta [] w [(w.heap.size, [.string nm, .slice a1 y1 c1, .slice (some ⟨b2, o2, none⟩) y2 c2])] [⟨fun y1 => y1 < w.heap.size, fun w' => (LayAt w' a1 ls ∧ LabAt w' (some ⟨b2, o2, none⟩) bs) ∧ w'.cell? ⟨b2, o2 + k * 2, none⟩ = some (.string x0) ∧ w'.cell? ⟨b2, o2 + k * 2 + 1, none⟩ = some (.string x1)⟩] w'))
              (first | exact ⟨Sta.c (i := 0) (HS14) rfl rfl, (Sta.t (i := 0) (HS14) rfl :).2.1, (Sta.t (i := 0) (HS14) rfl :).2.2, (HS14)⟩ | exact ⟨Sta.c (i := 0) (Sta.call (HS14) hB15) rfl rfl, (Sta.t (i := 0) (Sta.call (HS14) hB15) rfl :).2.1, (Sta.t (i := 0) (Sta.call (HS14) hB15) rfl :).2.2, (Sta.call (HS14) hB15)⟩ | exact ⟨Sta.c (i := 0) (Sta.call (Sta.call (HS14) hB15) hB16) rfl rfl, (Sta.t (i := 0) (Sta.call (Sta.call (HS14) hB15) hB16) rfl :).2.1, (Sta.t (i := 0) (Sta.call (Sta.call (HS14) hB15) hB16) rfl :).2.2, (Sta.call (Sta.call (HS14) hB15) hB16)⟩)
              (first
                | (go_at_call 51; (with_reducible refine (hC6 _ x0 p0 W0.out HP0.out).mono ?_); rintro r w15 ⟨rfl, hB15⟩)
                | (go_at_call 51; (with_reducible refine (hC7 _ x1 p1 W1.out HP1.out).mono ?_); rintro r w16 ⟨rfl, hB16⟩))
            all_goals
              have HS17 := Sta.call (Sta.call (HS14) hB15) hB16
              go_wp2_with fail
              have HS18 := Sta.imp 0 (fun w' => LayAt w' a1 ls ∧ LabAt w' (some ⟨b2, o2, none⟩) bs) HS17 rfl (fun w' h => h.1)
              go_roundw
              case rel => exact ⟨k + 1, A2, by go_num, rfl, hlt11, v2, HTn.out, HS18⟩
              case measure => simp [intOf]; omega
        have lk9 : (k : Int) < y1 := by omega
        have l09 : (0 : Int) ≤ k := by omega
        have hTs := HTs.out
        have y10 : y1 ≤ 10 := by have := HOK.out.2.1.1; have := HN1.out; omega
        have hkl : k < ls.length := by have := HN1.out; omega
        obtain ⟨b1, o1, rfl, hz19⟩ := (Sta.t (i := 0) HS9 rfl :).1 k hkl
        clear hz19
        obtain ⟨x0, hx0⟩ : ∃ y, ls[k].bl = y := ⟨_, rfl⟩
        obtain ⟨x1, hx1⟩ : ∃ y, ls[k].sz = y := ⟨_, rfl⟩
        have HS20 := Sta.imp 0 (fun w' => (LayAt w' (some ⟨b1, o1, none⟩) ls ∧ LabAt w' a2 bs) ∧ w'.cell? ⟨b1, o1 + k * 2, none⟩ = some (.string x0) ∧ w'.cell? ⟨b1, o1 + k * 2 + 1, none⟩ = some (.int .i64 x1)) HS9 rfl (fun w' h => ⟨h, by rw [← hx0]; exact (LayAt.here h.1 k hkl).1, by rw [← hx1]; exact (LayAt.here h.1 k hkl).2⟩)
        have W1 : Hid (I64 x1) := by have := (HW1.out ls[k] (List.getElem_mem hkl)).2; rw [hx1] at this; exact this
        have z0 : x0.size ≤ 32 := by have := (HOK.out.2.1.2 k hkl).1; rw [hx0] at this; exact Nat.le_of_eq this
        obtain ⟨p1, hp1⟩ : ∃ q, putS x1 = q := ⟨_, rfl⟩
        have z1 : p1.size ≤ 10 := by rw [← hp1]; exact putS_size x1
        have HP1 := hidP hp1
        obtain ⟨A1, hA1⟩ : ∃ A, Ta ++ x0 = A := ⟨_, rfl⟩
        have v1 : A1.size ≤ 20021 + 42 * k + 32 := by rw [← hA1, ByteArray.size_append]; omega
        obtain ⟨A2, hA2⟩ : ∃ A, A1 ++ p1 = A := ⟨_, rfl⟩
        have v2 : A2.size ≤ 20021 + 42 * (k + 1) := by rw [← hA2, ByteArray.size_append]; omega
        have u3 : ¬ 9223372036854775807 < Ta.size + x0.size := by omega
        have u4 : ¬ 9223372036854775807 < A1.size + p1.size := by omega
        have HTn : Hid (putLabs (putLays A2 (ls.drop (k + 1)) ++ q2) bs = R) := by have := HT.out; rw [putLays_step hkl hx0 hx1, hp1, ← ByteArray.append_assoc, hA1, hA2] at this; exact this
        clear hp1
        have cHS20_0_1 : wl9.cell? ⟨w.heap.size, 1, none⟩ = some (.slice (some ⟨b1, o1, none⟩) y1 c1) := Sta.c (i := 0) HS20 rfl rfl
        go_wp2_with fail
        have HS21 := Sta.drew HS20
        clear cHS20_0_1
        go_region_held3 (fun w' => w'.cell? ⟨w.heap.size, 1, none⟩ = some (.slice (some ⟨b1, o1, none⟩) y1 c1) ∧ w'.cell? ⟨b1, o1 + k * 2, none⟩ = some (.string x0) ∧ w'.cell? ⟨b1, o1 + k * 2 + 1, none⟩ = some (.int .i64 x1) ∧ Hid (Sta [] w [(w.heap.size, [.string nm, .slice (some ⟨b1, o1, none⟩) y1 c1, .slice a2 y2 c2])] [⟨fun k => k < w.heap.size, fun w' => (LayAt w' (some ⟨b1, o1, none⟩) ls ∧ LabAt w' a2 bs) ∧ w'.cell? ⟨b1, o1 + k * 2, none⟩ = some (.string x0) ∧ w'.cell? ⟨b1, o1 + k * 2 + 1, none⟩ = some (.int .i64 x1)⟩] w'))
          (first | exact ⟨Sta.c (i := 0) (HS21) rfl rfl, (Sta.t (i := 0) (HS21) rfl :).2.1, (Sta.t (i := 0) (HS21) rfl :).2.2, (HS21)⟩ | exact ⟨Sta.c (i := 0) (Sta.call (HS21) hB22) rfl rfl, (Sta.t (i := 0) (Sta.call (HS21) hB22) rfl :).2.1, (Sta.t (i := 0) (Sta.call (HS21) hB22) rfl :).2.2, (Sta.call (HS21) hB22)⟩)
          (first
            | (go_at_call 52; (with_reducible refine (hC8 _ x1 p1 W1.out HP1.out).mono ?_); rintro r w22 ⟨rfl, hB22⟩))
        all_goals
          have HS23 := Sta.call (HS21) hB22
          go_wp2_with fail
          have HS24 := Sta.imp 0 (fun w' => LayAt w' (some ⟨b1, o1, none⟩) ls ∧ LabAt w' a2 bs) HS23 rfl (fun w' h => h.1)
          go_roundw
          case rel => exact ⟨k + 1, A2, by go_num, rfl, hlt9, v2, HTn.out, HS24⟩
          case measure => simp [intOf]; omega
end Go.Proofs.Ytchfpiadfmnphaa
