/- Manifests in the laws' helpers: their room, turned to the program's, held against others. -/
import Derived.Test.YtchfpiadfmnphaaMfM
namespace Go.Proofs.Ytchfpiadfmnphaa
open Go.RowKit
set_option linter.unusedVariables false

theorem Made.and {w0 w' : World} {P Q : World → Prop} (h : Made w0 w' P) (k : Made w0 w' Q) : Made w0 w' (fun w => P w ∧ Q w) := fun w2 hw => ⟨h w2 hw, k w2 hw⟩
set_option maxRecDepth 100000 in
set_option maxHeartbeats 4000000 in
theorem szMan (nm : ByteArray) (a1 : Option Addr) (c1 y1 : Nat) (ls : List LayV) (a2 : Option Addr) (c2 y2 : Nat) (bs : List LabV) (w : World) (h1 : ls.length = y1) (h2 : LayAt w a1 ls) (h3 : y1 ≤ maxLen) (h4 : ∀ x ∈ ls, x.w) (h5 : bs.length = y2) (h6 : LabAt w a2 bs) (h7 : y2 ≤ maxLen) (h8 : ∀ x ∈ bs, x.w) (h0 : nm.size ≤ maxLen) :
    Calls Try.prog 10 #[.agg #[.string nm, .slice a1 y1 c1, .slice a2 y2 c2], .int .i64 1048576] w fun r w' => ∃ z : Int, r = .returned (.int .i64 z) ∧ (0 ≤ z → y1 ≤ 1048576 ∧ y2 ≤ 1048576) ∧ Below w.heap.size w w' := by
  unfold maxLen at h3 h7
  have HN1 := hidP h1
  have HW1 := hidP h4
  have HN2 := hidP h5
  have HW2 := hidP h8
  have H0 := hidP h0
  have HM1 : Hid (y1 ≤ maxLen) := h3
  have HM2 : Hid (y2 ≤ maxLen) := h7
  have H0i : nm.size ≤ 2 ^ 63 - 1 := h0
  obtain ⟨d, hd⟩ : ∃ d : Int, 1048576 - (nm.size : Int) = d := ⟨_, rfl⟩
  have hdd : d ≤ 1048576 := by omega
  have hC1 : ∀ w0, (LayAt w0 a1 ls) → (0 ≤ d) → Calls Try.prog 40 #[.slice a1 y1 c1, .int .i64 d] w0 fun r w' => ∃ (z1 : Int), r = .returned (.int .i64 z1) ∧ (z1 ≤ 1048576 ∧ (0 ≤ z1 → y1 ≤ 1048576)) ∧ Below w0.heap.size w0 w' := fun w0 n0 n1 => (szLayS a1 c1 y1 ls d w0 h1 n0 h3 h4 n1 hdd).mono fun r w' ⟨⟨z, e1, e2, e3⟩, e4⟩ => ⟨z, e1, ⟨e2, e3⟩, e4⟩
  have hC2 : ∀ w0 (z1 : Int), (LabAt w0 a2 bs) → (0 ≤ z1) → (z1 ≤ 1048576 ∧ (0 ≤ z1 → y1 ≤ 1048576)) → Calls Try.prog 41 #[.slice a2 y2 c2, .int .i64 z1] w0 fun r w' => ∃ (z2 : Int), r = .returned (.int .i64 z2) ∧ (z2 ≤ 1048576 ∧ (0 ≤ z2 → y2 ≤ 1048576)) ∧ Below w0.heap.size w0 w' := fun w0 z1 n0 n1 n2 => (szLabS a2 c2 y2 bs z1 w0 h5 n0 h7 h8 n1 n2.1).mono fun r w' ⟨⟨z, e1, e2, e3⟩, e4⟩ => ⟨z, e1, ⟨e2, e3⟩, e4⟩
  have HS0 : Hid (Sta [] w [] [⟨fun k => k < w.heap.size, fun w' => LayAt w' a1 ls ∧ LabAt w' a2 bs⟩] w) := Sta.arg (fun w' => LayAt w' a1 ls ∧ LabAt w' a2 bs) (fun w' hb => ⟨h2.below hb, h6.below hb⟩)
  clear h1 h2 h4 h5 h6 h8 h0
  go_enter Try.func10, Try.ntmps10
  by_cases hdn : d < 0
  · as_aux_lemma =>
    go_wp2_with (first
      | ((with_reducible refine wpList_boxV (w := w) (by with_unfolding_all rfl) 25 (.tmp 0) (by with_unfolding_all rfl) [.string nm, .slice a1 y1 c1, .slice a2 y2 c2] (by with_unfolding_all rfl) ?_); intro w1 hA1 hB1 hS1; clear hS1; have HS1 := Sta.new HS0 hA1 hB1 (by simp); clear hA1 hB1; have cHS1_0_0 : w1.cell? ⟨w.heap.size, 0, none⟩ = some (.string nm) := Sta.c (i := 0) HS1 rfl rfl))
    go_ret
    exact ⟨_, rfl, fun h => absurd h (by omega), Sta.fin HS1⟩
  · have hd0 : 0 ≤ d := by omega
    go_wp2_with (first
      | ((with_reducible refine wpList_boxV (w := w) (by with_unfolding_all rfl) 25 (.tmp 0) (by with_unfolding_all rfl) [.string nm, .slice a1 y1 c1, .slice a2 y2 c2] (by with_unfolding_all rfl) ?_); intro w2 hA2 hB2 hS2; clear hS2; have HS2 := Sta.new HS0 hA2 hB2 (by simp); clear hA2 hB2; have cHS2_0_0 : w2.cell? ⟨w.heap.size, 0, none⟩ = some (.string nm) := Sta.c (i := 0) HS2 rfl rfl; have cHS2_0_1 : w2.cell? ⟨w.heap.size, 1, none⟩ = some (.slice a1 y1 c1) := Sta.c (i := 0) HS2 rfl rfl))
    have n3_0 : LayAt w2 a1 ls := (Sta.t (i := 0) HS2 rfl :).1
    refine (hC1 w2 n3_0 hd0).mono ?_
    rintro r w3 ⟨z1, rfl, p1, hB3⟩
    have Hp1 := hidP p1
    clear p1
    have HS3 := Sta.call HS2 hB3
    clear hB3
    clear cHS2_0_0 cHS2_0_1
    by_cases hz1 : z1 < 0
    · as_aux_lemma =>
      go_wp2_with fail
      go_ret
      exact ⟨_, rfl, fun h => absurd h (by omega), Sta.fin HS3⟩
    have hz1' : 0 ≤ z1 := by omega
    have cHS3_0_2 : w3.cell? ⟨w.heap.size, 2, none⟩ = some (.slice a2 y2 c2) := Sta.c (i := 0) HS3 rfl rfl
    go_wp2_with fail
    have n4_0 : LabAt w3 a2 bs := (Sta.t (i := 0) HS3 rfl :).2
    refine (hC2 w3 z1 n4_0 hz1' Hp1.out).mono ?_
    rintro r w4 ⟨z2, rfl, p2, hB4⟩
    have Hp2 := hidP p2
    clear p2
    have HS4 := Sta.call HS3 hB4
    clear hB4
    clear cHS3_0_2
    by_cases hz2 : z2 < 0
    · as_aux_lemma =>
      go_wp2_with fail
      go_ret
      exact ⟨_, rfl, fun h => absurd h (by omega), Sta.fin HS4⟩
    have hz2' : 0 ≤ z2 := by omega
    go_wp2_with fail
    go_ret
    exact ⟨_, rfl, fun h => ⟨Hp1.out.2 hz1', Hp2.out.2 hz2'⟩, Sta.fin HS4⟩
set_option maxRecDepth 100000 in
set_option maxHeartbeats 4000000 in
theorem toManM (nm : ByteArray) (a1 : Option Addr) (c1 y1 : Nat) (ls : List LayV) (a2 : Option Addr) (c2 y2 : Nat) (bs : List LabV) (w : World) (h1 : ls.length = y1) (h2 : LayAt w a1 ls) (h3 : y1 ≤ 1048576) (h5 : bs.length = y2) (h6 : LabAt w a2 bs) (h7 : y2 ≤ 1048576) :
    Calls Try.prog 12 #[.agg #[.string nm, .slice a1 y1 c1, .slice a2 y2 c2]] w fun r w' => ∃ (g1 g2 : Nat), r = .returned (.agg #[.string nm, .slice (some ⟨g1, 0, none⟩) y1 y1, .slice (some ⟨g2, 0, none⟩) y2 y2]) ∧ Made w w' (fun w2 => RowV w2 g1 (layL ls).flatten ∧ RowV w2 g2 (labL bs).flatten) ∧ Below w.heap.size w w' := by
  have hC1 : ∀ w0, (LayAt w0 a1 ls) → Calls Try.prog 44 #[.slice a1 y1 c1] w0 fun r w' => ∃ (g1 : Nat), r = .returned (.slice (some ⟨g1, 0, none⟩) y1 y1) ∧ (w0.heap.size ≤ g1 ∧ g1 < w'.heap.size) ∧ Made w0 w' (fun w2 => RowV w2 g1 (layL ls).flatten) ∧ Below w0.heap.size w0 w' := fun w0 n0 => toLayM a1 c1 y1 ls w0 h1 n0 h3
  have hC2 : ∀ w0, (LabAt w0 a2 bs) → Calls Try.prog 45 #[.slice a2 y2 c2] w0 fun r w' => ∃ (g2 : Nat), r = .returned (.slice (some ⟨g2, 0, none⟩) y2 y2) ∧ (w0.heap.size ≤ g2 ∧ g2 < w'.heap.size) ∧ Made w0 w' (fun w2 => RowV w2 g2 (labL bs).flatten) ∧ Below w0.heap.size w0 w' := fun w0 n0 => toLabM a2 c2 y2 bs w0 h5 n0 h7
  have HS0 : Hid (Sta [] w [] [⟨fun k => k < w.heap.size, fun w' => LayAt w' a1 ls ∧ LabAt w' a2 bs⟩] w) := Sta.arg (fun w' => LayAt w' a1 ls ∧ LabAt w' a2 bs) (fun w' hb => ⟨h2.below hb, h6.below hb⟩)
  clear h1 h2 h5 h6
  go_enter Try.func12, Try.ntmps12
  go_wp2_with (first
    | ((with_reducible refine wpList_boxV (w := w) (by with_unfolding_all rfl) 25 (.tmp 0) (by with_unfolding_all rfl) [.string nm, .slice a1 y1 c1, .slice a2 y2 c2] (by with_unfolding_all rfl) ?_); intro w1 hA1 hB1 hS1; clear hS1; have HS1 := Sta.new HS0 hA1 hB1 (by simp); clear hA1 hB1)
    | ((with_reducible refine wpList_allocV (w := w1) (by with_unfolding_all rfl) 31 (by with_unfolding_all rfl) [.string ⟨#[]⟩, .slice none 0 0, .slice none 0 0] Try.zT_implManifest ?_); intro w2 hA2 hB2 hS2; clear hS2; have HS2 := Sta.new HS1 hA2 hB2 (by simp); clear hA2 hB2)
    | ((with_reducible refine wpList_allocV (w := w2) (by with_unfolding_all rfl) 31 (by with_unfolding_all rfl) [.string ⟨#[]⟩, .slice none 0 0, .slice none 0 0] Try.zT_implManifest ?_); intro w3 hA3 hB3 hS3; clear hS3; have HS3 := Sta.new HS2 hA3 hB3 (by simp); clear hA3 hB3; have cHS3_2_0 : w3.cell? ⟨w.heap.size, 0, none⟩ = some (.string nm) := Sta.c (i := 2) HS3 rfl rfl)
    | ((with_reducible refine wpList_cellS (w := w3) (by with_unfolding_all rfl) 9 (.tmp 6) (.tmp 5) (by with_unfolding_all rfl) w2.heap.size 0 [.string ⟨#[]⟩, .slice none 0 0, .slice none 0 0] [.string nm, .slice none 0 0, .slice none 0 0] (.string nm) (by with_unfolding_all rfl) (by with_unfolding_all rfl) (by with_unfolding_all rfl) Try.s1_string (Sta.r (i := 0) HS3 (by with_unfolding_all rfl)) (by simp) (by with_unfolding_all rfl) ?_); intro w4 hA4 hO4; have HS4 := Sta.put 0 HS3 rfl hA4 (by simp) hO4; clear hA4 hO4; clear cHS3_2_0; have cHS4_2_1 : w4.cell? ⟨w.heap.size, 1, none⟩ = some (.slice a1 y1 c1) := Sta.c (i := 2) HS4 rfl rfl)
    | (go_at_call 44; have n5_0 : LayAt w4 a1 ls := (Sta.t (i := 0) HS4 rfl :).1; (with_reducible refine (hC1 w4 n5_0).mono ?_); rintro r w5 ⟨g1, rfl, q1, hP5, hB5⟩; have Hq1 := hidP q1; clear q1; have HS5 := Sta.made HS4 hB5 hP5; clear hB5 hP5; clear cHS4_2_1)
    | ((with_reducible refine wpList_cellS (w := w5) (by with_unfolding_all rfl) 28 (.tmp 10) (.tmp 9) (by with_unfolding_all rfl) w2.heap.size 1 [.string nm, .slice none 0 0, .slice none 0 0] [.string nm, .slice (some ⟨g1, 0, none⟩) y1 y1, .slice none 0 0] (.slice (some ⟨g1, 0, none⟩) y1 y1) (by with_unfolding_all rfl) (by with_unfolding_all rfl) (by with_unfolding_all rfl) Try.s1_slimplLayer (Sta.r (i := 0) HS5 (by with_unfolding_all rfl)) (by simp) (by with_unfolding_all rfl) ?_); intro w6 hA6 hO6; have HS6 := Sta.put 0 HS5 rfl hA6 (by simp) hO6; clear hA6 hO6; have cHS6_2_2 : w6.cell? ⟨w.heap.size, 2, none⟩ = some (.slice a2 y2 c2) := Sta.c (i := 2) HS6 rfl rfl)
    | (go_at_call 45; have n7_0 : LabAt w6 a2 bs := (Sta.t (i := 1) HS6 rfl :).2; (with_reducible refine (hC2 w6 n7_0).mono ?_); rintro r w7 ⟨g2, rfl, q2, hP7, hB7⟩; have Hq2 := hidP q2; clear q2; have HS7 := Sta.made HS6 hB7 hP7; clear hB7 hP7; clear cHS6_2_2)
    | ((with_reducible refine wpList_cellS (w := w7) (by with_unfolding_all rfl) 29 (.tmp 14) (.tmp 13) (by with_unfolding_all rfl) w2.heap.size 2 [.string nm, .slice (some ⟨g1, 0, none⟩) y1 y1, .slice none 0 0] [.string nm, .slice (some ⟨g1, 0, none⟩) y1 y1, .slice (some ⟨g2, 0, none⟩) y2 y2] (.slice (some ⟨g2, 0, none⟩) y2 y2) (by with_unfolding_all rfl) (by with_unfolding_all rfl) (by with_unfolding_all rfl) Try.s1_slimplLabel (Sta.r (i := 0) HS7 (by with_unfolding_all rfl)) (by simp) (by with_unfolding_all rfl) ?_); intro w8 hA8 hO8; have HS8 := Sta.put 0 HS7 rfl hA8 (by simp) hO8; clear hA8 hO8)
    | ((with_reducible refine wpList_loadV (w := w8) (by with_unfolding_all rfl) 31 (.tmp 3) (by with_unfolding_all rfl) w2.heap.size [.string nm, .slice (some ⟨g1, 0, none⟩) y1 y1, .slice (some ⟨g2, 0, none⟩) y2 y2] (by with_unfolding_all rfl) (Sta.r (i := 0) HS8 (by with_unfolding_all rfl)) Try.uT_implManifest 3 Try.sT_implManifest (by with_unfolding_all rfl) ?_))
    | ((with_reducible refine wpList_storeS (w := w8) (by with_unfolding_all rfl) 31 (.tmp 2) (.tmp 15) (by with_unfolding_all rfl) w1.heap.size [.string ⟨#[]⟩, .slice none 0 0, .slice none 0 0] [.string nm, .slice (some ⟨g1, 0, none⟩) y1 y1, .slice (some ⟨g2, 0, none⟩) y2 y2] (by with_unfolding_all rfl) (by with_unfolding_all rfl) (Sta.r (i := 1) HS8 (by with_unfolding_all rfl)) 3 Try.sT_implManifest (by with_unfolding_all rfl) (by with_unfolding_all rfl) (by with_unfolding_all rfl) ?_); intro w9 hA9 hO9; have HS9 := Sta.put 1 HS8 rfl hA9 (by simp) hO9; clear hA9 hO9))
  exact bodyPost_ret (results_V (t := 31) rfl _ w1.heap.size [.string nm, .slice (some ⟨g1, 0, none⟩) y1 y1, .slice (some ⟨g2, 0, none⟩) y2 y2] rfl (Sta.r (i := 1) HS9 (by with_unfolding_all rfl)) Try.uT_implManifest 3 Try.sT_implManifest rfl) rfl ⟨g1, g2, rfl, Made.and (Sta.made_of (i := 1) HS9 rfl (fun k hk => Nat.le_trans (Sta.size HS4) hk.1)) (Sta.made_of (i := 0) HS9 rfl (fun k hk => Nat.le_trans (Sta.size HS6) hk.1)), Sta.fin HS9⟩
set_option maxRecDepth 100000 in
set_option maxHeartbeats 2000000 in
theorem eqMan (nm : ByteArray) (a1 b1 : Option Addr) (c1 d1 y1 : Nat) (ls : List LayV) (a2 b2 : Option Addr) (c2 d2 y2 : Nat) (bs : List LabV) (w : World) (h1 : ls.length = y1) (h2 : LayAt w a1 ls) (h2b : LayAt w b1 ls) (h3 : y1 ≤ maxLen) (h5 : bs.length = y2) (h6 : LabAt w a2 bs) (h6b : LabAt w b2 bs) (h7 : y2 ≤ maxLen) :
    Calls Try.prog 14 #[.agg #[.string nm, .slice a1 y1 c1, .slice a2 y2 c2], .agg #[.string nm, .slice b1 y1 d1, .slice b2 y2 d2]] w fun r w' => r = .returned (.bool true) ∧ Below w.heap.size w w' := by
  have ht := txt_eq nm
  have hC1 : ∀ w0, (LayAt w0 a1 ls) → (LayAt w0 b1 ls) → Calls Try.prog 49 #[.slice a1 y1 c1, .slice b1 y1 d1] w0 fun r w' => r = .returned (.bool true) ∧ Below w0.heap.size w0 w' := fun w0 n0 n1 => eqLayS a1 b1 c1 d1 y1 ls w0 h1 n0 n1 h3
  have hC2 : ∀ w0, (LabAt w0 a2 bs) → (LabAt w0 b2 bs) → Calls Try.prog 50 #[.slice a2 y2 c2, .slice b2 y2 d2] w0 fun r w' => r = .returned (.bool true) ∧ Below w0.heap.size w0 w' := fun w0 n0 n1 => eqLabS a2 b2 c2 d2 y2 bs w0 h5 n0 n1 h7
  have HS0 : Hid (Sta [] w [] [⟨fun k => k < w.heap.size, fun w' => LayAt w' a1 ls ∧ LayAt w' b1 ls ∧ LabAt w' a2 bs ∧ LabAt w' b2 bs⟩] w) := Sta.arg (fun w' => LayAt w' a1 ls ∧ LayAt w' b1 ls ∧ LabAt w' a2 bs ∧ LabAt w' b2 bs) (fun w' hb => ⟨h2.below hb, h2b.below hb, h6.below hb, h6b.below hb⟩)
  clear h1 h2 h2b h5 h6 h6b
  go_enter Try.func14, Try.ntmps14
  go_wp2_with (first
    | ((with_reducible refine wpList_boxV (w := w) (by with_unfolding_all rfl) 31 (.tmp 0) (by with_unfolding_all rfl) [.string nm, .slice a1 y1 c1, .slice a2 y2 c2] (by with_unfolding_all rfl) ?_); intro w1 hA1 hB1 hS1; clear hS1; have HS1 := Sta.new HS0 hA1 hB1 (by simp); clear hA1 hB1)
    | ((with_reducible refine wpList_boxV (w := w1) (by with_unfolding_all rfl) 31 (.tmp 1) (by with_unfolding_all rfl) [.string nm, .slice b1 y1 d1, .slice b2 y2 d2] (by with_unfolding_all rfl) ?_); intro w2 hA2 hB2 hS2; clear hS2; have HS2 := Sta.new HS1 hA2 hB2 (by simp); clear hA2 hB2; have cHS2_1_0 : w2.cell? ⟨w.heap.size, 0, none⟩ = some (.string nm) := Sta.c (i := 1) HS2 rfl rfl; have cHS2_0_0 : w2.cell? ⟨w1.heap.size, 0, none⟩ = some (.string nm) := Sta.c (i := 0) HS2 rfl rfl; have cHS2_1_1 : w2.cell? ⟨w.heap.size, 1, none⟩ = some (.slice a1 y1 c1) := Sta.c (i := 1) HS2 rfl rfl; have cHS2_0_1 : w2.cell? ⟨w1.heap.size, 1, none⟩ = some (.slice b1 y1 d1) := Sta.c (i := 0) HS2 rfl rfl)
    | (go_at_call 49; have n3_0 : LayAt w2 a1 ls := (Sta.t (i := 0) HS2 rfl :).1; have n3_1 : LayAt w2 b1 ls := (Sta.t (i := 0) HS2 rfl :).2.1; (with_reducible refine (hC1 w2 n3_0 n3_1).mono ?_); rintro r w3 ⟨rfl, hB3⟩; have HS3 := Sta.call HS2 hB3; clear hB3; clear cHS2_1_0 cHS2_0_0 cHS2_1_1 cHS2_0_1; have cHS3_1_2 : w3.cell? ⟨w.heap.size, 2, none⟩ = some (.slice a2 y2 c2) := Sta.c (i := 1) HS3 rfl rfl; have cHS3_0_2 : w3.cell? ⟨w1.heap.size, 2, none⟩ = some (.slice b2 y2 d2) := Sta.c (i := 0) HS3 rfl rfl)
    | (go_at_call 50; have n4_0 : LabAt w3 a2 bs := (Sta.t (i := 0) HS3 rfl :).2.2.1; have n4_1 : LabAt w3 b2 bs := (Sta.t (i := 0) HS3 rfl :).2.2.2; (with_reducible refine (hC2 w3 n4_0 n4_1).mono ?_); rintro r w4 ⟨rfl, hB4⟩; have HS4 := Sta.call HS3 hB4; clear hB4; clear cHS3_1_2 cHS3_0_2))
  go_ret
  exact ⟨rfl, Sta.fin HS4⟩
end Go.Proofs.Ytchfpiadfmnphaa
