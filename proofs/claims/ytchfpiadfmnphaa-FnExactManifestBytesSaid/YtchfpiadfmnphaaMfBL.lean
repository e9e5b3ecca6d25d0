/- The law FnExactManifestBytes, walked. -/
import Derived.Test.YtchfpiadfmnphaaMfP
import Derived.Test.YtchfpiadfmnphaaMfH
namespace Go.Proofs.Ytchfpiadfmnphaa
open Go.RowKit
set_option linter.unusedVariables false

set_option maxRecDepth 100000 in
set_option maxHeartbeats 8000000 in
theorem lawManB (nm : ByteArray) (a1 : Option Addr) (c1 y1 : Nat) (ls : List LayV) (a2 : Option Addr) (c2 y2 : Nat) (bs : List LabV) (w : World) (h1 : ls.length = y1) (h2 : LayAt w a1 ls) (h3 : y1 ≤ maxLen) (h4 : ∀ x ∈ ls, x.w) (h5 : bs.length = y2) (h6 : LabAt w a2 bs) (h7 : y2 ≤ maxLen) (h8 : ∀ x ∈ bs, x.w) (h0 : nm.size ≤ maxLen) :
    Calls Try.prog 4 #[.agg #[.string nm, .slice a1 y1 c1, .slice a2 y2 c2]] w fun r w' => r = .returned (.bool true) ∧ Below w.heap.size w w' := by
  have hbb : ∀ b : Bool, (b != b) = false := fun b => by simp
  have htx := txt_eq (manBy nm ls bs)
  have hC1 : ∀ w0, (LayAt w0 a1 ls) → (LabAt w0 a2 bs) → Calls Try.prog 10 #[.agg #[.string nm, .slice a1 y1 c1, .slice a2 y2 c2], .int .i64 1048576] w0 fun r w' => ∃ (z : Int), r = .returned (.int .i64 z) ∧ (0 ≤ z → y1 ≤ 1048576 ∧ y2 ≤ 1048576) ∧ Below w0.heap.size w0 w' := fun w0 n0 n1 => (szMan nm a1 c1 y1 ls a2 c2 y2 bs w0 h1 n0 h3 h4 h5 n1 h7 h8 h0)
  have hC2 : ∀ w0 (z : Int), (LayAt w0 a1 ls) → (LabAt w0 a2 bs) → (0 ≤ z) → (0 ≤ z → y1 ≤ 1048576 ∧ y2 ≤ 1048576) → Calls Try.prog 12 #[.agg #[.string nm, .slice a1 y1 c1, .slice a2 y2 c2]] w0 fun r w' => ∃ (ga0 : Nat) (gb0 : Nat), r = .returned (.agg #[.string nm, .slice (some ⟨ga0, 0, none⟩) y1 y1, .slice (some ⟨gb0, 0, none⟩) y2 y2]) ∧ Made w0 w' (fun w2 => RowV w2 ga0 (layL ls).flatten ∧ RowV w2 gb0 (labL bs).flatten) ∧ Below w0.heap.size w0 w' := fun w0 z n0 n1 n2 n3 => toManM nm a1 c1 y1 ls a2 c2 y2 bs w0 h1 n0 (n3 n2).1 h5 n1 (n3 n2).2
  have hC3 : ∀ w0 (ga0 : Nat) (gb0 : Nat), (RowV w0 ga0 (layL ls).flatten ∧ RowV w0 gb0 (labL bs).flatten) → Calls Try.prog 15 #[.agg #[.string nm, .slice (some ⟨ga0, 0, none⟩) y1 y1, .slice (some ⟨gb0, 0, none⟩) y2 y2]] w0 fun r w' => r = .returned (.string (manBy nm ls bs)) ∧ Below w0.heap.size w0 w' := fun w0 ga0 gb0 n0 => specManB nm (some ⟨ga0, 0, none⟩) y1 y1 ls (some ⟨gb0, 0, none⟩) y2 y2 bs w0 h1 n0.1.lay h3 h4 h5 n0.2.lab h7 h8 h0
  have hC4 : ∀ w0 (z : Int), (LayAt w0 a1 ls) → (LabAt w0 a2 bs) → (0 ≤ z) → (0 ≤ z → y1 ≤ 1048576 ∧ y2 ≤ 1048576) → Calls Try.prog 12 #[.agg #[.string nm, .slice a1 y1 c1, .slice a2 y2 c2]] w0 fun r w' => ∃ (ga1 : Nat) (gb1 : Nat), r = .returned (.agg #[.string nm, .slice (some ⟨ga1, 0, none⟩) y1 y1, .slice (some ⟨gb1, 0, none⟩) y2 y2]) ∧ Made w0 w' (fun w2 => RowV w2 ga1 (layL ls).flatten ∧ RowV w2 gb1 (labL bs).flatten) ∧ Below w0.heap.size w0 w' := fun w0 z n0 n1 n2 n3 => toManM nm a1 c1 y1 ls a2 c2 y2 bs w0 h1 n0 (n3 n2).1 h5 n1 (n3 n2).2
  have hC5 : ∀ w0 (ga1 : Nat) (gb1 : Nat), (RowV w0 ga1 (layL ls).flatten ∧ RowV w0 gb1 (labL bs).flatten) → Calls Try.prog 16 #[.agg #[.string nm, .slice (some ⟨ga1, 0, none⟩) y1 y1, .slice (some ⟨gb1, 0, none⟩) y2 y2]] w0 fun r w' => r = .returned (.string (manBy nm ls bs)) ∧ Below w0.heap.size w0 w' := fun w0 ga1 gb1 n0 => implManB nm (some ⟨ga1, 0, none⟩) y1 y1 ls (some ⟨gb1, 0, none⟩) y2 y2 bs w0 h1 n0.1.lay h3 h4 h5 n0.2.lab h7 h8 h0
  have hC6 : ∀ w0 (z : Int), (LayAt w0 a1 ls) → (LabAt w0 a2 bs) → (0 ≤ z) → (0 ≤ z → y1 ≤ 1048576 ∧ y2 ≤ 1048576) → Calls Try.prog 12 #[.agg #[.string nm, .slice a1 y1 c1, .slice a2 y2 c2]] w0 fun r w' => ∃ (ga2 : Nat) (gb2 : Nat), r = .returned (.agg #[.string nm, .slice (some ⟨ga2, 0, none⟩) y1 y1, .slice (some ⟨gb2, 0, none⟩) y2 y2]) ∧ Made w0 w' (fun w2 => RowV w2 ga2 (layL ls).flatten ∧ RowV w2 gb2 (labL bs).flatten) ∧ Below w0.heap.size w0 w' := fun w0 z n0 n1 n2 n3 => toManM nm a1 c1 y1 ls a2 c2 y2 bs w0 h1 n0 (n3 n2).1 h5 n1 (n3 n2).2
  have hC7 : ∀ w0 (ga1 : Nat) (gb1 : Nat) (ga2 : Nat) (gb2 : Nat), (RowV w0 ga1 (layL ls).flatten ∧ RowV w0 gb1 (labL bs).flatten) → (RowV w0 ga2 (layL ls).flatten ∧ RowV w0 gb2 (labL bs).flatten) → Calls Try.prog 14 #[.agg #[.string nm, .slice (some ⟨ga1, 0, none⟩) y1 y1, .slice (some ⟨gb1, 0, none⟩) y2 y2], .agg #[.string nm, .slice (some ⟨ga2, 0, none⟩) y1 y1, .slice (some ⟨gb2, 0, none⟩) y2 y2]] w0 fun r w' => r = .returned (.bool true) ∧ Below w0.heap.size w0 w' := fun w0 ga1 gb1 ga2 gb2 n0 n1 => eqMan nm (some ⟨ga1, 0, none⟩) (some ⟨ga2, 0, none⟩) y1 y1 y1 ls (some ⟨gb1, 0, none⟩) (some ⟨gb2, 0, none⟩) y2 y2 y2 bs w0 h1 n0.1.lay n1.1.lay h3 h5 n0.2.lab n1.2.lab h7
  have HS0 : Hid (Sta [] w [] [⟨fun k => k < w.heap.size, fun w' => LayAt w' a1 ls ∧ LabAt w' a2 bs⟩] w) := Sta.arg (fun w' => LayAt w' a1 ls ∧ LabAt w' a2 bs) (fun w' hb => ⟨h2.below hb, h6.below hb⟩)
  clear h1 h2 h4 h5 h6 h8 h0
  go_enter Try.func4, Try.ntmps4
  go_wp2_with (first
    | ((with_reducible refine wpList_boxV (w := w) (by with_unfolding_all rfl) 25 (.tmp 0) (by with_unfolding_all rfl) [.string nm, .slice a1 y1 c1, .slice a2 y2 c2] (by with_unfolding_all rfl) ?_); intro w1 hA1 hB1 hS1; clear hS1; have HS1 := Sta.new HS0 hA1 hB1 (by simp); clear hA1 hB1)
    | ((with_reducible refine wpList_loadV (w := w1) (by with_unfolding_all rfl) 25 (.tmp 1) (by with_unfolding_all rfl) w.heap.size [.string nm, .slice a1 y1 c1, .slice a2 y2 c2] (by with_unfolding_all rfl) (Sta.r (i := 0) HS1 (by with_unfolding_all rfl)) Try.uT_lawsManifest 3 Try.sT_lawsManifest (by with_unfolding_all rfl) ?_)))
  have n2_0 : LayAt w1 a1 ls := (Sta.t (i := 0) HS1 rfl :).1
  have n2_1 : LabAt w1 a2 bs := (Sta.t (i := 0) HS1 rfl :).2
  refine (hC1 w1 n2_0 n2_1).mono ?_
  rintro r w2 ⟨z, rfl, p, hB2⟩
  have Hp := hidP p
  clear p
  have HS2 := Sta.call HS1 hB2
  clear hB2
  by_cases hz : z < 0
  · as_aux_lemma =>
    go_wp2_with fail
    go_ret
    exact ⟨rfl, Sta.fin HS2⟩
  have hz' : 0 ≤ z := by omega
  go_wp2_with (first
    | ((with_reducible refine wpList_loadV (w := w2) (by with_unfolding_all rfl) 25 (.tmp 1) (by with_unfolding_all rfl) w.heap.size [.string nm, .slice a1 y1 c1, .slice a2 y2 c2] (by with_unfolding_all rfl) (Sta.r (i := 0) HS2 (by with_unfolding_all rfl)) Try.uT_lawsManifest 3 Try.sT_lawsManifest (by with_unfolding_all rfl) ?_))
    | (go_at_call 12; have n3_0 : LayAt w2 a1 ls := (Sta.t (i := 0) HS2 rfl :).1; have n3_1 : LabAt w2 a2 bs := (Sta.t (i := 0) HS2 rfl :).2; (with_reducible refine (hC2 w2 z n3_0 n3_1 hz' Hp.out).mono ?_); rintro r w3 ⟨ga0, gb0, rfl, hP3, hB3⟩; have HS3 := Sta.made HS2 hB3 hP3; clear hB3 hP3)
    | (go_at_call 15; have n4_0 : RowV w3 ga0 (layL ls).flatten ∧ RowV w3 gb0 (labL bs).flatten := (Sta.t (i := 0) HS3 rfl :); (with_reducible refine (hC3 w3 ga0 gb0 n4_0).mono ?_); rintro r w4 ⟨rfl, hB4⟩; have HS4 := Sta.call HS3 hB4; clear hB4)
    | ((with_reducible refine wpList_loadV (w := w4) (by with_unfolding_all rfl) 25 (.tmp 1) (by with_unfolding_all rfl) w.heap.size [.string nm, .slice a1 y1 c1, .slice a2 y2 c2] (by with_unfolding_all rfl) (Sta.r (i := 0) HS4 (by with_unfolding_all rfl)) Try.uT_lawsManifest 3 Try.sT_lawsManifest (by with_unfolding_all rfl) ?_))
    | (go_at_call 12; have n5_0 : LayAt w4 a1 ls := (Sta.t (i := 1) HS4 rfl :).1; have n5_1 : LabAt w4 a2 bs := (Sta.t (i := 1) HS4 rfl :).2; (with_reducible refine (hC4 w4 z n5_0 n5_1 hz' Hp.out).mono ?_); rintro r w5 ⟨ga1, gb1, rfl, hP5, hB5⟩; have HS5 := Sta.made HS4 hB5 hP5; clear hB5 hP5)
    | ((with_reducible refine wpList_allocV (w := w5) (by with_unfolding_all rfl) 31 (by with_unfolding_all rfl) [.string ⟨#[]⟩, .slice none 0 0, .slice none 0 0] Try.zT_implManifest ?_); intro w6 hA6 hB6 hS6; clear hS6; have HS6 := Sta.new HS5 hA6 hB6 (by simp); clear hA6 hB6)
    | ((with_reducible refine wpList_storeS (w := w6) (by with_unfolding_all rfl) 31 (.tmp 5) (.tmp 16) (by with_unfolding_all rfl) w5.heap.size [.string ⟨#[]⟩, .slice none 0 0, .slice none 0 0] [.string nm, .slice (some ⟨ga1, 0, none⟩) y1 y1, .slice (some ⟨gb1, 0, none⟩) y2 y2] (by with_unfolding_all rfl) (by with_unfolding_all rfl) (Sta.r (i := 0) HS6 (by with_unfolding_all rfl)) 3 Try.sT_implManifest (by with_unfolding_all rfl) (by with_unfolding_all rfl) (by with_unfolding_all rfl) ?_); intro w7 hA7 hO7; have HS7 := Sta.put 0 HS6 rfl hA7 (by simp) hO7; clear hA7 hO7)
    | ((with_reducible refine wpList_loadV (w := w7) (by with_unfolding_all rfl) 31 (.tmp 5) (by with_unfolding_all rfl) w5.heap.size [.string nm, .slice (some ⟨ga1, 0, none⟩) y1 y1, .slice (some ⟨gb1, 0, none⟩) y2 y2] (by with_unfolding_all rfl) (Sta.r (i := 0) HS7 (by with_unfolding_all rfl)) Try.uT_implManifest 3 Try.sT_implManifest (by with_unfolding_all rfl) ?_))
    | (go_at_call 16; have n8_0 : RowV w7 ga1 (layL ls).flatten ∧ RowV w7 gb1 (labL bs).flatten := (Sta.t (i := 0) HS7 rfl :); (with_reducible refine (hC5 w7 ga1 gb1 n8_0).mono ?_); rintro r w8 ⟨rfl, hB8⟩; have HS8 := Sta.call HS7 hB8; clear hB8))
  have HS9 := Sta.drew HS8
  go_region_held3 (fun w' => w'.cell? ⟨w5.heap.size, 0, none⟩ = some (.string nm) ∧ w'.cell? ⟨w5.heap.size, 1, none⟩ = some (.slice (some ⟨ga1, 0, none⟩) y1 y1) ∧ w'.cell? ⟨w5.heap.size, 2, none⟩ = some (.slice (some ⟨gb1, 0, none⟩) y2 y2) ∧ w'.cell? ⟨w.heap.size, 0, none⟩ = some (.string nm) ∧ w'.cell? ⟨w.heap.size, 1, none⟩ = some (.slice a1 y1 c1) ∧ w'.cell? ⟨w.heap.size, 2, none⟩ = some (.slice a2 y2 c2) ∧ Hid (Sta [] w [(w5.heap.size, [.string nm, .slice (some ⟨ga1, 0, none⟩) y1 y1, .slice (some ⟨gb1, 0, none⟩) y2 y2]), (w.heap.size, [.string nm, .slice a1 y1 c1, .slice a2 y2 c2])] [⟨fun k => w4.heap.size ≤ k ∧ k < w5.heap.size, fun w2 => RowV w2 ga1 (layL ls).flatten ∧ RowV w2 gb1 (labL bs).flatten⟩, ⟨fun k => w2.heap.size ≤ k ∧ k < w3.heap.size, fun w2 => RowV w2 ga0 (layL ls).flatten ∧ RowV w2 gb0 (labL bs).flatten⟩, ⟨fun k => k < w.heap.size, fun w' => LayAt w' a1 ls ∧ LabAt w' a2 bs⟩] w'))
    (first | exact ⟨Sta.c (i := 0) (HS9) rfl rfl, Sta.c (i := 0) (HS9) rfl rfl, Sta.c (i := 0) (HS9) rfl rfl, Sta.c (i := 1) (HS9) rfl rfl, Sta.c (i := 1) (HS9) rfl rfl, Sta.c (i := 1) (HS9) rfl rfl, (HS9)⟩ | exact ⟨Sta.c (i := 0) (Sta.call (HS9) hB10) rfl rfl, Sta.c (i := 0) (Sta.call (HS9) hB10) rfl rfl, Sta.c (i := 0) (Sta.call (HS9) hB10) rfl rfl, Sta.c (i := 1) (Sta.call (HS9) hB10) rfl rfl, Sta.c (i := 1) (Sta.call (HS9) hB10) rfl rfl, Sta.c (i := 1) (Sta.call (HS9) hB10) rfl rfl, (Sta.call (HS9) hB10)⟩ | exact ⟨Sta.c (i := 0) (Sta.call (Sta.call (HS9) hB10) hB11) rfl rfl, Sta.c (i := 0) (Sta.call (Sta.call (HS9) hB10) hB11) rfl rfl, Sta.c (i := 0) (Sta.call (Sta.call (HS9) hB10) hB11) rfl rfl, Sta.c (i := 1) (Sta.call (Sta.call (HS9) hB10) hB11) rfl rfl, Sta.c (i := 1) (Sta.call (Sta.call (HS9) hB10) hB11) rfl rfl, Sta.c (i := 1) (Sta.call (Sta.call (HS9) hB10) hB11) rfl rfl, (Sta.call (Sta.call (HS9) hB10) hB11)⟩)
    (first
      | (go_at_call 12; have n10_0 : LayAt w8.drew a1 ls := (Sta.t (i := 2) (HS9) rfl :).1; have n10_1 : LabAt w8.drew a2 bs := (Sta.t (i := 2) (HS9) rfl :).2; (with_reducible refine (hC6 _ z n10_0 n10_1 hz' Hp.out).mono ?_); rintro r w10 ⟨ga2, gb2, rfl, hP10, hB10⟩)
      | (go_at_call 14; have n11_0 : RowV w10 ga1 (layL ls).flatten ∧ RowV w10 gb1 (labL bs).flatten := (Sta.t (i := 1) (Sta.made (HS9) hB10 hP10) rfl :); have n11_1 : RowV w10 ga2 (layL ls).flatten ∧ RowV w10 gb2 (labL bs).flatten := (Sta.t (i := 0) (Sta.made (HS9) hB10 hP10) rfl :); (with_reducible refine (hC7 _ ga1 gb1 ga2 gb2 n11_0 n11_1).mono ?_); rintro r w11 ⟨rfl, hB11⟩))
  all_goals
    have HS12 := Sta.call (Sta.made (HS9) hB10 hP10) hB11
    go_wp2_with fail
    go_ret
    exact ⟨rfl, Sta.fin HS12⟩
end Go.Proofs.Ytchfpiadfmnphaa
