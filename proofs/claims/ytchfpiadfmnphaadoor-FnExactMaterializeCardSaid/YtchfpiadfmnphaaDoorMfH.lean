/- Manifests in the laws' helpers: their room, turned to the program's, held against others. -/
import Derived.Test.YtchfpiadfmnphaaDoorJn8
namespace Go.Proofs.YtchfpiadfmnphaaDoor
open Go.RowKit
set_option linter.unusedVariables false

theorem Made.and {w0 w' : World} {P Q : World → Prop} (h : Made w0 w' P) (k : Made w0 w' Q) : Made w0 w' (fun w => P w ∧ Q w) := fun w2 hw => ⟨h w2 hw, k w2 hw⟩
set_option maxRecDepth 100000 in
set_option maxHeartbeats 2000000 in
theorem eqMan (nm : ByteArray) (a1 b1 : Option Addr) (c1 d1 y1 : Nat) (ls : List LayV) (a2 b2 : Option Addr) (c2 d2 y2 : Nat) (bs : List LabV) (w : World) (h1 : ls.length = y1) (h2 : LayAt w a1 ls) (h2b : LayAt w b1 ls) (h3 : y1 ≤ maxLen) (h5 : bs.length = y2) (h6 : LabAt w a2 bs) (h6b : LabAt w b2 bs) (h7 : y2 ≤ maxLen) :
    Calls Tryd.prog 38 #[.agg #[.string nm, .slice a1 y1 c1, .slice a2 y2 c2], .agg #[.string nm, .slice b1 y1 d1, .slice b2 y2 d2]] w fun r w' => r = .returned (.bool true) ∧ Below w.heap.size w w' := by
  have ht := txt_eq nm
  have hC1 : ∀ w0, (LayAt w0 a1 ls) → (LayAt w0 b1 ls) → Calls Tryd.prog 54 #[.slice a1 y1 c1, .slice b1 y1 d1] w0 fun r w' => r = .returned (.bool true) ∧ Below w0.heap.size w0 w' := fun w0 n0 n1 => eqLayS a1 b1 c1 d1 y1 ls w0 h1 n0 n1 h3
  have hC2 : ∀ w0, (LabAt w0 a2 bs) → (LabAt w0 b2 bs) → Calls Tryd.prog 55 #[.slice a2 y2 c2, .slice b2 y2 d2] w0 fun r w' => r = .returned (.bool true) ∧ Below w0.heap.size w0 w' := fun w0 n0 n1 => eqLabS a2 b2 c2 d2 y2 bs w0 h5 n0 n1 h7
  have HS0 : Hid (Sta [] w [] [⟨fun k => k < w.heap.size, fun w' => LayAt w' a1 ls ∧ LayAt w' b1 ls ∧ LabAt w' a2 bs ∧ LabAt w' b2 bs⟩] w) := Sta.arg (fun w' => LayAt w' a1 ls ∧ LayAt w' b1 ls ∧ LabAt w' a2 bs ∧ LabAt w' b2 bs) (fun w' hb => ⟨h2.below hb, h2b.below hb, h6.below hb, h6b.below hb⟩)
  clear h1 h2 h2b h5 h6 h6b
  go_enter Tryd.func38, Tryd.ntmps38
  go_wp2_with (first
    | ((with_reducible refine wpList_boxV (w := w) (by with_unfolding_all rfl) 41 (.tmp 0) (by with_unfolding_all rfl) [.string nm, .slice a1 y1 c1, .slice a2 y2 c2] (by with_unfolding_all rfl) ?_); intro w1 hA1 hB1 hS1; clear hS1; have HS1 := Sta.new HS0 hA1 hB1 (by simp); clear hA1 hB1)
    | ((with_reducible refine wpList_boxV (w := w1) (by with_unfolding_all rfl) 41 (.tmp 1) (by with_unfolding_all rfl) [.string nm, .slice b1 y1 d1, .slice b2 y2 d2] (by with_unfolding_all rfl) ?_); intro w2 hA2 hB2 hS2; clear hS2; have HS2 := Sta.new HS1 hA2 hB2 (by simp); clear hA2 hB2; have cHS2_1_0 : w2.cell? ⟨w.heap.size, 0, none⟩ = some (.string nm) := Sta.c (i := 1) HS2 rfl rfl; have cHS2_0_0 : w2.cell? ⟨w1.heap.size, 0, none⟩ = some (.string nm) := Sta.c (i := 0) HS2 rfl rfl; have cHS2_1_1 : w2.cell? ⟨w.heap.size, 1, none⟩ = some (.slice a1 y1 c1) := Sta.c (i := 1) HS2 rfl rfl; have cHS2_0_1 : w2.cell? ⟨w1.heap.size, 1, none⟩ = some (.slice b1 y1 d1) := Sta.c (i := 0) HS2 rfl rfl)
    | (go_at_call 54; have n3_0 : LayAt w2 a1 ls := (Sta.t (i := 0) HS2 rfl :).1; have n3_1 : LayAt w2 b1 ls := (Sta.t (i := 0) HS2 rfl :).2.1; (with_reducible refine (hC1 w2 n3_0 n3_1).mono ?_); rintro r w3 ⟨rfl, hB3⟩; have HS3 := Sta.call HS2 hB3; clear hB3; clear cHS2_1_0 cHS2_0_0 cHS2_1_1 cHS2_0_1; have cHS3_1_2 : w3.cell? ⟨w.heap.size, 2, none⟩ = some (.slice a2 y2 c2) := Sta.c (i := 1) HS3 rfl rfl; have cHS3_0_2 : w3.cell? ⟨w1.heap.size, 2, none⟩ = some (.slice b2 y2 d2) := Sta.c (i := 0) HS3 rfl rfl)
    | (go_at_call 55; have n4_0 : LabAt w3 a2 bs := (Sta.t (i := 0) HS3 rfl :).2.2.1; have n4_1 : LabAt w3 b2 bs := (Sta.t (i := 0) HS3 rfl :).2.2.2; (with_reducible refine (hC2 w3 n4_0 n4_1).mono ?_); rintro r w4 ⟨rfl, hB4⟩; have HS4 := Sta.call HS3 hB4; clear hB4; clear cHS3_1_2 cHS3_0_2))
  go_ret
  exact ⟨rfl, Sta.fin HS4⟩
end Go.Proofs.YtchfpiadfmnphaaDoor
