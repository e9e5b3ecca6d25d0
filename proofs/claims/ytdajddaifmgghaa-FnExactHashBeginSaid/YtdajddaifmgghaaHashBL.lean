/- The law FnExactHashBegin, walked. -/
import Derived.Test.YtdajddaifmgghaaHashB
namespace Go.Proofs.Ytdajddaifmgghaa
open Go.RowKit
set_option linter.unusedVariables false
set_option maxRecDepth 100000 in
set_option maxHeartbeats 1000000 in
theorem lawHashBegin (w : World) : Calls Try.prog 3 #[] w fun e w' => e = .returned (.bool true) ∧ Below w.heap.size w w' := by
  go_enter Try.func3, Try.ntmps3
  go_wp2_with (first
    | (go_at_call 5; with_reducible refine (beginS_any _).mono ?_; rintro e w1 ⟨g1, rfl, hg1, hl1, hI1, hB1⟩)
    | (with_reducible refine wpList_allocV (w := w1) (by with_unfolding_all rfl) 24 (by with_unfolding_all rfl) (hvs none 0 0 ⟨#[]⟩ 0) Try.infoH ?_; intro w2 hA2 hB2 hS2)
    | (with_reducible refine wpList_storeV (w := w2) (by with_unfolding_all rfl) 24 (.tmp 1) (.tmp 6) (by with_unfolding_all rfl) w1.heap.size (hvs none 0 0 ⟨#[]⟩ 0) (hvs (some ⟨g1, 0, none⟩) 8 8 ⟨#[]⟩ 0) (by with_unfolding_all rfl) (by with_unfolding_all rfl) hA2 3 Try.sizeH (by with_unfolding_all rfl) (by with_unfolding_all rfl) (hvs_one _ _ _ _ _) ?_; intro w3 hA3 hB3 hF3 hS3; have b13 : Below w1.heap.size w1 w3 := hB2.trans (hB3 _ (Nat.le_refl _)); have i3 := hI1.below b13)
    | (go_at_call 6; with_reducible refine (beginI_any w3).mono ?_; rintro e w4 ⟨g2, rfl, hg2, hl2, hI4, hB4⟩; have v4 := hA3.below hB4 (by omega); have i4 := i3.below hB4)
    | (with_reducible refine wpList_allocV (w := w4) (by with_unfolding_all rfl) 24 (by with_unfolding_all rfl) (hvs none 0 0 ⟨#[]⟩ 0) Try.infoH ?_; intro w5 hA5 hB5 hS5)
    | (with_reducible refine wpList_storeV (w := w5) (by with_unfolding_all rfl) 24 (.tmp 2) (.tmp 7) (by with_unfolding_all rfl) w4.heap.size (hvs none 0 0 ⟨#[]⟩ 0) (hvs (some ⟨g2, 0, none⟩) 8 8 ⟨#[]⟩ 0) (by with_unfolding_all rfl) (by with_unfolding_all rfl) hA5 3 Try.sizeH (by with_unfolding_all rfl) (by with_unfolding_all rfl) (hvs_one _ _ _ _ _) ?_; intro w6 hA6 hB6 hF6 hS6; have b46 : Below w4.heap.size w4 w6 := hB5.trans (hB6 _ (Nat.le_refl _)); have S6 : St w6 w1.heap.size w4.heap.size g1 g2 iv := ⟨v4.below b46 (by have := hB4.size; omega), hA6, i4.below b46, hI4.below b46⟩)
    | (with_reducible refine wpList_loadV (w := w6) (by with_unfolding_all rfl) 24 (.tmp 2) (by with_unfolding_all rfl) w4.heap.size (hvs (some ⟨g2, 0, none⟩) 8 8 ⟨#[]⟩ 0) (by with_unfolding_all rfl) S6.v2 Try.undH 3 Try.sizeH (by with_unfolding_all rfl) ?_)
    | (with_reducible refine wpList_loadV (w := w6) (by with_unfolding_all rfl) 24 (.tmp 1) (by with_unfolding_all rfl) w1.heap.size (hvs (some ⟨g1, 0, none⟩) 8 8 ⟨#[]⟩ 0) (by with_unfolding_all rfl) S6.v1 Try.undH 3 Try.sizeH (by with_unfolding_all rfl) ?_)
    | (go_at_call 7; with_reducible refine (eqH_same _ _ _ _ 8 iv _ _ w6 rfl S6.i2 S6.i1 (by omega)).mono ?_; rintro e w7 ⟨rfl, hB7⟩; have S7 := S6.below hB7)
    | (with_reducible refine wpList_loadV (w := w7) (by with_unfolding_all rfl) 24 (.tmp 2) (by with_unfolding_all rfl) w4.heap.size (hvs (some ⟨g2, 0, none⟩) 8 8 ⟨#[]⟩ 0) (by with_unfolding_all rfl) S7.v2 Try.undH 3 Try.sizeH (by with_unfolding_all rfl) ?_)
    | (go_at_call 8; with_reducible refine (markH_any _ _ 8 iv _ _ 1 w7 rfl S7.i2 (by omega) (by omega) (by omega)).mono ?_; rintro e w8 ⟨rfl, hI8, hW8⟩; have S8 : St w8 w1.heap.size w4.heap.size g1 g2 (cnt 1 8) := S7.marked hW8 hI8 (by omega) (by have := hB4.size; omega) (by omega))
    | (with_reducible refine wpList_loadV (w := w8) (by with_unfolding_all rfl) 24 (.tmp 2) (by with_unfolding_all rfl) w4.heap.size (hvs (some ⟨g2, 0, none⟩) 8 8 ⟨#[]⟩ 0) (by with_unfolding_all rfl) S8.v2 Try.undH 3 Try.sizeH (by with_unfolding_all rfl) ?_)
    | (go_at_call 9; with_reducible refine (heldH_any _ _ 8 _ _ 1 w8 S8.i2 (by omega) (by omega) (by omega)).mono ?_; rintro e w9 ⟨rfl, hB9⟩; have S9 := S8.below hB9)
    | (go_at_call 6; with_reducible refine (beginI_any w9).mono ?_; rintro e w10 ⟨g3, rfl, hg3, hl3, hI10, hB10⟩; have S10 := S9.below hB10)
    | (with_reducible refine wpList_allocV (w := w10) (by with_unfolding_all rfl) 24 (by with_unfolding_all rfl) (hvs none 0 0 ⟨#[]⟩ 0) Try.infoH ?_; intro w11 hA11 hB11 hS11)
    | (with_reducible refine wpList_storeV (w := w11) (by with_unfolding_all rfl) 24 (.tmp 5) (.tmp 23) (by with_unfolding_all rfl) w10.heap.size (hvs none 0 0 ⟨#[]⟩ 0) (hvs (some ⟨g3, 0, none⟩) 8 8 ⟨#[]⟩ 0) (by with_unfolding_all rfl) (by with_unfolding_all rfl) hA11 3 Try.sizeH (by with_unfolding_all rfl) (by with_unfolding_all rfl) (hvs_one _ _ _ _ _) ?_; intro w12 hA12 hB12 hF12 hS12; have b12 : Below w10.heap.size w10 w12 := hB11.trans (hB12 _ (Nat.le_refl _)); have S12 := S10.below b12; have i12 := hI10.below b12)
    | (with_reducible refine wpList_loadV (w := w12) (by with_unfolding_all rfl) 24 (.tmp 5) (by with_unfolding_all rfl) w10.heap.size (hvs (some ⟨g3, 0, none⟩) 8 8 ⟨#[]⟩ 0) (by with_unfolding_all rfl) hA12 Try.undH 3 Try.sizeH (by with_unfolding_all rfl) ?_)
    | (with_reducible refine wpList_loadV (w := w12) (by with_unfolding_all rfl) 24 (.tmp 1) (by with_unfolding_all rfl) w1.heap.size (hvs (some ⟨g1, 0, none⟩) 8 8 ⟨#[]⟩ 0) (by with_unfolding_all rfl) S12.v1 Try.undH 3 Try.sizeH (by with_unfolding_all rfl) ?_)
    | (go_at_call 7; with_reducible refine (eqH_same _ _ _ _ 8 iv _ _ w12 rfl i12 S12.i1 (by omega)).mono ?_; rintro e w13 ⟨rfl, hB13⟩; have S13 := S12.below hB13)
    | (with_reducible refine wpList_loadV (w := w13) (by with_unfolding_all rfl) 24 (.tmp 2) (by with_unfolding_all rfl) w4.heap.size (hvs (some ⟨g2, 0, none⟩) 8 8 ⟨#[]⟩ 0) (by with_unfolding_all rfl) S13.v2 Try.undH 3 Try.sizeH (by with_unfolding_all rfl) ?_)
    | (go_at_call 9; with_reducible refine (heldH_any _ _ 8 _ _ 1 w13 S13.i2 (by omega) (by omega) (by omega)).mono ?_; rintro e w14 ⟨rfl, hB14⟩))
  go_ret
  have z4 := hB4.size
  have z6 := b46.size
  have z7 := hB7.size
  have z8 := hW8.size
  have z9 := hB9.size
  have z10 := hB10.size
  have z12 := b12.size
  have z13 := hB13.size
  have y1 := hB1.size
  have y3 := b13.size
  refine ⟨rfl, ?_⟩
  have e3 := hB1.trans (b13.mono y1)
  have e4 := e3.trans (hB4.mono (by omega))
  have e6 := e4.trans (b46.mono (by omega))
  have e7 := e6.trans (hB7.mono (by omega))
  have e8 := e7.trans (hW8.below w.heap.size (by omega) (fun ad h => by injection h with h; subst h; show w.heap.size ≤ g2; omega))
  exact (((e8.trans (hB9.mono (by omega))).trans (hB10.mono (by omega))).trans ((b12.mono (by omega)).trans (hB13.mono (by omega)))).trans (hB14.mono (by omega))
end Go.Proofs.Ytdajddaifmgghaa
