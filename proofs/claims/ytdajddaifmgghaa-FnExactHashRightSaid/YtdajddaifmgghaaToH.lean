/- szHash and toHash: what they answer of a Hash that came in. -/
import Derived.Test.YtdajddaifmgghaaToI
namespace Go.Proofs.Ytdajddaifmgghaa
open Go.RowKit
set_option linter.unusedVariables false
theorem Try.infoL : (Try.prog.info? 29).map (fun i => i.zero) = some (some (.agg (hvs none 0 0 ⟨#[]⟩ 0).toArray)) := by kernel_rfl
theorem Try.undL : ∃ d, Try.prog.underlying 29 = some d ∧ d.isRow = true := ⟨_, Try.underlying29, rfl⟩
theorem Try.sizeL : (Try.prog.info? 29).map (·.size) = some 3 := by kernel_rfl
theorem RowV.far {w : World} {g b k : Nat} {l : List Value} {v : Value} (h : RowV w g l) (hne : g ≠ b) : RowV (w.setCell ⟨b, k, none⟩ v) g l :=
  h.same fun j => ⟨World.cell?_setCell_other w _ _ v (by intro e; injection e with e _ _; exact hne e.symm), World.frozen?_setCell ..⟩
theorem IAt.far {w : World} {g b k : Nat} {l : List Int} {v : Value} (h : IAt w (some ⟨g, 0, none⟩) l) (hne : g ≠ b) : IAt (w.setCell ⟨b, k, none⟩ v) (some ⟨g, 0, none⟩) l := fun hl => by
  obtain ⟨g', hg', hc⟩ := h hl
  injection hg' with hg'
  injection hg' with hg'
  subst hg'
  exact ⟨g, rfl, fun j hj => ⟨(World.cell?_setCell_other w _ _ v (by intro e; injection e with e _ _; exact hne e.symm)).trans (hc j hj).1, by rw [World.frozen?_setCell]; exact (hc j hj).2⟩⟩
def room (n m : Nat) : Int := if n ≤ 1048576 ∧ n + m ≤ 1048576 then 1048576 - n - m else -1
theorem szI_any (a : Option Addr) (c n : Nat) (w : World) (hn : n ≤ maxLen) :
    Calls Try.prog 18 #[.slice a n c, .int .i64 1048576] w fun e w' => e = .returned (.int .i64 (if n ≤ 1048576 then 1048576 - n else -1)) ∧ w' = w := by
  unfold maxLen at hn
  by_cases h : n ≤ 1048576
  · rw [if_pos h]
    go_enter Try.func18, Try.ntmps18
    go_wp2
    go_ret
    exact ⟨rfl, rfl⟩
  · rw [if_neg h]
    have hlt : (1048576 : Int) - n < 0 := by omega
    go_enter Try.func18, Try.ntmps18
    go_wp2
    go_ret
    exact ⟨rfl, rfl⟩
set_option maxRecDepth 100000 in
set_option maxHeartbeats 1000000 in
theorem szH_any (a : Option Addr) (c n : Nat) (s : ByteArray) (z : Int) (w : World) (hn : n ≤ maxLen) (hs : s.size ≤ maxLen) :
    Calls Try.prog 10 #[HVal a n c s z, .int .i64 1048576] w fun e w' => e = .returned (.int .i64 (room n s.size)) ∧ Below w.heap.size w w' := by
  have HN : Hid (n ≤ maxLen) := hn
  unfold maxLen at hn hs
  have hbox : ∀ w1, RowV w1 w.heap.size (hvs a n c s z) → w1.cell? ⟨w.heap.size, 0, none⟩ = some (.slice a n c) ∧ w1.cell? ⟨w.heap.size, 1, none⟩ = some (.string s) := fun w1 h => ⟨h.cell (k := 0) rfl, h.cell (k := 1) rfl⟩
  have HB : Hid (∀ w1, RowV w1 w.heap.size (hvs a n c s z) → w1.cell? ⟨w.heap.size, 0, none⟩ = some (.slice a n c) ∧ w1.cell? ⟨w.heap.size, 1, none⟩ = some (.string s)) := hbox
  clear hbox
  by_cases h : n ≤ 1048576
  · obtain ⟨q, hq⟩ : ∃ q : Int, (1048576 : Int) - n = q := ⟨_, rfl⟩
    have HSz : ∀ w0, Calls Try.prog 18 #[.slice a n c, .int .i64 1048576] w0 fun e w' => e = .returned (.int .i64 q) ∧ w' = w0 := fun w0 => by
      have := szI_any a c n w0 HN.out
      rw [if_pos h, hq] at this
      exact this
    have hq0 : 0 ≤ q := by omega
    have hq1 : q ≤ 1048576 := by omega
    have HR : Hid (room n s.size = if q - s.size < 0 then -1 else q - s.size) := by
      show room n s.size = _
      unfold room
      by_cases h2 : n + s.size ≤ 1048576
      · rw [if_pos ⟨h, h2⟩, if_neg (by omega)]; omega
      · rw [if_neg (fun e => h2 e.2), if_pos (by omega)]
    clear hq HN
    by_cases h2 : q - (s.size : Int) < 0
    · have HR2 : Hid (room n s.size = -1) := by show room n s.size = _; rw [HR.out, if_pos h2]
      go_enter Try.func10, Try.ntmps10
      go_wp2_with (first
        | (with_reducible refine wpList_boxV (w := w) (by with_unfolding_all rfl) 29 (.tmp 0) (by with_unfolding_all rfl) (hvs a n c s z) (by with_unfolding_all rfl) ?_; intro w1 hA1 hB1 hS1; obtain ⟨p0, p1⟩ := HB.out w1 hA1)
        | (go_at_call 18; refine (HSz _).mono ?_; rintro e w3 ⟨rfl, rfl⟩))
      go_ret
      exact ⟨by rw [HR2.out]; rfl, hB1⟩
    · have HR2 : Hid (room n s.size = q - s.size) := by show room n s.size = _; rw [HR.out, if_neg h2]
      have h3 : 0 ≤ q - (s.size : Int) := by omega
      go_enter Try.func10, Try.ntmps10
      go_wp2_with (first
        | (with_reducible refine wpList_boxV (w := w) (by with_unfolding_all rfl) 29 (.tmp 0) (by with_unfolding_all rfl) (hvs a n c s z) (by with_unfolding_all rfl) ?_; intro w1 hA1 hB1 hS1; obtain ⟨p0, p1⟩ := HB.out w1 hA1)
        | (go_at_call 18; refine (HSz _).mono ?_; rintro e w3 ⟨rfl, rfl⟩))
      go_ret
      exact ⟨by rw [HR2.out]; rfl, hB1⟩
  · have HSz : ∀ w0, Calls Try.prog 18 #[.slice a n c, .int .i64 1048576] w0 fun e w' => e = .returned (.int .i64 (-1)) ∧ w' = w0 := fun w0 => by
      have := szI_any a c n w0 HN.out
      rw [if_neg h] at this
      exact this
    have HR2 : Hid (room n s.size = -1) := by show room n s.size = _; unfold room; rw [if_neg (fun e => h e.1)]
    clear HN
    go_enter Try.func10, Try.ntmps10
    go_wp2_with (first
      | (with_reducible refine wpList_boxV (w := w) (by with_unfolding_all rfl) 29 (.tmp 0) (by with_unfolding_all rfl) (hvs a n c s z) (by with_unfolding_all rfl) ?_; intro w1 hA1 hB1 hS1; obtain ⟨p0, p1⟩ := HB.out w1 hA1)
      | (go_at_call 18; refine (HSz _).mono ?_; rintro e w3 ⟨rfl, rfl⟩))
    go_ret
    exact ⟨by rw [HR2.out]; rfl, hB1⟩
set_option maxRecDepth 100000 in
set_option maxHeartbeats 1000000 in
theorem toH_any (a : Option Addr) (c n : Nat) (l : List Int) (s : ByteArray) (z : Int) (w : World) (hn : l.length = n) (h : AI w a l) (hb : n ≤ 1048576) :
    Calls Try.prog 12 #[HVal a n c s z] w fun e w' => ∃ g, e = .returned (HVal (some ⟨g, 0, none⟩) n n s z) ∧ w.heap.size ≤ g ∧ g < w'.heap.size ∧ IAt w' (some ⟨g, 0, none⟩) l ∧ Below w.heap.size w w' := by
  have HA : Hid (AI w a l) := h
  have HTo : ∀ w0, AI w0 a l → Calls Try.prog 19 #[.slice a n c] w0 fun e w' => e = .returned (.slice (some ⟨w0.heap.size, 0, none⟩) n n) ∧ IAt w' (some ⟨w0.heap.size, 0, none⟩) l ∧ Below w0.heap.size w0 w' ∧ w0.heap.size < w'.heap.size := fun w0 h0 => toI_any a c n l w0 hn h0 hb
  clear h hn
  go_enter Try.func12, Try.ntmps12
  go_wp2_with (first
    | (with_reducible refine wpList_boxV (w := w) (by with_unfolding_all rfl) 29 (.tmp 0) (by with_unfolding_all rfl) (hvs a n c s z) (by with_unfolding_all rfl) ?_; intro w1 hA1 hB1 hS1)
    | (with_reducible refine wpList_allocV (w := w1) (by with_unfolding_all rfl) 24 (by with_unfolding_all rfl) (hvs none 0 0 ⟨#[]⟩ 0) Try.infoH ?_; intro w2 hA2 hB2 hS2)
    | (with_reducible refine wpList_allocV (w := w2) (by with_unfolding_all rfl) 24 (by with_unfolding_all rfl) (hvs none 0 0 ⟨#[]⟩ 0) Try.infoH ?_; intro w3 hA3 hB3 hS3; have b03 : Below w.heap.size w w3 := (hB1.trans (hB2.mono (by omega))).trans (hB3.mono (by omega)); have V1 := (hA1.below hB2 (by omega)).below hB3 (by omega); have p0 := V1.cell (k := 0) rfl)
    | (go_at_call 19; refine (HTo w3 (HA.out.below b03)).mono ?_; rintro e w4 ⟨rfl, hI4, hB4, hL4⟩; have V4 := V1.below hB4 (by omega); have p1 := V4.cell (k := 1) rfl; have p2 := V4.cell (k := 2) rfl; have T4 := hA3.below hB4 (by omega); have R4 := (hA2.below hB3 (by omega)).below hB4 (by omega); rw [show w2.heap.size = w.heap.size + 2 by omega] at T4; have q0 := T4.cell (k := 0) rfl; have q1 := T4.cell (k := 1) rfl; have q2 := T4.cell (k := 2) rfl; have f0 := T4.frozen (k := 0) (by decide); have f1 := T4.frozen (k := 1) (by decide); have f2 := T4.frozen (k := 2) (by decide); rw [hS1] at R4; have r0 := R4.cell (k := 0) rfl; have r1 := R4.cell (k := 1) rfl; have r2 := R4.cell (k := 2) rfl; have e0 := R4.frozen (k := 0) (by decide); have e1 := R4.frozen (k := 1) (by decide); have e2 := R4.frozen (k := 2) (by decide)))
  have n1 : w.heap.size + 1 ≠ w.heap.size + 1 + 1 := by omega
  have n2 : w.heap.size + 1 + 1 + 1 ≠ w.heap.size + 1 + 1 := by omega
  have n3 : w.heap.size + 1 + 1 + 1 ≠ w.heap.size + 1 := by omega
  have g1 : w.heap.size ≤ w.heap.size + 1 := by omega
  have g2 : w.heap.size ≤ w.heap.size + 1 + 1 := by omega
  rw [show w3.heap.size = w.heap.size + 1 + 1 + 1 by omega] at hI4
  refine bodyPost_ret (results_V (t := 24) rfl _ (w.heap.size + 1) (hvs (some ⟨w.heap.size + 1 + 1 + 1, 0, none⟩) n n s z) rfl
    ((((((R4.far n1).far n1).far n1).setAt (k := 0) (by decide) rfl).setAt (k := 1) (by simp [hvs]) rfl).setAt (k := 2) (by simp [hvs]) rfl) Try.undH 3 Try.sizeH rfl) rfl
    ⟨w.heap.size + 1 + 1 + 1, rfl, by omega, by rw [World.size_setCell, World.size_setCell, World.size_setCell, World.size_setCell, World.size_setCell, World.size_setCell]; omega,
      (((((hI4.far n2).far n2).far n2).far n3).far n3).far n3, ?_⟩
  exact ((((((b03.trans (hB4.mono (by omega))).setCell g2 _).setCell g2 _).setCell g2 _).setCell g1 _).setCell g1 _).setCell g1 _
end Go.Proofs.Ytdajddaifmgghaa
