/- Materialize of the program. -/
import Derived.Test.YtchfpiadfmnphaaDoorJn15
import Derived.Test.YtchfpiadfmnphaaDoorJn23
import Derived.Test.YtchfpiadfmnphaaDoorTy
namespace Go.Proofs.YtchfpiadfmnphaaDoor
open Go.RowKit
set_option linter.unusedVariables false

set_option maxRecDepth 100000 in
set_option maxHeartbeats 16000000 in
theorem implMat (a : Option Addr) (c n : Nat) (l : List ByteArray) (t : ByteArray) (w : World) (hn : l.length = n) (h : SA w a l) (hm : n ≤ maxLen) (hx : ∀ x ∈ l, x.size ≤ maxLen) (hk : ArrU w 0 keys) (h0 : 0 < w.heap.size) (ht : t.size ≤ maxLen) :
    Calls Tryd.prog 19 #[.agg #[.slice a n c], .string t] w fun r w' => ∃ (nm : ByteArray) (ls : List LayV) (bs : List LabV) (ys : List ByteArray) (a1 : Option Addr) (m1 c1 : Nat) (a2 : Option Addr) (m2 c2 : Nat) (a3 : Option Addr) (m3 c3 : Nat) (cc : Int), r = .returned (.agg #[.string nm, .slice a1 m1 c1, .slice a2 m2 c2, .slice a3 m3 c3, .int .i64 cc]) ∧ ImAns l t nm ls bs ys cc ∧ (m1 = ls.length ∧ m2 = bs.length ∧ m3 = ys.length ∧ ls.length ≤ 10 ∧ bs.length ≤ 10 ∧ ys.length ≤ 10) ∧ ImB a1 a2 a3 w.heap.size w'.heap.size ∧ Made w w' (fun w2 => VR w2 a1 (layL ls).flatten ∧ VR w2 a2 (labL bs).flatten ∧ VR w2 a3 (svl ys)) ∧ Below w.heap.size w w' := by
  have HM := hidP hm
  unfold maxLen at hm
  have HN := hidP hn
  have HX := hidP hx
  have HT := hidP ht
  unfold maxLen at ht
  have hC1 : ∀ w0 (Y : ByteArray), (SA w0 a l ∧ ArrU w0 0 keys ∧ 0 < w0.heap.size) → (l.length = n) → (n ≤ maxLen) → (∀ x ∈ l, x.size ≤ maxLen) → (t.size ≤ maxLen) → (getY l t = Y ∧ getC l t = 0) → Calls Tryd.prog 31 #[.agg #[.slice a n c], .string t] w0 fun r w' => ∃ (B : Nat), r = .returned (.tuple #[.map (some B), .string Y, .int .i64 0]) ∧ Made w0 w' (fun w2 => MapK w2 B l) ∧ Below w0.heap.size w0 w' := fun w0 Y n0 n1 n2 n3 n4 n5 => by rw [← n5.1]; exact (implFetch a c n l t w0 n1 n0.1 n2 n3 n0.2.1 n0.2.2 n4).mono fun r w' ⟨M, h1, h2, h3⟩ => by obtain ⟨_, B, rfl, hM⟩ := h2 n5.2; rw [n5.2] at h1; exact ⟨B, h1, hM, h3⟩
  have hC2 : ∀ w0 (Y : ByteArray), (Y.size ≤ 3000) → Calls Tryd.prog 36 #[.string Y] w0 fun r w' => ∃ (nm : ByteArray) (ls : List LayV) (bs : List LabV) (a1 : Option Addr) (y1 : Nat) (c1 : Nat) (a2 : Option Addr) (y2 : Nat) (c2 : Nat) (c0 : Int), r = .returned (.agg #[.string nm, .slice a1 y1 c1, .slice a2 y2 c2, .int .i64 c0]) ∧ MnAns Y nm ls bs c0 ∧ (y1 = ls.length ∧ y2 = bs.length) ∧ ManB a1 a2 w0.heap.size w'.heap.size ∧ Made w0 w' (fun w2 => VR w2 a1 (layL ls).flatten ∧ VR w2 a2 (labL bs).flatten) ∧ Below w0.heap.size w0 w' := fun w0 Y n0 => implManRd Y w0 (Nat.le_trans n0 (by decide))
  have hC3 : ∀ w0 (Y : ByteArray) (B : Nat) (Z : List ByteArray) (C3 : Int) (nm : ByteArray) (ls : List LayV) (bs : List LabV) (a1 : Option Addr) (y1 : Nat) (c1 : Nat) (a2 : Option Addr) (y2 : Nat) (c2 : Nat) (c0 : Int), (MapK w0 B l) → (VR w0 a1 (layL ls).flatten ∧ VR w0 a2 (labL bs).flatten) → (StOk l) → (MnAns Y nm ls bs c0) → (y1 = ls.length ∧ y2 = bs.length) → (layG l ls = (Z, C3)) → (ManB a1 a2 0 w0.heap.size) → Calls Tryd.prog 37 #[.map (some B), .agg #[.string nm, .slice a1 y1 c1, .slice a2 y2 c2]] w0 fun r w' => ∃ (a3 : Option Addr) (y3 : Nat) (c3 : Nat), r = .returned (.tuple #[.slice a3 y3 c3, .int .i64 C3]) ∧ y3 = Z.length ∧ (∀ ad, a3 = some ad → w0.heap.size ≤ ad.block ∧ ad.block < w'.heap.size) ∧ ((∀ x y, a1 = some x → a3 = some y → x.block ≠ y.block) ∧ (∀ x y, a2 = some x → a3 = some y → x.block ≠ y.block)) ∧ Made w0 w' (fun w2 => VR w2 a3 (svl Z)) ∧ Below w0.heap.size w0 w' := fun w0 Y B Z C3 nm ls bs a1 y1 c1 a2 y2 c2 c0 n0 n1 n2 n3 n4 n5 n6 => by have e := n5; have := (implLayers B l nm a1 c1 y1 ls a2 c2 y2 w0 n0 n2 n4.1.symm n1.1.lay (by have := (mnAns_ok n3).1; omega) (mnAns_ok n3).2.2); rw [e] at this; exact this.mono fun r w' ⟨a3, m3, c3, h1, h2, h3, h4, h5⟩ => ⟨a3, m3, c3, h1, h2, h3, ⟨fun x y e1 e2 e3 => by have h6 := (n6.1 x e1).2; have h7 := (h3 y e2).1; omega, fun x y e1 e2 e3 => by have h6 := (n6.2.1 x e1).2; have h7 := (h3 y e2).1; omega⟩, h4, h5⟩
  have hC4 : ∀ w0 (Y : ByteArray) (C : Int), (SA w0 a l ∧ ArrU w0 0 keys ∧ 0 < w0.heap.size) → (l.length = n) → (n ≤ maxLen) → (∀ x ∈ l, x.size ≤ maxLen) → (t.size ≤ maxLen) → (getY l t = Y ∧ getC l t = C) → Calls Tryd.prog 31 #[.agg #[.slice a n c], .string t] w0 fun r w' => ∃ (M : Value), r = .returned (.tuple #[M, .string Y, .int .i64 C]) ∧ Below w0.heap.size w0 w' := fun w0 Y C n0 n1 n2 n3 n4 n5 => by rw [← n5.1, ← n5.2]; exact (implFetch a c n l t w0 n1 n0.1 n2 n3 n0.2.1 n0.2.2 n4).mono fun r w' ⟨M, h1, h2, h3⟩ => ⟨M, h1, h3⟩
  have HS0 : Hid (Sta [] w [] [⟨fun k => k < w.heap.size, fun w' => SA w' a l ∧ ArrU w' 0 keys ∧ 0 < w'.heap.size⟩] w) := Sta.arg (fun w' => SA w' a l ∧ ArrU w' 0 keys ∧ 0 < w'.heap.size) (fun w' hb => ⟨h.below hb, hk.below hb h0, Nat.lt_of_lt_of_le h0 hb.size⟩)
  clear hn h hx hk h0
  go_enter Tryd.func19, Tryd.ntmps19
  by_cases hg : getC l t = 0
  · as_aux_lemma =>
    obtain ⟨Y, hy⟩ : ∃ Y, getY l t = Y := ⟨_, rfl⟩
    have HA := hidP (show getY l t = Y ∧ getC l t = 0 from ⟨hy, hg⟩)
    have HYs : Hid (Y.size ≤ 3000) := by rw [← hy]; exact (getY_size hg).1
    have HSo := hidP (getY_size hg).2.1
    clear hy hg
    go_wp2_with (first
      | ((with_reducible refine wpList_boxV (w := w) (by with_unfolding_all rfl) 27 (.tmp 0) (by with_unfolding_all rfl) [.slice a n c] (by with_unfolding_all rfl) ?_); intro w1 hA1 hB1 hS1; clear hS1; have HS1 := Sta.new HS0 hA1 hB1 (by simp); clear hA1 hB1)
      | ((with_reducible refine wpList_allocV (w := w1) (by with_unfolding_all rfl) 43 (by with_unfolding_all rfl) [.string ⟨#[]⟩, .slice none 0 0, .slice none 0 0, .slice none 0 0, .int .i64 0] Tryd.zT_implImageOut ?_); intro w2 hA2 hB2 hS2; clear hS2; have HS2 := Sta.new HS1 hA2 hB2 (by simp); clear hA2 hB2)
      | ((with_reducible refine wpList_loadV (w := w2) (by with_unfolding_all rfl) 27 (.tmp 2) (by with_unfolding_all rfl) w.heap.size [.slice a n c] (by with_unfolding_all rfl) (Sta.r (i := 1) HS2 (by with_unfolding_all rfl)) Tryd.uT_implStore 1 Tryd.sT_implStore (by with_unfolding_all rfl) ?_))
      | (go_at_call 31; have n3_0 : SA w2 a l ∧ ArrU w2 0 keys ∧ 0 < w2.heap.size := (Sta.t (i := 0) HS2 rfl :); (with_reducible refine (hC1 w2 Y n3_0 HN.out HM.out HX.out HT.out HA.out).mono ?_); rintro r w3 ⟨B, rfl, hP3, hB3⟩; have HS3 := Sta.made HS2 hB3 hP3; clear hB3 hP3))
    refine (hC2 w3 Y HYs.out).mono ?_
    rintro r w4 ⟨nm, ls, bs, a1, y1, c1, a2, y2, c2, c0, rfl, an, ln, mb, hP4, hB4⟩
    have Han := hidP an
    clear an
    have Hln := hidP ln
    clear ln
    have Hmb := hidP mb
    clear mb
    have HS4 := Sta.made HS3 hB4 hP4
    clear hB4 hP4
    by_cases hc0 : ¬ c0 = 0
    · as_aux_lemma =>
      have d1 : (c0 != 0) = true := by simp [hc0]
      have HC0 := hidP hc0
      clear hc0
      go_wp2_with (first
        | ((with_reducible refine wpList_allocV (w := w4) (by with_unfolding_all rfl) 60 (by with_unfolding_all rfl) [.string ⟨#[]⟩, .slice none 0 0, .slice none 0 0, .int .i64 0] Tryd.zT_implManifestOut ?_); intro w5 hA5 hB5 hS5; clear hS5; have HS5 := Sta.new HS4 hA5 hB5 (by simp); clear hA5 hB5)
        | ((with_reducible refine wpList_storeS (w := w5) (by with_unfolding_all rfl) 60 (.tmp 8) (.tmp 22) (by with_unfolding_all rfl) w4.heap.size [.string ⟨#[]⟩, .slice none 0 0, .slice none 0 0, .int .i64 0] [.string nm, .slice a1 y1 c1, .slice a2 y2 c2, .int .i64 c0] (by with_unfolding_all rfl) (by with_unfolding_all rfl) (Sta.r (i := 0) HS5 (by with_unfolding_all rfl)) 4 Tryd.sT_implManifestOut (by with_unfolding_all rfl) (by with_unfolding_all rfl) (by with_unfolding_all rfl) ?_); intro w6 hA6 hO6; have HS6 := Sta.put 0 HS5 rfl hA6 (by simp) hO6; clear hA6 hO6; have cHS6_0_3 : w6.cell? ⟨w4.heap.size, 3, none⟩ = some (.int .i64 c0) := Sta.c (i := 0) HS6 rfl rfl)
        | ((with_reducible refine wpList_storeS (w := w6) (by with_unfolding_all rfl) 43 (.tmp 4) (.tmp 28) (by with_unfolding_all rfl) w1.heap.size [.string ⟨#[]⟩, .slice none 0 0, .slice none 0 0, .slice none 0 0, .int .i64 0] [.string ⟨#[]⟩, .slice none 0 0, .slice none 0 0, .slice none 0 0, .int .i64 c0] (by with_unfolding_all rfl) (by with_unfolding_all rfl) (Sta.r (i := 1) HS6 (by with_unfolding_all rfl)) 5 Tryd.sT_implImageOut (by with_unfolding_all rfl) (by with_unfolding_all rfl) (by with_unfolding_all rfl) ?_); intro w7 hA7 hO7; have HS7 := Sta.put 1 HS6 rfl hA7 (by simp) hO7; clear hA7 hO7; clear cHS6_0_3))
      exact bodyPost_ret (results_V (t := 43) rfl _ w1.heap.size [.string ⟨#[]⟩, .slice none 0 0, .slice none 0 0, .slice none 0 0, .int .i64 c0] rfl (Sta.r (i := 1) HS7 (by with_unfolding_all rfl)) Tryd.uT_implImageOut 5 Tryd.sT_implImageOut rfl) rfl ⟨⟨#[]⟩, [], [], [], none, 0, 0, none, 0, 0, none, 0, 0, c0, rfl, Or.inr ⟨HA.out.2, nm, ls, bs, c0, by rw [HA.out.1]; exact Han.out, Or.inl ⟨HC0.out, rfl, rfl, rfl, rfl, rfl⟩⟩, ⟨rfl, rfl, rfl, Nat.zero_le _, Nat.zero_le _, Nat.zero_le _⟩, ImB.nil _ _, fun w2 _ => ⟨fun hl => absurd rfl hl, fun hl => absurd rfl hl, fun hl => absurd rfl hl⟩, Sta.fin HS7⟩
    have d1 : (c0 != 0) = false := by simpa using hc0
    have HC0 := hidP (Decidable.not_not.1 hc0)
    clear hc0
    obtain ⟨⟨Z, C3⟩, hZ⟩ : ∃ q, layG l ls = q := ⟨_, rfl⟩
    have HZ := hidP hZ
    clear hZ
    go_wp2_with (first
      | ((with_reducible refine wpList_allocV (w := w4) (by with_unfolding_all rfl) 60 (by with_unfolding_all rfl) [.string ⟨#[]⟩, .slice none 0 0, .slice none 0 0, .int .i64 0] Tryd.zT_implManifestOut ?_); intro w8 hA8 hB8 hS8; clear hS8; have HS8 := Sta.new HS4 hA8 hB8 (by simp); clear hA8 hB8)
      | ((with_reducible refine wpList_storeS (w := w8) (by with_unfolding_all rfl) 60 (.tmp 8) (.tmp 22) (by with_unfolding_all rfl) w4.heap.size [.string ⟨#[]⟩, .slice none 0 0, .slice none 0 0, .int .i64 0] [.string nm, .slice a1 y1 c1, .slice a2 y2 c2, .int .i64 c0] (by with_unfolding_all rfl) (by with_unfolding_all rfl) (Sta.r (i := 0) HS8 (by with_unfolding_all rfl)) 4 Tryd.sT_implManifestOut (by with_unfolding_all rfl) (by with_unfolding_all rfl) (by with_unfolding_all rfl) ?_); intro w9 hA9 hO9; have HS9 := Sta.put 0 HS8 rfl hA9 (by simp) hO9; clear hA9 hO9; have cHS9_0_3 : w9.cell? ⟨w4.heap.size, 3, none⟩ = some (.int .i64 c0) := Sta.c (i := 0) HS9 rfl rfl)
      | ((with_reducible refine wpList_ldS (w := w9) (by with_unfolding_all rfl) 41 (.tmp 31) (by with_unfolding_all rfl) w4.heap.size 0 [.string nm, .slice a1 y1 c1, .slice a2 y2 c2, .int .i64 c0] [.string nm, .slice a1 y1 c1, .slice a2 y2 c2] (by with_unfolding_all rfl) (Sta.r (i := 0) HS9 (by with_unfolding_all rfl)) Tryd.uT_implManifest 3 Tryd.sT_implManifest (by with_unfolding_all rfl) (by with_unfolding_all rfl) ?_)))
    have n10_0 : MapK w9 B l := (Sta.t (i := 1) HS9 rfl :)
    have n10_1 : VR w9 a1 (layL ls).flatten ∧ VR w9 a2 (labL bs).flatten := (Sta.t (i := 0) HS9 rfl :)
    have n10_6 : ManB a1 a2 0 w9.heap.size := (ManB.mono Hmb.out (Nat.zero_le _) (fun k h1 h2 => Sta.lt (i := 0) HS9 rfl k ⟨h1, h2⟩))
    refine (hC3 w9 Y B Z C3 nm ls bs a1 y1 c1 a2 y2 c2 c0 n10_0 n10_1 HSo.out Han.out Hln.out HZ.out n10_6).mono ?_
    rintro r w10 ⟨a3, y3, c3, rfl, l3, b3, q3, hP10, hB10⟩
    have Hl3 := hidP l3
    clear l3
    have Hb3 := hidP b3
    clear b3
    have Hq3 := hidP q3
    clear q3
    have HS10 := Sta.made HS9 hB10 hP10
    clear hB10 hP10
    clear cHS9_0_3
    by_cases hc3 : ¬ C3 = 0
    · as_aux_lemma =>
      have d3 : (C3 != 0) = true := by simp [hc3]
      have HC3 := hidP hc3
      clear hc3
      go_wp2_with (first
        | ((with_reducible refine wpList_storeS (w := w10) (by with_unfolding_all rfl) 43 (.tmp 4) (.tmp 39) (by with_unfolding_all rfl) w1.heap.size [.string ⟨#[]⟩, .slice none 0 0, .slice none 0 0, .slice none 0 0, .int .i64 0] [.string ⟨#[]⟩, .slice none 0 0, .slice none 0 0, .slice none 0 0, .int .i64 C3] (by with_unfolding_all rfl) (by with_unfolding_all rfl) (Sta.r (i := 1) HS10 (by with_unfolding_all rfl)) 5 Tryd.sT_implImageOut (by with_unfolding_all rfl) (by with_unfolding_all rfl) (by with_unfolding_all rfl) ?_); intro w11 hA11 hO11; have HS11 := Sta.put 1 HS10 rfl hA11 (by simp) hO11; clear hA11 hO11))
      exact bodyPost_ret (results_V (t := 43) rfl _ w1.heap.size [.string ⟨#[]⟩, .slice none 0 0, .slice none 0 0, .slice none 0 0, .int .i64 C3] rfl (Sta.r (i := 1) HS11 (by with_unfolding_all rfl)) Tryd.uT_implImageOut 5 Tryd.sT_implImageOut rfl) rfl ⟨⟨#[]⟩, [], [], [], none, 0, 0, none, 0, 0, none, 0, 0, C3, rfl, Or.inr ⟨HA.out.2, nm, ls, bs, c0, by rw [HA.out.1]; exact Han.out, Or.inr (Or.inl ⟨HC0.out, by rw [HZ.out]; exact HC3.out, by rw [HZ.out], rfl, rfl, rfl, rfl⟩)⟩, ⟨rfl, rfl, rfl, Nat.zero_le _, Nat.zero_le _, Nat.zero_le _⟩, ImB.nil _ _, fun w2 _ => ⟨fun hl => absurd rfl hl, fun hl => absurd rfl hl, fun hl => absurd rfl hl⟩, Sta.fin HS11⟩
    have d3 : (C3 != 0) = false := by simpa using hc3
    have HC3 := hidP (Decidable.not_not.1 hc3)
    clear hc3
    go_wp2_with (first
      | ((with_reducible refine wpList_ldS (w := w10) (by with_unfolding_all rfl) 41 (.tmp 40) (by with_unfolding_all rfl) w4.heap.size 0 [.string nm, .slice a1 y1 c1, .slice a2 y2 c2, .int .i64 c0] [.string nm, .slice a1 y1 c1, .slice a2 y2 c2] (by with_unfolding_all rfl) (Sta.r (i := 0) HS10 (by with_unfolding_all rfl)) Tryd.uT_implManifest 3 Tryd.sT_implManifest (by with_unfolding_all rfl) (by with_unfolding_all rfl) ?_))
      | ((with_reducible refine wpList_storeS (w := w10) (by with_unfolding_all rfl) 43 (.tmp 4) (.tmp 43) (by with_unfolding_all rfl) w1.heap.size [.string ⟨#[]⟩, .slice none 0 0, .slice none 0 0, .slice none 0 0, .int .i64 0] [.string nm, .slice a1 y1 c1, .slice a2 y2 c2, .slice a3 y3 c3, .int .i64 0] (by with_unfolding_all rfl) (by with_unfolding_all rfl) (Sta.r (i := 1) HS10 (by with_unfolding_all rfl)) 5 Tryd.sT_implImageOut (by with_unfolding_all rfl) (by with_unfolding_all rfl) (by with_unfolding_all rfl) ?_); intro w12 hA12 hO12; have HS12 := Sta.put 1 HS10 rfl hA12 (by simp) hO12; clear hA12 hO12))
    exact bodyPost_ret (results_V (t := 43) rfl _ w1.heap.size [.string nm, .slice a1 y1 c1, .slice a2 y2 c2, .slice a3 y3 c3, .int .i64 0] rfl (Sta.r (i := 1) HS12 (by with_unfolding_all rfl)) Tryd.uT_implImageOut 5 Tryd.sT_implImageOut rfl) rfl ⟨nm, ls, bs, Z, a1, y1, c1, a2, y2, c2, a3, y3, c3, 0, rfl, Or.inr ⟨HA.out.2, nm, ls, bs, c0, by rw [HA.out.1]; exact Han.out, Or.inr (Or.inr ⟨HC0.out, by rw [HZ.out]; exact HC3.out, rfl, rfl, rfl, rfl, by rw [HZ.out]⟩)⟩, ⟨Hln.out.1, Hln.out.2, Hl3.out, (mnAns_ok Han.out).1, (mnAns_ok Han.out).2.1, layG_len HZ.out (mnAns_ok Han.out).1⟩, ⟨fun ad e => ⟨Nat.le_trans (Sta.size HS3) (Hmb.out.1 ad e).1, Sta.lt (i := 1) HS12 rfl _ (Hmb.out.1 ad e)⟩, fun ad e => ⟨Nat.le_trans (Sta.size HS3) (Hmb.out.2.1 ad e).1, Sta.lt (i := 1) HS12 rfl _ (Hmb.out.2.1 ad e)⟩, fun ad e => ⟨Nat.le_trans (Sta.size HS9) (Hb3.out ad e).1, Sta.lt (i := 0) HS12 rfl _ (Hb3.out ad e)⟩, Hmb.out.2.2, Hq3.out.1, Hq3.out.2⟩, (Made.and' (Sta.made_of (i := 1) HS12 rfl (fun k hk => Nat.le_trans (Sta.size HS3) hk.1)) (Sta.made_of (i := 0) HS12 rfl (fun k hk => Nat.le_trans (Sta.size HS9) hk.1))).imp (fun w2 h2 => ⟨h2.1.1, h2.1.2, h2.2⟩), Sta.fin HS12⟩
  · as_aux_lemma =>
    obtain ⟨Y, hy⟩ : ∃ Y, getY l t = Y := ⟨_, rfl⟩
    obtain ⟨C, hc⟩ : ∃ C, getC l t = C := ⟨_, rfl⟩
    have HA := hidP (show getY l t = Y ∧ getC l t = C from ⟨hy, hc⟩)
    have HG := hidP hg
    have d0 : (C != 0) = true := by rw [hc] at hg; simp [hg]
    clear hy hc hg
    go_wp2_with (first
      | ((with_reducible refine wpList_boxV (w := w) (by with_unfolding_all rfl) 27 (.tmp 0) (by with_unfolding_all rfl) [.slice a n c] (by with_unfolding_all rfl) ?_); intro w13 hA13 hB13 hS13; clear hS13; have HS13 := Sta.new HS0 hA13 hB13 (by simp); clear hA13 hB13)
      | ((with_reducible refine wpList_allocV (w := w13) (by with_unfolding_all rfl) 43 (by with_unfolding_all rfl) [.string ⟨#[]⟩, .slice none 0 0, .slice none 0 0, .slice none 0 0, .int .i64 0] Tryd.zT_implImageOut ?_); intro w14 hA14 hB14 hS14; clear hS14; have HS14 := Sta.new HS13 hA14 hB14 (by simp); clear hA14 hB14)
      | ((with_reducible refine wpList_loadV (w := w14) (by with_unfolding_all rfl) 27 (.tmp 2) (by with_unfolding_all rfl) w.heap.size [.slice a n c] (by with_unfolding_all rfl) (Sta.r (i := 1) HS14 (by with_unfolding_all rfl)) Tryd.uT_implStore 1 Tryd.sT_implStore (by with_unfolding_all rfl) ?_))
      | (go_at_call 31; have n15_0 : SA w14 a l ∧ ArrU w14 0 keys ∧ 0 < w14.heap.size := (Sta.t (i := 0) HS14 rfl :); (with_reducible refine (hC4 w14 Y C n15_0 HN.out HM.out HX.out HT.out HA.out).mono ?_); rintro r w15 ⟨M, rfl, hB15⟩; have HS15 := Sta.call HS14 hB15; clear hB15)
      | ((with_reducible refine wpList_storeS (w := w15) (by with_unfolding_all rfl) 43 (.tmp 4) (.tmp 20) (by with_unfolding_all rfl) w13.heap.size [.string ⟨#[]⟩, .slice none 0 0, .slice none 0 0, .slice none 0 0, .int .i64 0] [.string ⟨#[]⟩, .slice none 0 0, .slice none 0 0, .slice none 0 0, .int .i64 C] (by with_unfolding_all rfl) (by with_unfolding_all rfl) (Sta.r (i := 0) HS15 (by with_unfolding_all rfl)) 5 Tryd.sT_implImageOut (by with_unfolding_all rfl) (by with_unfolding_all rfl) (by with_unfolding_all rfl) ?_); intro w16 hA16 hO16; have HS16 := Sta.put 0 HS15 rfl hA16 (by simp) hO16; clear hA16 hO16))
    exact bodyPost_ret (results_V (t := 43) rfl _ w13.heap.size [.string ⟨#[]⟩, .slice none 0 0, .slice none 0 0, .slice none 0 0, .int .i64 C] rfl (Sta.r (i := 0) HS16 (by with_unfolding_all rfl)) Tryd.uT_implImageOut 5 Tryd.sT_implImageOut rfl) rfl ⟨⟨#[]⟩, [], [], [], none, 0, 0, none, 0, 0, none, 0, 0, C, rfl, Or.inl ⟨HG.out, HA.out.2.symm, rfl, rfl, rfl, rfl⟩, ⟨rfl, rfl, rfl, Nat.zero_le _, Nat.zero_le _, Nat.zero_le _⟩, ImB.nil _ _, fun w2 _ => ⟨fun hl => absurd rfl hl, fun hl => absurd rfl hl, fun hl => absurd rfl hl⟩, Sta.fin HS16⟩
end Go.Proofs.YtchfpiadfmnphaaDoor
