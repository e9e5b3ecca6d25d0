/- Materialize of the specification. -/
import Derived.Test.YtchfpiadfmnphaaDoorJn15
import Derived.Test.YtchfpiadfmnphaaDoorJn26
import Derived.Test.YtchfpiadfmnphaaDoorTy
namespace Go.Proofs.YtchfpiadfmnphaaDoor
open Go.RowKit
set_option linter.unusedVariables false

set_option maxRecDepth 100000 in
set_option maxHeartbeats 16000000 in
theorem specImg (a : Option Addr) (c n : Nat) (l : List ByteArray) (t : ByteArray) (w : World) (hn : l.length = n) (h : SA w a l) (hm : n ≤ maxLen) (hx : ∀ x ∈ l, x.size ≤ maxLen) (ht : t.size ≤ maxLen) (hg : ¬ 20000 < t.size) (hs : StOk l) :
    Calls Tryd.prog 35 #[.agg #[.slice a n c], .string t] w fun r w' => ∃ (nm : ByteArray) (ls : List LayV) (bs : List LabV) (ys : List ByteArray) (a1 : Option Addr) (m1 c1 : Nat) (a2 : Option Addr) (m2 c2 : Nat) (a3 : Option Addr) (m3 c3 : Nat) (cc : Int), r = .returned (.agg #[.string nm, .slice a1 m1 c1, .slice a2 m2 c2, .slice a3 m3 c3, .int .i64 cc]) ∧ ImAns l t nm ls bs ys cc ∧ (m1 = ls.length ∧ m2 = bs.length ∧ m3 = ys.length ∧ ls.length ≤ 10 ∧ bs.length ≤ 10 ∧ ys.length ≤ 10) ∧ Made w w' (fun w2 => LayAt w2 a1 ls ∧ LabAt w2 a2 bs ∧ SA w2 a3 ys) ∧ Below w.heap.size w w' := by
  have HM := hidP hm
  unfold maxLen at hm
  have HN := hidP hn
  have HX := hidP hx
  have HT := hidP ht
  unfold maxLen at ht
  have HSo := hidP hs
  have hC1 : ∀ w0, (SA w0 a l) → (l.length = n) → (n ≤ maxLen) → (∀ x ∈ l, x.size ≤ maxLen) → (t.size ≤ maxLen) → (findO l t = none) → Calls Tryd.prog 30 #[.agg #[.slice a n c], .string t] w0 fun r w' => r = .returned (.tuple #[.string ⟨#[]⟩, .bool false]) ∧ Below w0.heap.size w0 w' := fun w0 n0 n1 n2 n3 n4 n5 => by have := specFind a c n l t w0 n1 n0 n2 n3 n4; rw [n5] at this; exact this
  have hC2 : ∀ w0 (X : ByteArray), (SA w0 a l) → (l.length = n) → (n ≤ maxLen) → (∀ x ∈ l, x.size ≤ maxLen) → (t.size ≤ maxLen) → (findO l t = some X) → Calls Tryd.prog 30 #[.agg #[.slice a n c], .string t] w0 fun r w' => r = .returned (.tuple #[.string X, .bool true]) ∧ Below w0.heap.size w0 w' := fun w0 X n0 n1 n2 n3 n4 n5 => by have := specFind a c n l t w0 n1 n0 n2 n3 n4; rw [n5] at this; exact this
  have hC3 : ∀ w0 (X : ByteArray), (X.size ≤ 3000) → Calls Tryd.prog 51 #[.string X] w0 fun r w' => ∃ (nm : ByteArray) (ls : List LayV) (bs : List LabV) (a1 : Option Addr) (y1 : Nat) (c1 : Nat) (a2 : Option Addr) (y2 : Nat) (c2 : Nat) (ok : Bool), r = .returned (.tuple #[.agg #[.string nm, .slice a1 y1 c1, .slice a2 y2 c2], .bool ok]) ∧ (y1 = ls.length ∧ y2 = bs.length ∧ ls.length ≤ 10 ∧ bs.length ≤ 10) ∧ ((ok = true ∧ ManOkT X nm ls bs) ∨ (ok = false ∧ ¬ ∃ nm ls bs, ManOkT X nm ls bs)) ∧ Made w0 w' (fun w' => LayAt w' a1 ls ∧ LabAt w' a2 bs) ∧ Below w0.heap.size w0 w' := fun w0 X n0 => specMan X w0 (Nat.le_trans n0 (by decide))
  have hC4 : ∀ w0 (x0 : ByteArray), (SA w0 a l) → (l.length = n) → (n ≤ maxLen) → (∀ x ∈ l, x.size ≤ maxLen) → (x0.size ≤ maxLen) → (findO l x0 = none) → Calls Tryd.prog 30 #[.agg #[.slice a n c], .string x0] w0 fun r w' => r = .returned (.tuple #[.string ⟨#[]⟩, .bool false]) ∧ Below w0.heap.size w0 w' := fun w0 x0 n0 n1 n2 n3 n4 n5 => by have := specFind a c n l x0 w0 n1 n0 n2 n3 n4; rw [n5] at this; exact this
  have hC5 : ∀ w0 (x0 : ByteArray) (y : ByteArray), (SA w0 a l) → (l.length = n) → (n ≤ maxLen) → (∀ x ∈ l, x.size ≤ maxLen) → (x0.size ≤ maxLen) → (findO l x0 = some y) → Calls Tryd.prog 30 #[.agg #[.slice a n c], .string x0] w0 fun r w' => r = .returned (.tuple #[.string y, .bool true]) ∧ Below w0.heap.size w0 w' := fun w0 x0 y n0 n1 n2 n3 n4 n5 => by have := specFind a c n l x0 w0 n1 n0 n2 n3 n4; rw [n5] at this; exact this
  have HS0 : Hid (Sta [] w [] [⟨fun k => k < w.heap.size, fun w' => SA w' a l⟩] w) := Sta.arg (fun w' => SA w' a l) (fun w' hb => h.below hb)
  clear hn h hx
  go_enter Tryd.func35, Tryd.ntmps35
  have hb2 : findO l t = none ∨ ∃ X, findO l t = some X := by cases findO l t <;> simp
  rcases hb2 with hf | ⟨X, hf⟩
  · as_aux_lemma =>
    have HO0 := hidP hf
    have HC := hidP (getC_none hg hs hf)
    clear hf hs
    go_wp2_with (first
      | ((with_reducible refine wpList_boxV (w := w) (by with_unfolding_all rfl) 27 (.tmp 0) (by with_unfolding_all rfl) [.slice a n c] (by with_unfolding_all rfl) ?_); intro w1 hA1 hB1 hS1; clear hS1; have HS1 := Sta.new HS0 hA1 hB1 (by simp); clear hA1 hB1)
      | ((with_reducible refine wpList_allocV (w := w1) (by with_unfolding_all rfl) 43 (by with_unfolding_all rfl) [.string ⟨#[]⟩, .slice none 0 0, .slice none 0 0, .slice none 0 0, .int .i64 0] Tryd.zT_implImageOut ?_); intro w2 hA2 hB2 hS2; clear hS2; have HS2 := Sta.new HS1 hA2 hB2 (by simp); clear hA2 hB2)
      | ((with_reducible refine wpList_loadV (w := w2) (by with_unfolding_all rfl) 27 (.tmp 2) (by with_unfolding_all rfl) w.heap.size [.slice a n c] (by with_unfolding_all rfl) (Sta.r (i := 1) HS2 (by with_unfolding_all rfl)) Tryd.uT_implStore 1 Tryd.sT_implStore (by with_unfolding_all rfl) ?_))
      | (go_at_call 30; have n3_0 : SA w2 a l := (Sta.t (i := 0) HS2 rfl :); (with_reducible refine (hC1 w2 n3_0 HN.out HM.out HX.out HT.out HO0.out).mono ?_); rintro r w3 ⟨rfl, hB3⟩; have HS3 := Sta.call HS2 hB3; clear hB3)
      | ((with_reducible refine wpList_storeS (w := w3) (by with_unfolding_all rfl) 43 (.tmp 4) (.tmp 21) (by with_unfolding_all rfl) w1.heap.size [.string ⟨#[]⟩, .slice none 0 0, .slice none 0 0, .slice none 0 0, .int .i64 0] [.string ⟨#[]⟩, .slice none 0 0, .slice none 0 0, .slice none 0 0, .int .i64 9] (by with_unfolding_all rfl) (by with_unfolding_all rfl) (Sta.r (i := 0) HS3 (by with_unfolding_all rfl)) 5 Tryd.sT_implImageOut (by with_unfolding_all rfl) (by with_unfolding_all rfl) (by with_unfolding_all rfl) ?_); intro w4 hA4 hO4; have HS4 := Sta.put 0 HS3 rfl hA4 (by simp) hO4; clear hA4 hO4))
    exact bodyPost_ret (results_V (t := 43) rfl _ w1.heap.size [.string ⟨#[]⟩, .slice none 0 0, .slice none 0 0, .slice none 0 0, .int .i64 9] rfl (Sta.r (i := 0) HS4 (by with_unfolding_all rfl)) Tryd.uT_implImageOut 5 Tryd.sT_implImageOut rfl) rfl ⟨⟨#[]⟩, [], [], [], none, 0, 0, none, 0, 0, none, 0, 0, 9, rfl, Or.inl ⟨by rw [HC.out]; decide, HC.out.symm, rfl, rfl, rfl, rfl⟩, ⟨rfl, rfl, rfl, Nat.zero_le _, Nat.zero_le _, Nat.zero_le _⟩, fun w2 _ => ⟨fun i hi => absurd hi (Nat.not_lt_zero _), fun i hi => absurd hi (Nat.not_lt_zero _), SA.nil _ _⟩, Sta.fin HS4⟩
  · as_aux_lemma =>
    have HO0 := hidP hf
    have HC := hidP (getC_yes hg hs hf)
    have HXs : Hid (X.size ≤ 3000) := by rw [← HC.out.2]; exact (getY_size HC.out.1).1
    clear hf hs
    go_wp2_with (first
      | ((with_reducible refine wpList_boxV (w := w) (by with_unfolding_all rfl) 27 (.tmp 0) (by with_unfolding_all rfl) [.slice a n c] (by with_unfolding_all rfl) ?_); intro w5 hA5 hB5 hS5; clear hS5; have HS5 := Sta.new HS0 hA5 hB5 (by simp); clear hA5 hB5)
      | ((with_reducible refine wpList_allocV (w := w5) (by with_unfolding_all rfl) 43 (by with_unfolding_all rfl) [.string ⟨#[]⟩, .slice none 0 0, .slice none 0 0, .slice none 0 0, .int .i64 0] Tryd.zT_implImageOut ?_); intro w6 hA6 hB6 hS6; clear hS6; have HS6 := Sta.new HS5 hA6 hB6 (by simp); clear hA6 hB6)
      | ((with_reducible refine wpList_loadV (w := w6) (by with_unfolding_all rfl) 27 (.tmp 2) (by with_unfolding_all rfl) w.heap.size [.slice a n c] (by with_unfolding_all rfl) (Sta.r (i := 1) HS6 (by with_unfolding_all rfl)) Tryd.uT_implStore 1 Tryd.sT_implStore (by with_unfolding_all rfl) ?_))
      | (go_at_call 30; have n7_0 : SA w6 a l := (Sta.t (i := 0) HS6 rfl :); (with_reducible refine (hC2 w6 X n7_0 HN.out HM.out HX.out HT.out HO0.out).mono ?_); rintro r w7 ⟨rfl, hB7⟩; have HS7 := Sta.call HS6 hB7; clear hB7))
    refine (hC3 w7 X HXs.out).mono ?_
    rintro r w8 ⟨nm, ls, bs, a1, y1, c1, a2, y2, c2, ok, rfl, ln, an, hP8, hB8⟩
    have Hln := hidP ln
    clear ln
    have Han := hidP an
    clear an
    have HS8 := Sta.made HS7 hB8 hP8
    clear hB8 hP8
    by_cases hok : ok = false
    · as_aux_lemma =>
      have HA3 : Hid (MnAns X ⟨#[]⟩ [] [] 3) := Or.inr (Or.inr ⟨by have := HXs.out; omega, (Han.out.resolve_left (fun h => by rw [hok] at h; cases h.1)).2, rfl, rfl, rfl, rfl⟩)
      go_wp2_with (first
        | ((with_reducible refine wpList_allocV (w := w8) (by with_unfolding_all rfl) 41 (by with_unfolding_all rfl) [.string ⟨#[]⟩, .slice none 0 0, .slice none 0 0] Tryd.zT_implManifest ?_); intro w9 hA9 hB9 hS9; clear hS9; have HS9 := Sta.new HS8 hA9 hB9 (by simp); clear hA9 hB9)
        | ((with_reducible refine wpList_storeS (w := w9) (by with_unfolding_all rfl) 41 (.tmp 7) (.tmp 25) (by with_unfolding_all rfl) w8.heap.size [.string ⟨#[]⟩, .slice none 0 0, .slice none 0 0] [.string nm, .slice a1 y1 c1, .slice a2 y2 c2] (by with_unfolding_all rfl) (by with_unfolding_all rfl) (Sta.r (i := 0) HS9 (by with_unfolding_all rfl)) 3 Tryd.sT_implManifest (by with_unfolding_all rfl) (by with_unfolding_all rfl) (by with_unfolding_all rfl) ?_); intro w10 hA10 hO10; have HS10 := Sta.put 0 HS9 rfl hA10 (by simp) hO10; clear hA10 hO10)
        | ((with_reducible refine wpList_storeS (w := w10) (by with_unfolding_all rfl) 43 (.tmp 4) (.tmp 29) (by with_unfolding_all rfl) w5.heap.size [.string ⟨#[]⟩, .slice none 0 0, .slice none 0 0, .slice none 0 0, .int .i64 0] [.string ⟨#[]⟩, .slice none 0 0, .slice none 0 0, .slice none 0 0, .int .i64 3] (by with_unfolding_all rfl) (by with_unfolding_all rfl) (Sta.r (i := 1) HS10 (by with_unfolding_all rfl)) 5 Tryd.sT_implImageOut (by with_unfolding_all rfl) (by with_unfolding_all rfl) (by with_unfolding_all rfl) ?_); intro w11 hA11 hO11; have HS11 := Sta.put 1 HS10 rfl hA11 (by simp) hO11; clear hA11 hO11))
      exact bodyPost_ret (results_V (t := 43) rfl _ w5.heap.size [.string ⟨#[]⟩, .slice none 0 0, .slice none 0 0, .slice none 0 0, .int .i64 3] rfl (Sta.r (i := 1) HS11 (by with_unfolding_all rfl)) Tryd.uT_implImageOut 5 Tryd.sT_implImageOut rfl) rfl ⟨⟨#[]⟩, [], [], [], none, 0, 0, none, 0, 0, none, 0, 0, 3, rfl, Or.inr ⟨HC.out.1, ⟨#[]⟩, [], [], 3, by rw [HC.out.2]; exact HA3.out, Or.inl ⟨by decide, rfl, rfl, rfl, rfl, rfl⟩⟩, ⟨rfl, rfl, rfl, Nat.zero_le _, Nat.zero_le _, Nat.zero_le _⟩, fun w2 _ => ⟨fun i hi => absurd hi (Nat.not_lt_zero _), fun i hi => absurd hi (Nat.not_lt_zero _), SA.nil _ _⟩, Sta.fin HS11⟩
    have hok' : ok = true := by simpa using hok
    have HA0 : Hid (MnAns X nm ls bs 0) := Or.inr (Or.inl ⟨by have := HXs.out; omega, (Han.out.resolve_right (fun h => hok h.1)).2, rfl⟩)
    have HN1 : Hid (ls.length = y1) := Hln.out.1.symm
    have HM0 := hidP (Sta.size HS7)
    go_wp2_with (first
      | ((with_reducible refine wpList_allocV (w := w8) (by with_unfolding_all rfl) 41 (by with_unfolding_all rfl) [.string ⟨#[]⟩, .slice none 0 0, .slice none 0 0] Tryd.zT_implManifest ?_); intro w12 hA12 hB12 hS12; clear hS12; have HS12 := Sta.new HS8 hA12 hB12 (by simp); clear hA12 hB12)
      | ((with_reducible refine wpList_storeS (w := w12) (by with_unfolding_all rfl) 41 (.tmp 7) (.tmp 25) (by with_unfolding_all rfl) w8.heap.size [.string ⟨#[]⟩, .slice none 0 0, .slice none 0 0] [.string nm, .slice a1 y1 c1, .slice a2 y2 c2] (by with_unfolding_all rfl) (by with_unfolding_all rfl) (Sta.r (i := 0) HS12 (by with_unfolding_all rfl)) 3 Tryd.sT_implManifest (by with_unfolding_all rfl) (by with_unfolding_all rfl) (by with_unfolding_all rfl) ?_); intro w13 hA13 hO13; have HS13 := Sta.put 0 HS12 rfl hA13 (by simp) hO13; clear hA13 hO13)
      | ((with_reducible refine wpList_loadV (w := w13) (by with_unfolding_all rfl) 41 (.tmp 7) (by with_unfolding_all rfl) w8.heap.size [.string nm, .slice a1 y1 c1, .slice a2 y2 c2] (by with_unfolding_all rfl) (Sta.r (i := 0) HS13 (by with_unfolding_all rfl)) Tryd.uT_implManifest 3 Tryd.sT_implManifest (by with_unfolding_all rfl) ?_))
      | ((with_reducible refine wpList_allocV (w := w13) (by with_unfolding_all rfl) 43 (by with_unfolding_all rfl) [.string ⟨#[]⟩, .slice none 0 0, .slice none 0 0, .slice none 0 0, .int .i64 0] Tryd.zT_implImageOut ?_); intro w14 hA14 hB14 hS14; clear hS14; have HS14 := Sta.new HS13 hA14 hB14 (by simp); clear hA14 hB14)
      | ((with_reducible refine wpList_storeS (w := w14) (by with_unfolding_all rfl) 43 (.tmp 9) (.tmp 31) (by with_unfolding_all rfl) w13.heap.size [.string ⟨#[]⟩, .slice none 0 0, .slice none 0 0, .slice none 0 0, .int .i64 0] [.string nm, .slice a1 y1 c1, .slice a2 y2 c2, .slice none 0 0, .int .i64 0] (by with_unfolding_all rfl) (by with_unfolding_all rfl) (Sta.r (i := 0) HS14 (by with_unfolding_all rfl)) 5 Tryd.sT_implImageOut (by with_unfolding_all rfl) (by with_unfolding_all rfl) (by with_unfolding_all rfl) ?_); intro w15 hA15 hO15; have HS15 := Sta.put 0 HS14 rfl hA15 (by simp) hO15; clear hA15 hO15))
    have HS16 : Hid (Sta [] w [(w13.heap.size, [.string nm, .slice a1 y1 c1, .slice a2 y2 c2, .slice none 0 0, .int .i64 0]), (w8.heap.size, [.string nm, .slice a1 y1 c1, .slice a2 y2 c2]), (w5.heap.size, [.string ⟨#[]⟩, .slice none 0 0, .slice none 0 0, .slice none 0 0, .int .i64 0]), (w.heap.size, [.slice a n c])] [⟨fun k => (Value.slice none 0 0).ownBlock = some k, fun w' => StrO w' w.heap.size (.slice none 0 0) ([])⟩, ⟨fun k => w7.heap.size ≤ k ∧ k < w8.heap.size, fun w' => LayAt w' a1 ls ∧ LabAt w' a2 bs⟩, ⟨fun k => k < w.heap.size, fun w' => SA w' a l⟩] w15) := Sta.own0 w.heap.size 9 1 HS15
    go_wp2_with fail
    go_loopw [10] (fun v0 wr => ∃ (k : Nat) (aa : Option Addr) (na : Nat) (ca : Nat) (ys : List ByteArray), v0 = .int .i64 (k : Int) ∧ k ≤ y1 ∧ Hid (ys.length = k) ∧ Hid (layG l (ls.take k) = (ys, 0)) ∧ Hid (Sta [] w [(w13.heap.size, [.string nm, .slice a1 y1 c1, .slice a2 y2 c2, .slice aa na ca, .int .i64 0]), (w8.heap.size, [.string nm, .slice a1 y1 c1, .slice a2 y2 c2]), (w5.heap.size, [.string ⟨#[]⟩, .slice none 0 0, .slice none 0 0, .slice none 0 0, .int .i64 0]), (w.heap.size, [.slice a n c])] [⟨fun k => (Value.slice aa na ca).ownBlock = some k, fun w' => StrO w' w.heap.size (.slice aa na ca) ys⟩, ⟨fun k => w7.heap.size ≤ k ∧ k < w8.heap.size, fun w' => LayAt w' a1 ls ∧ LabAt w' a2 bs⟩, ⟨fun k => k < w.heap.size, fun w' => SA w' a l⟩] wr)) (fun v0 _ => y1 - (intOf v0).toNat)
    case atStart => exact ⟨0, none, 0, 0, [], rfl, Nat.zero_le _, rfl, rfl, HS16⟩
    case round =>
      rename Go.World => wl17
      clear HS16
      obtain ⟨k, aa, na, ca, ys, rfl, hk17, HLn, HG, HS17⟩ := hrel
      by_cases hlt17 : k < y1
      case neg =>
        obtain rfl : y1 = k := by omega
        have HF := hidP (layG_all HG.out HN1.out)
        have cHS17_1_1 : wl17.cell? ⟨w8.heap.size, 1, none⟩ = some (.slice a1 y1 c1) := Sta.c (i := 1) HS17 rfl rfl
        go_wp2_with (first
          | ((with_reducible refine wpList_loadV (w := wl17) (by with_unfolding_all rfl) 43 (.tmp 9) (by with_unfolding_all rfl) w13.heap.size [.string nm, .slice a1 y1 c1, .slice a2 y2 c2, .slice aa na ca, .int .i64 0] (by with_unfolding_all rfl) (Sta.r (i := 0) HS17 (by with_unfolding_all rfl)) Tryd.uT_implImageOut 5 Tryd.sT_implImageOut (by with_unfolding_all rfl) ?_))
          | ((with_reducible refine wpList_storeS (w := wl17) (by with_unfolding_all rfl) 43 (.tmp 4) (.tmp 69) (by with_unfolding_all rfl) w5.heap.size [.string ⟨#[]⟩, .slice none 0 0, .slice none 0 0, .slice none 0 0, .int .i64 0] [.string nm, .slice a1 y1 c1, .slice a2 y2 c2, .slice aa na ca, .int .i64 0] (by with_unfolding_all rfl) (by with_unfolding_all rfl) (Sta.r (i := 2) HS17 (by with_unfolding_all rfl)) 5 Tryd.sT_implImageOut (by with_unfolding_all rfl) (by with_unfolding_all rfl) (by with_unfolding_all rfl) ?_); intro w18 hA18 hO18; have HS18 := Sta.put 2 HS17 rfl hA18 (by simp) hO18; clear hA18 hO18; clear cHS17_1_1))
        exact bodyPost_ret (results_V (t := 43) rfl _ w5.heap.size [.string nm, .slice a1 y1 c1, .slice a2 y2 c2, .slice aa na ca, .int .i64 0] rfl (Sta.r (i := 2) HS18 (by with_unfolding_all rfl)) Tryd.uT_implImageOut 5 Tryd.sT_implImageOut rfl) rfl ⟨nm, ls, bs, ys, a1, y1, c1, a2, y2, c2, aa, na, ca, 0, rfl, Or.inr ⟨HC.out.1, nm, ls, bs, 0, by rw [HC.out.2]; exact HA0.out, Or.inr (Or.inr ⟨rfl, by rw [HF.out], rfl, rfl, rfl, rfl, by rw [HF.out]⟩)⟩, ⟨Hln.out.1, Hln.out.2.1, (StrO.row (Sta.t (i := 0) HS18 rfl : StrO _ _ (.slice aa na ca) ys)).2.2, Hln.out.2.2.1, Hln.out.2.2.2, by have := HLn.out; have := HN1.out; have := Hln.out.2.2.1; omega⟩, (Made.and' (Sta.made_of (i := 1) HS18 rfl (fun k hk => Nat.le_trans HM0.out hk.1)) (Sta.made_of (i := 0) HS18 rfl (fun k hk => (own_ge (Sta.t (i := 0) HS18 rfl : StrO _ _ (.slice aa na ca) ys) hk).1))).imp (fun w2 h2 => ⟨h2.1.1, h2.1.2, (StrO.row h2.2).1.sa⟩), Sta.fin HS18⟩
      have lk17 : (k : Int) < y1 := by omega
      have l017 : (0 : Int) ≤ k := by omega
      have y10 : y1 ≤ 10 := by have := HN1.out; have := Hln.out.2.2.1; omega
      have hkl : k < ls.length := by have := HN1.out; omega
      obtain ⟨b, o, rfl, hz19⟩ := (Sta.t (i := 1) HS17 rfl :).1 k hkl
      clear hz19
      obtain ⟨x0, hx0⟩ : ∃ y, ls[k].bl = y := ⟨_, rfl⟩
      obtain ⟨x1, hx1⟩ : ∃ y, ls[k].sz = y := ⟨_, rfl⟩
      have HS20 := Sta.imp 1 (fun w' => (LayAt w' (some ⟨b, o, none⟩) ls ∧ LabAt w' a2 bs) ∧ w'.cell? ⟨b, o + k * 2, none⟩ = some (.string x0) ∧ w'.cell? ⟨b, o + k * 2 + 1, none⟩ = some (.int .i64 x1)) HS17 rfl (fun w' h => ⟨h, by rw [← hx0]; exact (LayAt.here h.1 k hkl).1, by rw [← hx1]; exact (LayAt.here h.1 k hkl).2⟩)
      have W0 : Hid (x0.size ≤ maxLen) := by have := ((mnAns_ok HA0.out).2.2 ls[k] (List.getElem_mem hkl)).1; rw [hx0] at this; exact this
      have hb3 : findO l x0 = none ∨ (∃ y, findO l x0 = some y ∧ ¬ (y.size : Int) = x1) ∨ (∃ y, findO l x0 = some y ∧ (y.size : Int) = x1) := by
        cases hf : findO l x0 with
        | none => exact Or.inl rfl
        | some y => by_cases g : (y.size : Int) = x1
                    · exact Or.inr (Or.inr ⟨y, rfl, g⟩)
                    · exact Or.inr (Or.inl ⟨y, rfl, g⟩)
      rcases hb3 with hf | ⟨y, hf, hz⟩ | ⟨y, hf, hz⟩
      · as_aux_lemma =>
        have HO := hidP hf
        have HF := hidP (layG_none hkl hx0 hx1 HG.out hf)
        clear hf
        have cHS20_1_1 : wl17.cell? ⟨w8.heap.size, 1, none⟩ = some (.slice (some ⟨b, o, none⟩) y1 c1) := Sta.c (i := 1) HS20 rfl rfl
        go_wp2_with fail
        have HS21 := Sta.drew HS20
        clear cHS20_1_1
        go_region_held3 (fun w' => w'.cell? ⟨w.heap.size, 0, none⟩ = some (.slice a n c) ∧ w'.cell? ⟨w8.heap.size, 1, none⟩ = some (.slice (some ⟨b, o, none⟩) y1 c1) ∧ w'.cell? ⟨b, o + k * 2, none⟩ = some (.string x0) ∧ Hid (Sta [] w [(w13.heap.size, [.string nm, .slice (some ⟨b, o, none⟩) y1 c1, .slice a2 y2 c2, .slice aa na ca, .int .i64 0]), (w8.heap.size, [.string nm, .slice (some ⟨b, o, none⟩) y1 c1, .slice a2 y2 c2]), (w5.heap.size, [.string ⟨#[]⟩, .slice none 0 0, .slice none 0 0, .slice none 0 0, .int .i64 0]), (w.heap.size, [.slice a n c])] [⟨fun k => (Value.slice aa na ca).ownBlock = some k, fun w' => StrO w' w.heap.size (.slice aa na ca) ys⟩, ⟨fun k => w7.heap.size ≤ k ∧ k < w8.heap.size, fun w' => (LayAt w' (some ⟨b, o, none⟩) ls ∧ LabAt w' a2 bs) ∧ w'.cell? ⟨b, o + k * 2, none⟩ = some (.string x0) ∧ w'.cell? ⟨b, o + k * 2 + 1, none⟩ = some (.int .i64 x1)⟩, ⟨fun k => k < w.heap.size, fun w' => SA w' a l⟩] w'))
          (first | exact ⟨Sta.c (i := 3) (HS21) rfl rfl, Sta.c (i := 1) (HS21) rfl rfl, (Sta.t (i := 1) (HS21) rfl :).2.1, (HS21)⟩ | exact ⟨Sta.c (i := 3) (Sta.call (HS21) hB22) rfl rfl, Sta.c (i := 1) (Sta.call (HS21) hB22) rfl rfl, (Sta.t (i := 1) (Sta.call (HS21) hB22) rfl :).2.1, (Sta.call (HS21) hB22)⟩)
          (first
            | (go_at_call 30; have n22_0 : SA wl17.drew a l := (Sta.t (i := 2) (HS21) rfl :); (with_reducible refine (hC4 _ x0 n22_0 HN.out HM.out HX.out W0.out HO.out).mono ?_); rintro r w22 ⟨rfl, hB22⟩))
        all_goals
          have HS23 := Sta.call (HS21) hB22
          go_wp2_with (first
            | ((with_reducible refine wpList_storeS (w := w22) (by with_unfolding_all rfl) 43 (.tmp 4) (.tmp 52) (by with_unfolding_all rfl) w5.heap.size [.string ⟨#[]⟩, .slice none 0 0, .slice none 0 0, .slice none 0 0, .int .i64 0] [.string ⟨#[]⟩, .slice none 0 0, .slice none 0 0, .slice none 0 0, .int .i64 9] (by with_unfolding_all rfl) (by with_unfolding_all rfl) (Sta.r (i := 2) HS23 (by with_unfolding_all rfl)) 5 Tryd.sT_implImageOut (by with_unfolding_all rfl) (by with_unfolding_all rfl) (by with_unfolding_all rfl) ?_); intro w24 hA24 hO24; have HS24 := Sta.put 2 HS23 rfl hA24 (by simp) hO24; clear hA24 hO24))
          exact bodyPost_ret (results_V (t := 43) rfl _ w5.heap.size [.string ⟨#[]⟩, .slice none 0 0, .slice none 0 0, .slice none 0 0, .int .i64 9] rfl (Sta.r (i := 2) HS24 (by with_unfolding_all rfl)) Tryd.uT_implImageOut 5 Tryd.sT_implImageOut rfl) rfl ⟨⟨#[]⟩, [], [], [], none, 0, 0, none, 0, 0, none, 0, 0, 9, rfl, Or.inr ⟨HC.out.1, nm, ls, bs, 0, by rw [HC.out.2]; exact HA0.out, Or.inr (Or.inl ⟨rfl, by rw [HF.out]; decide, by rw [HF.out], rfl, rfl, rfl, rfl⟩)⟩, ⟨rfl, rfl, rfl, Nat.zero_le _, Nat.zero_le _, Nat.zero_le _⟩, fun w2 _ => ⟨fun i hi => absurd hi (Nat.not_lt_zero _), fun i hi => absurd hi (Nat.not_lt_zero _), SA.nil _ _⟩, Sta.fin HS24⟩
      · as_aux_lemma =>
        have HO := hidP hf
        have HF := hidP (layG_size hkl hx0 hx1 HG.out hf hz)
        have d9 : (((y.size : Int)) != x1) = true := by simp [hz]
        clear hf hz
        have cHS20_1_1 : wl17.cell? ⟨w8.heap.size, 1, none⟩ = some (.slice (some ⟨b, o, none⟩) y1 c1) := Sta.c (i := 1) HS20 rfl rfl
        go_wp2_with fail
        have HS25 := Sta.drew HS20
        clear cHS20_1_1
        go_region_held3 (fun w' => w'.cell? ⟨w.heap.size, 0, none⟩ = some (.slice a n c) ∧ w'.cell? ⟨w8.heap.size, 1, none⟩ = some (.slice (some ⟨b, o, none⟩) y1 c1) ∧ w'.cell? ⟨b, o + k * 2, none⟩ = some (.string x0) ∧ Hid (Sta [] w [(w13.heap.size, [.string nm, .slice (some ⟨b, o, none⟩) y1 c1, .slice a2 y2 c2, .slice aa na ca, .int .i64 0]), (w8.heap.size, [.string nm, .slice (some ⟨b, o, none⟩) y1 c1, .slice a2 y2 c2]), (w5.heap.size, [.string ⟨#[]⟩, .slice none 0 0, .slice none 0 0, .slice none 0 0, .int .i64 0]), (w.heap.size, [.slice a n c])] [⟨fun k => (Value.slice aa na ca).ownBlock = some k, fun w' => StrO w' w.heap.size (.slice aa na ca) ys⟩, ⟨fun k => w7.heap.size ≤ k ∧ k < w8.heap.size, fun w' => (LayAt w' (some ⟨b, o, none⟩) ls ∧ LabAt w' a2 bs) ∧ w'.cell? ⟨b, o + k * 2, none⟩ = some (.string x0) ∧ w'.cell? ⟨b, o + k * 2 + 1, none⟩ = some (.int .i64 x1)⟩, ⟨fun k => k < w.heap.size, fun w' => SA w' a l⟩] w'))
          (first | exact ⟨Sta.c (i := 3) (HS25) rfl rfl, Sta.c (i := 1) (HS25) rfl rfl, (Sta.t (i := 1) (HS25) rfl :).2.1, (HS25)⟩ | exact ⟨Sta.c (i := 3) (Sta.call (HS25) hB26) rfl rfl, Sta.c (i := 1) (Sta.call (HS25) hB26) rfl rfl, (Sta.t (i := 1) (Sta.call (HS25) hB26) rfl :).2.1, (Sta.call (HS25) hB26)⟩)
          (first
            | (go_at_call 30; have n26_0 : SA wl17.drew a l := (Sta.t (i := 2) (HS25) rfl :); (with_reducible refine (hC5 _ x0 y n26_0 HN.out HM.out HX.out W0.out HO.out).mono ?_); rintro r w26 ⟨rfl, hB26⟩))
        all_goals
          have HS27 := Sta.call (HS25) hB26
          have cHS27_1_1 : w26.cell? ⟨w8.heap.size, 1, none⟩ = some (.slice (some ⟨b, o, none⟩) y1 c1) := Sta.c (i := 1) HS27 rfl rfl
          have tcHS27_1_1 : w26.cell? ⟨b, o + k * 2 + 1, none⟩ = some (.int .i64 x1) := (Sta.t (i := 1) HS27 rfl :).2.2
          go_wp2_with (first
            | ((with_reducible refine wpList_storeS (w := w26) (by with_unfolding_all rfl) 43 (.tmp 4) (.tmp 62) (by with_unfolding_all rfl) w5.heap.size [.string ⟨#[]⟩, .slice none 0 0, .slice none 0 0, .slice none 0 0, .int .i64 0] [.string ⟨#[]⟩, .slice none 0 0, .slice none 0 0, .slice none 0 0, .int .i64 5] (by with_unfolding_all rfl) (by with_unfolding_all rfl) (Sta.r (i := 2) HS27 (by with_unfolding_all rfl)) 5 Tryd.sT_implImageOut (by with_unfolding_all rfl) (by with_unfolding_all rfl) (by with_unfolding_all rfl) ?_); intro w28 hA28 hO28; have HS28 := Sta.put 2 HS27 rfl hA28 (by simp) hO28; clear hA28 hO28; clear cHS27_1_1 tcHS27_1_1))
          exact bodyPost_ret (results_V (t := 43) rfl _ w5.heap.size [.string ⟨#[]⟩, .slice none 0 0, .slice none 0 0, .slice none 0 0, .int .i64 5] rfl (Sta.r (i := 2) HS28 (by with_unfolding_all rfl)) Tryd.uT_implImageOut 5 Tryd.sT_implImageOut rfl) rfl ⟨⟨#[]⟩, [], [], [], none, 0, 0, none, 0, 0, none, 0, 0, 5, rfl, Or.inr ⟨HC.out.1, nm, ls, bs, 0, by rw [HC.out.2]; exact HA0.out, Or.inr (Or.inl ⟨rfl, by rw [HF.out]; decide, by rw [HF.out], rfl, rfl, rfl, rfl⟩)⟩, ⟨rfl, rfl, rfl, Nat.zero_le _, Nat.zero_le _, Nat.zero_le _⟩, fun w2 _ => ⟨fun i hi => absurd hi (Nat.not_lt_zero _), fun i hi => absurd hi (Nat.not_lt_zero _), SA.nil _ _⟩, Sta.fin HS28⟩
      · as_aux_lemma =>
        have HO := hidP hf
        have HG2 := hidP (layG_next hkl hx0 hx1 HG.out hf hz)
        have d9 : (((y.size : Int)) != x1) = false := by simp [hz]
        clear hf hz
        have cHS20_1_1 : wl17.cell? ⟨w8.heap.size, 1, none⟩ = some (.slice (some ⟨b, o, none⟩) y1 c1) := Sta.c (i := 1) HS20 rfl rfl
        go_wp2_with fail
        have HS29 := Sta.drew HS20
        clear cHS20_1_1
        go_region_held3 (fun w' => w'.cell? ⟨w.heap.size, 0, none⟩ = some (.slice a n c) ∧ w'.cell? ⟨w8.heap.size, 1, none⟩ = some (.slice (some ⟨b, o, none⟩) y1 c1) ∧ w'.cell? ⟨b, o + k * 2, none⟩ = some (.string x0) ∧ Hid (Sta [] w [(w13.heap.size, [.string nm, .slice (some ⟨b, o, none⟩) y1 c1, .slice a2 y2 c2, .slice aa na ca, .int .i64 0]), (w8.heap.size, [.string nm, .slice (some ⟨b, o, none⟩) y1 c1, .slice a2 y2 c2]), (w5.heap.size, [.string ⟨#[]⟩, .slice none 0 0, .slice none 0 0, .slice none 0 0, .int .i64 0]), (w.heap.size, [.slice a n c])] [⟨fun k => (Value.slice aa na ca).ownBlock = some k, fun w' => StrO w' w.heap.size (.slice aa na ca) ys⟩, ⟨fun k => w7.heap.size ≤ k ∧ k < w8.heap.size, fun w' => (LayAt w' (some ⟨b, o, none⟩) ls ∧ LabAt w' a2 bs) ∧ w'.cell? ⟨b, o + k * 2, none⟩ = some (.string x0) ∧ w'.cell? ⟨b, o + k * 2 + 1, none⟩ = some (.int .i64 x1)⟩, ⟨fun k => k < w.heap.size, fun w' => SA w' a l⟩] w'))
          (first | exact ⟨Sta.c (i := 3) (HS29) rfl rfl, Sta.c (i := 1) (HS29) rfl rfl, (Sta.t (i := 1) (HS29) rfl :).2.1, (HS29)⟩ | exact ⟨Sta.c (i := 3) (Sta.call (HS29) hB30) rfl rfl, Sta.c (i := 1) (Sta.call (HS29) hB30) rfl rfl, (Sta.t (i := 1) (Sta.call (HS29) hB30) rfl :).2.1, (Sta.call (HS29) hB30)⟩)
          (first
            | (go_at_call 30; have n30_0 : SA wl17.drew a l := (Sta.t (i := 2) (HS29) rfl :); (with_reducible refine (hC5 _ x0 y n30_0 HN.out HM.out HX.out W0.out HO.out).mono ?_); rintro r w30 ⟨rfl, hB30⟩))
        all_goals
          have HS31 := Sta.call (HS29) hB30
          have cHS31_1_1 : w30.cell? ⟨w8.heap.size, 1, none⟩ = some (.slice (some ⟨b, o, none⟩) y1 c1) := Sta.c (i := 1) HS31 rfl rfl
          have tcHS31_1_1 : w30.cell? ⟨b, o + k * 2 + 1, none⟩ = some (.int .i64 x1) := (Sta.t (i := 1) HS31 rfl :).2.2
          have cHS31_0_3 : w30.cell? ⟨w13.heap.size, 3, none⟩ = some (.slice aa na ca) := Sta.c (i := 0) HS31 rfl rfl
          go_wp2_with (first
            | ((with_reducible refine wpList_buildStr (w := w30) (by with_unfolding_all rfl) (.tmp 65) (by with_unfolding_all rfl) y (by with_unfolding_all rfl) ?_); intro w32 hA32 hB32; have HS32 := Sta.new HS31 hA32 hB32 (by simp); clear hA32 hB32; clear cHS31_1_1 tcHS31_1_1 cHS31_0_3)
            | ((with_reducible refine wpList_appendStr (W := w32) (by with_unfolding_all rfl) (.tmp 64) (.tmp 66) (by with_unfolding_all rfl) w.heap.size (.slice aa na ca) ys y (by with_unfolding_all rfl) (Sta.t (i := 0) HS32 rfl) w30.heap.size (by with_unfolding_all rfl) (Sta.r (i := 0) HS32 (by with_unfolding_all rfl)) (by have := HLn.out; have := HN1.out; have := Hln.out.2.2.1; omega) (Sta.size HS32) ?_); intro v33 w33 hO33 hG33 hb33; obtain ⟨a33, m33, c33, hm33, rfl⟩ := StrO.form hO33; have HS33 := Sta.app 0 HS32 rfl (Nat.le_refl _) hO33 hG33 hb33; have Hm33 := hidP hm33; clear hO33 hG33 hb33 hm33)
            | ((with_reducible refine wpList_cellS (w := w33) (by with_unfolding_all rfl) 22 (.tmp 68) (.tmp 67) (by with_unfolding_all rfl) w13.heap.size 3 [.string nm, .slice (some ⟨b, o, none⟩) y1 c1, .slice a2 y2 c2, .slice aa na ca, .int .i64 0] [.string nm, .slice (some ⟨b, o, none⟩) y1 c1, .slice a2 y2 c2, .slice a33 m33 c33, .int .i64 0] (.slice a33 m33 c33) (by with_unfolding_all rfl) (by with_unfolding_all rfl) (by with_unfolding_all rfl) Tryd.s1_slstring (Sta.r (i := 1) HS33 (by with_unfolding_all rfl)) (by simp) (by with_unfolding_all rfl) ?_); intro w34 hA34 hO34; have HS34 := Sta.put 1 HS33 rfl hA34 (by simp) hO34; clear hA34 hO34))
          have HS35 := Sta.imp 1 (fun w' => LayAt w' (some ⟨b, o, none⟩) ls ∧ LabAt w' a2 bs) HS34 rfl (fun w' h => h.1)
          go_roundw
          case rel => exact ⟨k + 1, a33, m33, c33, (ys ++ [y]), by go_num, hlt17, by show _ = _; rw [List.length_append, HLn.out]; rfl, HG2.out, Sta.drop 1 0 HS35⟩
          case measure => simp [intOf]; omega
set_option maxRecDepth 100000 in
set_option maxHeartbeats 8000000 in
theorem specMat (a : Option Addr) (c n : Nat) (l : List ByteArray) (t : ByteArray) (w : World) (hn : l.length = n) (h : SA w a l) (hm : n ≤ maxLen) (hx : ∀ x ∈ l, x.size ≤ maxLen) (ht : t.size ≤ maxLen) :
    Calls Tryd.prog 18 #[.agg #[.slice a n c], .string t] w fun r w' => ∃ (nm : ByteArray) (ls : List LayV) (bs : List LabV) (ys : List ByteArray) (a1 : Option Addr) (m1 c1 : Nat) (a2 : Option Addr) (m2 c2 : Nat) (a3 : Option Addr) (m3 c3 : Nat) (cc : Int), r = .returned (.agg #[.string nm, .slice a1 m1 c1, .slice a2 m2 c2, .slice a3 m3 c3, .int .i64 cc]) ∧ ImAns l t nm ls bs ys cc ∧ (m1 = ls.length ∧ m2 = bs.length ∧ m3 = ys.length ∧ ls.length ≤ 10 ∧ bs.length ≤ 10 ∧ ys.length ≤ 10) ∧ Made w w' (fun w2 => LayAt w2 a1 ls ∧ LabAt w2 a2 bs ∧ SA w2 a3 ys) ∧ Below w.heap.size w w' := by
  have HM := hidP hm
  unfold maxLen at hm
  have HN := hidP hn
  have HX := hidP hx
  have HT := hidP ht
  unfold maxLen at ht
  have hC1 : ∀ w0, (SA w0 a l) → (l.length = n) → (n ≤ maxLen) → (∀ x ∈ l, x.size ≤ maxLen) → (¬ StOk l) → Calls Tryd.prog 8 #[.agg #[.slice a n c]] w0 fun r w' => r = .returned (.bool false) ∧ Below w0.heap.size w0 w' := fun w0 n0 n1 n2 n3 n4 => by rw [← boolP_no n4]; exact specStRight a c n l w0 n1 n0 n2 n3
  have hC2 : ∀ w0, (SA w0 a l) → (l.length = n) → (n ≤ maxLen) → (∀ x ∈ l, x.size ≤ maxLen) → (StOk l) → Calls Tryd.prog 8 #[.agg #[.slice a n c]] w0 fun r w' => r = .returned (.bool true) ∧ Below w0.heap.size w0 w' := fun w0 n0 n1 n2 n3 n4 => by rw [← boolP_yes n4]; exact specStRight a c n l w0 n1 n0 n2 n3
  have hC3 : ∀ w0, (SA w0 a l) → (l.length = n) → (n ≤ maxLen) → (∀ x ∈ l, x.size ≤ maxLen) → (t.size ≤ maxLen) → (¬ 20000 < t.size) → (StOk l) → Calls Tryd.prog 35 #[.agg #[.slice a n c], .string t] w0 fun r w' => ∃ (nm : ByteArray) (ls : List LayV) (bs : List LabV) (ys : List ByteArray) (a1 : Option Addr) (y1 : Nat) (c1 : Nat) (a2 : Option Addr) (y2 : Nat) (c2 : Nat) (a3 : Option Addr) (y3 : Nat) (c3 : Nat) (cc : Int), r = .returned (.agg #[.string nm, .slice a1 y1 c1, .slice a2 y2 c2, .slice a3 y3 c3, .int .i64 cc]) ∧ ImAns l t nm ls bs ys cc ∧ (y1 = ls.length ∧ y2 = bs.length ∧ y3 = ys.length ∧ ls.length ≤ 10 ∧ bs.length ≤ 10 ∧ ys.length ≤ 10) ∧ Made w0 w' (fun w2 => LayAt w2 a1 ls ∧ LabAt w2 a2 bs ∧ SA w2 a3 ys) ∧ Below w0.heap.size w0 w' := fun w0 n0 n1 n2 n3 n4 n5 n6 => specImg a c n l t w0 n1 n0 n2 n3 n4 n5 n6
  have HS0 : Hid (Sta [] w [] [⟨fun k => k < w.heap.size, fun w' => SA w' a l⟩] w) := Sta.arg (fun w' => SA w' a l) (fun w' hb => h.below hb)
  clear hn h hx
  go_enter Tryd.func18, Tryd.ntmps18
  have hb3 : 20000 < t.size ∨ (¬ 20000 < t.size ∧ ¬ StOk l) ∨ (¬ 20000 < t.size ∧ StOk l) := by by_cases g : 20000 < t.size <;> by_cases q : StOk l <;> simp [g, q]
  rcases hb3 with g | ⟨g, q⟩ | ⟨g, q⟩
  · as_aux_lemma =>
    have d5 : decide ((20000 : Int) < (t.size : Int)) = true := decide_eq_true (by omega)
    have HC := hidP (getC_big (l := l) g)
    go_wp2_with (first
      | ((with_reducible refine wpList_boxV (w := w) (by with_unfolding_all rfl) 27 (.tmp 0) (by with_unfolding_all rfl) [.slice a n c] (by with_unfolding_all rfl) ?_); intro w1 hA1 hB1 hS1; clear hS1; have HS1 := Sta.new HS0 hA1 hB1 (by simp); clear hA1 hB1)
      | ((with_reducible refine wpList_allocV (w := w1) (by with_unfolding_all rfl) 43 (by with_unfolding_all rfl) [.string ⟨#[]⟩, .slice none 0 0, .slice none 0 0, .slice none 0 0, .int .i64 0] Tryd.zT_implImageOut ?_); intro w2 hA2 hB2 hS2; clear hS2; have HS2 := Sta.new HS1 hA2 hB2 (by simp); clear hA2 hB2)
      | ((with_reducible refine wpList_storeS (w := w2) (by with_unfolding_all rfl) 43 (.tmp 4) (.tmp 8) (by with_unfolding_all rfl) w1.heap.size [.string ⟨#[]⟩, .slice none 0 0, .slice none 0 0, .slice none 0 0, .int .i64 0] [.string ⟨#[]⟩, .slice none 0 0, .slice none 0 0, .slice none 0 0, .int .i64 2] (by with_unfolding_all rfl) (by with_unfolding_all rfl) (Sta.r (i := 0) HS2 (by with_unfolding_all rfl)) 5 Tryd.sT_implImageOut (by with_unfolding_all rfl) (by with_unfolding_all rfl) (by with_unfolding_all rfl) ?_); intro w3 hA3 hO3; have HS3 := Sta.put 0 HS2 rfl hA3 (by simp) hO3; clear hA3 hO3))
    exact bodyPost_ret (results_V (t := 43) rfl _ w1.heap.size [.string ⟨#[]⟩, .slice none 0 0, .slice none 0 0, .slice none 0 0, .int .i64 2] rfl (Sta.r (i := 0) HS3 (by with_unfolding_all rfl)) Tryd.uT_implImageOut 5 Tryd.sT_implImageOut rfl) rfl ⟨⟨#[]⟩, [], [], [], none, 0, 0, none, 0, 0, none, 0, 0, 2, rfl, Or.inl ⟨by rw [HC.out]; decide, HC.out.symm, rfl, rfl, rfl, rfl⟩, ⟨rfl, rfl, rfl, Nat.zero_le _, Nat.zero_le _, Nat.zero_le _⟩, fun w2 _ => ⟨fun i hi => absurd hi (Nat.not_lt_zero _), fun i hi => absurd hi (Nat.not_lt_zero _), SA.nil _ _⟩, Sta.fin HS3⟩
  · as_aux_lemma =>
    have d5 : decide ((20000 : Int) < (t.size : Int)) = false := decide_eq_false (by omega)
    have HC := hidP (getC_bad g q)
    have HSx := hidP q
    clear q
    go_wp2_with (first
      | ((with_reducible refine wpList_boxV (w := w) (by with_unfolding_all rfl) 27 (.tmp 0) (by with_unfolding_all rfl) [.slice a n c] (by with_unfolding_all rfl) ?_); intro w4 hA4 hB4 hS4; clear hS4; have HS4 := Sta.new HS0 hA4 hB4 (by simp); clear hA4 hB4)
      | ((with_reducible refine wpList_allocV (w := w4) (by with_unfolding_all rfl) 43 (by with_unfolding_all rfl) [.string ⟨#[]⟩, .slice none 0 0, .slice none 0 0, .slice none 0 0, .int .i64 0] Tryd.zT_implImageOut ?_); intro w5 hA5 hB5 hS5; clear hS5; have HS5 := Sta.new HS4 hA5 hB5 (by simp); clear hA5 hB5)
      | ((with_reducible refine wpList_loadV (w := w5) (by with_unfolding_all rfl) 27 (.tmp 2) (by with_unfolding_all rfl) w.heap.size [.slice a n c] (by with_unfolding_all rfl) (Sta.r (i := 1) HS5 (by with_unfolding_all rfl)) Tryd.uT_implStore 1 Tryd.sT_implStore (by with_unfolding_all rfl) ?_))
      | (go_at_call 8; have n6_0 : SA w5 a l := (Sta.t (i := 0) HS5 rfl :); (with_reducible refine (hC1 w5 n6_0 HN.out HM.out HX.out HSx.out).mono ?_); rintro r w6 ⟨rfl, hB6⟩; have HS6 := Sta.call HS5 hB6; clear hB6)
      | ((with_reducible refine wpList_storeS (w := w6) (by with_unfolding_all rfl) 43 (.tmp 4) (.tmp 12) (by with_unfolding_all rfl) w4.heap.size [.string ⟨#[]⟩, .slice none 0 0, .slice none 0 0, .slice none 0 0, .int .i64 0] [.string ⟨#[]⟩, .slice none 0 0, .slice none 0 0, .slice none 0 0, .int .i64 1] (by with_unfolding_all rfl) (by with_unfolding_all rfl) (Sta.r (i := 0) HS6 (by with_unfolding_all rfl)) 5 Tryd.sT_implImageOut (by with_unfolding_all rfl) (by with_unfolding_all rfl) (by with_unfolding_all rfl) ?_); intro w7 hA7 hO7; have HS7 := Sta.put 0 HS6 rfl hA7 (by simp) hO7; clear hA7 hO7))
    exact bodyPost_ret (results_V (t := 43) rfl _ w4.heap.size [.string ⟨#[]⟩, .slice none 0 0, .slice none 0 0, .slice none 0 0, .int .i64 1] rfl (Sta.r (i := 0) HS7 (by with_unfolding_all rfl)) Tryd.uT_implImageOut 5 Tryd.sT_implImageOut rfl) rfl ⟨⟨#[]⟩, [], [], [], none, 0, 0, none, 0, 0, none, 0, 0, 1, rfl, Or.inl ⟨by rw [HC.out]; decide, HC.out.symm, rfl, rfl, rfl, rfl⟩, ⟨rfl, rfl, rfl, Nat.zero_le _, Nat.zero_le _, Nat.zero_le _⟩, fun w2 _ => ⟨fun i hi => absurd hi (Nat.not_lt_zero _), fun i hi => absurd hi (Nat.not_lt_zero _), SA.nil _ _⟩, Sta.fin HS7⟩
  · as_aux_lemma =>
    have d5 : decide ((20000 : Int) < (t.size : Int)) = false := decide_eq_false (by omega)
    have HBg := hidP g
    have HSx := hidP q
    clear q
    go_wp2_with (first
      | ((with_reducible refine wpList_boxV (w := w) (by with_unfolding_all rfl) 27 (.tmp 0) (by with_unfolding_all rfl) [.slice a n c] (by with_unfolding_all rfl) ?_); intro w8 hA8 hB8 hS8; clear hS8; have HS8 := Sta.new HS0 hA8 hB8 (by simp); clear hA8 hB8)
      | ((with_reducible refine wpList_allocV (w := w8) (by with_unfolding_all rfl) 43 (by with_unfolding_all rfl) [.string ⟨#[]⟩, .slice none 0 0, .slice none 0 0, .slice none 0 0, .int .i64 0] Tryd.zT_implImageOut ?_); intro w9 hA9 hB9 hS9; clear hS9; have HS9 := Sta.new HS8 hA9 hB9 (by simp); clear hA9 hB9)
      | ((with_reducible refine wpList_loadV (w := w9) (by with_unfolding_all rfl) 27 (.tmp 2) (by with_unfolding_all rfl) w.heap.size [.slice a n c] (by with_unfolding_all rfl) (Sta.r (i := 1) HS9 (by with_unfolding_all rfl)) Tryd.uT_implStore 1 Tryd.sT_implStore (by with_unfolding_all rfl) ?_))
      | (go_at_call 8; have n10_0 : SA w9 a l := (Sta.t (i := 0) HS9 rfl :); (with_reducible refine (hC2 w9 n10_0 HN.out HM.out HX.out HSx.out).mono ?_); rintro r w10 ⟨rfl, hB10⟩; have HS10 := Sta.call HS9 hB10; clear hB10)
      | ((with_reducible refine wpList_loadV (w := w10) (by with_unfolding_all rfl) 27 (.tmp 2) (by with_unfolding_all rfl) w.heap.size [.slice a n c] (by with_unfolding_all rfl) (Sta.r (i := 1) HS10 (by with_unfolding_all rfl)) Tryd.uT_implStore 1 Tryd.sT_implStore (by with_unfolding_all rfl) ?_))
      | (go_at_call 35; have n11_0 : SA w10 a l := (Sta.t (i := 0) HS10 rfl :); (with_reducible refine (hC3 w10 n11_0 HN.out HM.out HX.out HT.out HBg.out HSx.out).mono ?_); rintro r w11 ⟨nm, ls, bs, ys, a1, y1, c1, a2, y2, c2, a3, y3, c3, cc, rfl, an, ln, hP11, hB11⟩; have Han := hidP an; clear an; have Hln := hidP ln; clear ln; have HS11 := Sta.made HS10 hB11 hP11; clear hB11 hP11)
      | ((with_reducible refine wpList_storeS (w := w11) (by with_unfolding_all rfl) 43 (.tmp 4) (.tmp 15) (by with_unfolding_all rfl) w8.heap.size [.string ⟨#[]⟩, .slice none 0 0, .slice none 0 0, .slice none 0 0, .int .i64 0] [.string nm, .slice a1 y1 c1, .slice a2 y2 c2, .slice a3 y3 c3, .int .i64 cc] (by with_unfolding_all rfl) (by with_unfolding_all rfl) (Sta.r (i := 0) HS11 (by with_unfolding_all rfl)) 5 Tryd.sT_implImageOut (by with_unfolding_all rfl) (by with_unfolding_all rfl) (by with_unfolding_all rfl) ?_); intro w12 hA12 hO12; have HS12 := Sta.put 0 HS11 rfl hA12 (by simp) hO12; clear hA12 hO12))
    exact bodyPost_ret (results_V (t := 43) rfl _ w8.heap.size [.string nm, .slice a1 y1 c1, .slice a2 y2 c2, .slice a3 y3 c3, .int .i64 cc] rfl (Sta.r (i := 0) HS12 (by with_unfolding_all rfl)) Tryd.uT_implImageOut 5 Tryd.sT_implImageOut rfl) rfl ⟨nm, ls, bs, ys, a1, y1, c1, a2, y2, c2, a3, y3, c3, cc, rfl, Han.out, Hln.out, Sta.made_of (i := 0) HS12 rfl (fun k hk => Nat.le_trans (Sta.size HS10) hk.1), Sta.fin HS12⟩
end Go.Proofs.YtchfpiadfmnphaaDoor
