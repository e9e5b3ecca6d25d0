/- TargetsRead, on both sides: one answer; the law. For every text the program's TargetsRead answers as the specification's, and the law FnExactTargetsRead answers true; no condition. -/
import Derived.Test.YtmahpmjkejnkfaaMtB
import Derived.Test.YtmahpmjkejnkfaaMtD
import Derived.Test.YtmahpmjkejnkfaaRows
import Derived.WalkKit
import Derived.ProofKit
import Derived.OpenShut
import Derived.ShutString
import Derived.Below
import Derived.ChangeOld
import Derived.Carry
import Derived.Lib.SmallJoins
namespace Go.Proofs.Ytmahpmjkejnkfaa
open Go.RowKit
set_option linter.unusedVariables false

theorem ownTg_at {w : World} {base n c : Nat} {a : Option Addr} {l : List TarV} (h : OwnTg w base (.slice a n c) l) : TgsAt w a l := by
  obtain ⟨a', c', e, hs⟩ := h.form
  injection e with e1 e2 e3
  subst e1
  exact hs
theorem ownTg_len {w : World} {base n c : Nat} {a : Option Addr} {l : List TarV} (h : OwnTg w base (.slice a n c) l) : l.length = n := by
  obtain ⟨a', c', e, hs⟩ := h.form
  injection e with e1 e2 e3
  exact e2.symm
theorem TgsAt.off {w w' : World} {a : Option Addr} {l : List TarV} {G : Nat} (h : TgsAt w a l) (hF : ∀ k, k ≠ G → w'.heap[k]? = w.heap[k]?) (hn : ∀ ad, a = some ad → ad.block ≠ G) : TgsAt w' a l := fun i hi => by
  obtain ⟨b, o, e, h1, h2, h3⟩ := h i hi
  have hb : b ≠ G := hn _ e
  exact ⟨b, o, e, (same_far (x := ⟨b, _, none⟩) (hF b hb)).1.trans h1, (same_far (x := ⟨b, _, none⟩) (hF b hb)).1.trans h2, (same_far (x := ⟨b, _, none⟩) (hF b hb)).1.trans h3⟩
set_option maxRecDepth 100000 in
theorem markTs_any (v e : Int) (a : Option Addr) (c n : Nat) (L : List Value) (k0 : Nat) (w : World) (hL : L.length = 3 * n) (h : VR w a L) (hn : n ≤ 1000) (h0 : 1 ≤ k0) (h1 : k0 ≤ 1000) :
    Calls Try.prog 57 #[.agg #[.int .i64 v, .int .i64 e, .slice a n c], .int .i64 (k0 : Int)] w fun e w' => e = .returned (.int .i64 ((k0 + 3 * n : Nat) : Int)) ∧ VR w' a (mkC k0 (3 * n)) ∧ MkW a w w' := by
  have hM : ∀ w0, VR w0 a L → Calls Try.prog 98 #[.slice a n c, .int .i64 (k0 : Int)] w0 fun e w' => e = .returned (.int .i64 ((k0 + 3 * n : Nat) : Int)) ∧ VR w' a (mkC k0 (3 * n)) ∧ MkW a w0 w' := fun w0 hh => markTgS_any a c n k0 L w0 hL hh hn h0 h1
  have HI : Hid (VR w a L) := h
  generalize ((k0 + 3 * n : Nat) : Int) = R at *
  clear h hL
  go_enter Try.func57, Try.ntmps57
  go_wp2_with (first
    | (with_reducible refine wpList_boxV (w := w) (by with_unfolding_all rfl) 44 (.tmp 0) (by with_unfolding_all rfl) (rtv v e a n c) (by with_unfolding_all rfl) ?_; intro w1 hA1 hB1 hS1; clear hS1; obtain ⟨p0, p1, p2⟩ := hA1.rt3; have HI1 := hidP (HI.out.below hB1))
    | (go_at_call 98; with_reducible refine (hM w1 HI1.out).mono ?_; rintro e w2 ⟨rfl, hI2, hW2⟩; have HI2 := hidP hI2; have HW2 := hidP hW2; clear hI2 hW2 p0 p1 p2))
  go_ret
  exact ⟨rfl, HI2.out, HW2.out.pre hB1⟩
set_option maxRecDepth 100000 in
theorem heldTs_any (v e : Int) (a : Option Addr) (c n : Nat) (k0 : Nat) (w : World) (h : VR w a (mkC k0 (3 * n))) (hn : n ≤ 1000) (h0 : 1 ≤ k0) (h1 : k0 ≤ 1000) :
    Calls Try.prog 58 #[.agg #[.int .i64 v, .int .i64 e, .slice a n c], .int .i64 (k0 : Int)] w fun e w' => e = .returned (.int .i64 ((k0 + 3 * n : Nat) : Int)) ∧ Below w.heap.size w w' := by
  have hM : ∀ w0, VR w0 a (mkC k0 (3 * n)) → Calls Try.prog 99 #[.slice a n c, .int .i64 (k0 : Int)] w0 fun e w' => e = .returned (.int .i64 ((k0 + 3 * n : Nat) : Int)) ∧ Below w0.heap.size w0 w' := fun w0 hh => heldTgS_any a c n k0 w0 hh hn h0 h1
  have HI : Hid (VR w a (mkC k0 (3 * n))) := h
  have hR : 0 ≤ ((k0 + 3 * n : Nat) : Int) := by omega
  generalize ((k0 + 3 * n : Nat) : Int) = R at *
  have d1 : decide (R < 0) = false := decide_eq_false (by omega)
  clear h
  go_enter Try.func58, Try.ntmps58
  go_wp2_with (first
    | (with_reducible refine wpList_boxV (w := w) (by with_unfolding_all rfl) 44 (.tmp 0) (by with_unfolding_all rfl) (rtv v e a n c) (by with_unfolding_all rfl) ?_; intro w1 hA1 hB1 hS1; clear hS1; obtain ⟨p0, p1, p2⟩ := hA1.rt3; have HI1 := hidP (HI.out.below hB1))
    | (go_at_call 99; with_reducible refine (hM w1 HI1.out).mono ?_; rintro e w2 ⟨rfl, hB2⟩; clear p0 p1 p2))
  go_ret
  exact ⟨rfl, hB1.trans (hB2.mono hB1.size)⟩
set_option maxRecDepth 100000 in
theorem markTo_any (v e : Int) (a : Option Addr) (c n : Nat) (z : Int) (L : List Value) (k0 : Nat) (w : World) (hL : L.length = 3 * n) (h : VR w a L) (hn : n ≤ 1000) (h0 : 1 ≤ k0) (h1 : k0 ≤ 1000) :
    Calls Try.prog 21 #[.agg #[.int .i64 v, .int .i64 e, .slice a n c, .int .i64 z], .int .i64 (k0 : Int)] w fun e w' => e = .returned (.int .i64 ((k0 + 3 * n : Nat) : Int)) ∧ VR w' a (mkC k0 (3 * n)) ∧ MkW a w w' := by
  have hM : ∀ w0, VR w0 a L → Calls Try.prog 57 #[.agg #[.int .i64 v, .int .i64 e, .slice a n c], .int .i64 (k0 : Int)] w0 fun e w' => e = .returned (.int .i64 ((k0 + 3 * n : Nat) : Int)) ∧ VR w' a (mkC k0 (3 * n)) ∧ MkW a w0 w' := fun w0 hh => markTs_any v e a c n L k0 w0 hL hh hn h0 h1
  have HI : Hid (VR w a L) := h
  generalize ((k0 + 3 * n : Nat) : Int) = R at *
  clear h hL
  go_enter Try.func21, Try.ntmps21
  go_wp2_with (first
    | (with_reducible refine wpList_boxV (w := w) (by with_unfolding_all rfl) 46 (.tmp 0) (by with_unfolding_all rfl) (tov v e a n c z) (by with_unfolding_all rfl) ?_; intro w1 hA1 hB1 hS1; clear hS1; obtain ⟨p0, p1, p2, p3⟩ := hA1.to4; have HI1 := hidP (HI.out.below hB1))
    | (go_at_call 57; with_reducible refine (hM w1 HI1.out).mono ?_; rintro e w2 ⟨rfl, hI2, hW2⟩; have HI2 := hidP hI2; have HW2 := hidP hW2; clear hI2 hW2 p0 p1 p2 p3))
  go_ret
  exact ⟨rfl, HI2.out, HW2.out.pre hB1⟩
set_option maxRecDepth 100000 in
theorem heldTo_any (v e : Int) (a : Option Addr) (c n : Nat) (z : Int) (k0 : Nat) (w : World) (h : VR w a (mkC k0 (3 * n))) (hn : n ≤ 1000) (h0 : 1 ≤ k0) (h1 : k0 ≤ 1000) :
    Calls Try.prog 22 #[.agg #[.int .i64 v, .int .i64 e, .slice a n c, .int .i64 z], .int .i64 (k0 : Int)] w fun e w' => e = .returned (.int .i64 ((k0 + 3 * n : Nat) : Int)) ∧ Below w.heap.size w w' := by
  have hM : ∀ w0, VR w0 a (mkC k0 (3 * n)) → Calls Try.prog 58 #[.agg #[.int .i64 v, .int .i64 e, .slice a n c], .int .i64 (k0 : Int)] w0 fun e w' => e = .returned (.int .i64 ((k0 + 3 * n : Nat) : Int)) ∧ Below w0.heap.size w0 w' := fun w0 hh => heldTs_any v e a c n k0 w0 hh hn h0 h1
  have HI : Hid (VR w a (mkC k0 (3 * n))) := h
  have hR : 0 ≤ ((k0 + 3 * n : Nat) : Int) := by omega
  generalize ((k0 + 3 * n : Nat) : Int) = R at *
  have d1 : decide (R < 0) = false := decide_eq_false (by omega)
  clear h
  go_enter Try.func22, Try.ntmps22
  go_wp2_with (first
    | (with_reducible refine wpList_boxV (w := w) (by with_unfolding_all rfl) 46 (.tmp 0) (by with_unfolding_all rfl) (tov v e a n c z) (by with_unfolding_all rfl) ?_; intro w1 hA1 hB1 hS1; clear hS1; obtain ⟨p0, p1, p2, p3⟩ := hA1.to4; have HI1 := hidP (HI.out.below hB1))
    | (go_at_call 58; with_reducible refine (hM w1 HI1.out).mono ?_; rintro e w2 ⟨rfl, hB2⟩; clear p0 p1 p2 p3))
  go_ret
  exact ⟨rfl, hB1.trans (hB2.mono hB1.size)⟩
set_option maxRecDepth 100000 in
theorem eqTo_any (v e : Int) (a1 a2 : Option Addr) (c1 c2 n : Nat) (z : Int) (l : List TarV) (w : World) (hn : l.length = n) (h1 : TgsAt w a1 l) (h2 : TgsAt w a2 l) (hb : n ≤ maxLen) :
    Calls Try.prog 20 #[.agg #[.int .i64 v, .int .i64 e, .slice a1 n c1, .int .i64 z], .agg #[.int .i64 v, .int .i64 e, .slice a2 n c2, .int .i64 z]] w fun e w' => e = .returned (.bool true) ∧ Below w.heap.size w w' := by
  have HS0 := KpF2.start h1 h2
  have hE : ∀ w0, Hid (KpF2 w a1 a2 l w0) → Calls Try.prog 56 #[.agg #[.int .i64 v, .int .i64 e, .slice a1 n c1], .agg #[.int .i64 v, .int .i64 e, .slice a2 n c2]] w0 fun e w' => e = .returned (.bool true) ∧ Below w0.heap.size w0 w' := fun w0 h0 => eqTs_any v e a1 a2 c1 c2 n l w0 hn h0.out.s1 h0.out.s2 hb
  have e1 : (z == z) = true := by simp
  clear h1 h2 hn
  go_enter Try.func20, Try.ntmps20
  go_wp2_with (first
    | (with_reducible refine wpList_boxV (w := w) (by with_unfolding_all rfl) 46 (.tmp 0) (by with_unfolding_all rfl) (tov v e a1 n c1 z) (by with_unfolding_all rfl) ?_; intro w1 hA1 hB1 hS1; have z1 : w.heap.size < w1.heap.size := (by omega); clear hS1; have HS1 := KpF2.call HS0 hB1)
    | (with_reducible refine wpList_boxV (w := w1) (by with_unfolding_all rfl) 46 (.tmp 1) (by with_unfolding_all rfl) (tov v e a2 n c2 z) (by with_unfolding_all rfl) ?_; intro w2 hA2 hB2 hS2; clear hS2; have V2 := hA1.below hB2 z1; obtain ⟨p0, p1, p2, p3⟩ := V2.to4; obtain ⟨q0, q1, q2, q3⟩ := hA2.to4; have HS2 := KpF2.call HS1 hB2)
    | (go_at_call 56; with_reducible refine (hE w2 HS2).mono ?_; rintro e w3 ⟨rfl, hB3⟩; have HS3 := KpF2.call HS2 hB3; clear p0 p1 p2 p3 q0 q1 q2 q3; obtain ⟨p0, p1, p2, p3⟩ := (V2.below hB3 (V2.lt (tov_ne _ _ _ _ _ _))).to4; obtain ⟨q0, q1, q2, q3⟩ := (hA2.below hB3 (hA2.lt (tov_ne _ _ _ _ _ _))).to4))
  go_ret
  exact ⟨rfl, HS3.out.below⟩
set_option maxRecDepth 100000 in
set_option maxHeartbeats 1000000 in
theorem specTargetsRd (t : ByteArray) (w : World) (hs : t.size ≤ maxLen) :
    Calls Try.prog 18 #[.string t] w fun r w' => ∃ x y l a n cp c, r = .returned (.agg #[.int .i64 x, .int .i64 y, .slice a n cp, .int .i64 c]) ∧ l.length = n ∧ TgsAt w' a l ∧ n ≤ 20 ∧ TgAns t x y l c ∧ Below w.heap.size w w' := by
  have hR : ∀ w0, Calls Try.prog 53 #[.string t] w0 fun r w' => ∃ x y l a n c ok, r = .returned (.tuple #[.agg #[.int .i64 x, .int .i64 y, .slice a n c], .bool ok]) ∧ l.length = n ∧ TgsAt w' a l ∧ (∀ ad, a = some ad → w0.heap.size ≤ ad.block) ∧ n ≤ 20 ∧ ((ok = true ∧ TargetsOk t x y l) ∨ (ok = false ∧ ¬ ∃ v e l, TargetsOk t v e l)) ∧ Below w0.heap.size w0 w' := fun w0 => spTargets t w0 hs
  unfold maxLen at hs
  by_cases hbig : 20000 < t.size
  · have d1 : decide ((20000 : Int) < (t.size : Int)) = true := decide_eq_true (by omega)
    have HAn : Hid (TgAns t 0 0 [] 2) := Or.inl ⟨hbig, rfl, rfl, rfl, rfl⟩
    clear hR hbig
    go_enter Try.func18, Try.ntmps18
    go_wp2_with (first
      | (with_reducible refine wpList_allocV (w := w) (by with_unfolding_all rfl) 46 (by with_unfolding_all rfl) (tov 0 0 none 0 0 0) Try.infoTgo ?_; intro w1 hA1 hB1 hS1; clear hS1)
      | (with_reducible refine wpList_storeH (w := w1) (by with_unfolding_all rfl) 46 (.tmp 2) (.tmp 8) (by with_unfolding_all rfl) w.heap.size (tov 0 0 none 0 0 0) (tov 0 0 none 0 0 2) (by with_unfolding_all rfl) (by with_unfolding_all rfl) hA1 4 Try.sizeTgo (by with_unfolding_all rfl) (by with_unfolding_all rfl) (tov_one _ _ _ _ _ _) ?_; intro w5 hA5 hB5 hF5 hS5; have B5 : Below w.heap.size w w5 := hB1.trans (hB5 _ (Nat.le_refl _))))
    exact bodyPost_ret (results_V (t := 46) rfl _ w.heap.size _ rfl hA5 Try.undTgo 4 Try.sizeTgo rfl) rfl ⟨0, 0, [], none, 0, 0, 2, rfl, rfl, fun i hi => absurd hi (Nat.not_lt_zero _), by omega, HAn.out, B5⟩
  have d1 : decide ((20000 : Int) < (t.size : Int)) = false := decide_eq_false (by omega)
  have HS : Hid (t.size ≤ 20000) := by show _ ≤ _; omega
  clear hbig
  go_enter Try.func18, Try.ntmps18
  go_wp2_with (first
    | (with_reducible refine wpList_allocV (w := w) (by with_unfolding_all rfl) 46 (by with_unfolding_all rfl) (tov 0 0 none 0 0 0) Try.infoTgo ?_; intro w1 hA1 hB1 hS1; have z1 : w.heap.size < w1.heap.size := (by omega); clear hS1))
  refine (hR w1).mono ?_
  rintro r w2 ⟨x, y, l, a, n, cp, ok, rfl, hl, hat, hab, hn16, hAn, hB2⟩
  have HAn : Hid ((ok = true ∧ TargetsOk t x y l) ∨ (ok = false ∧ ¬ ∃ v e l, TargetsOk t v e l)) := hAn
  have HL : Hid (l.length = n) := hl
  have HAt : Hid (TgsAt w2 a l) := hat
  have R2 := hA1.below hB2 z1
  have B2 : Below w.heap.size w w2 := hB1.trans (hB2.mono (Nat.le_of_lt z1))
  have HNe : Hid (∀ ad, a = some ad → ad.block ≠ w.heap.size) := fun ad e => by have := hab ad e; omega
  clear hAn hR hA1 hB1 hB2 hl hat hab
  cases ok with
  | true =>
    have HLA : Hid (TgAns t x y l 0) := HAn.out.elim (fun h => Or.inr (Or.inl ⟨HS.out, h.2, rfl⟩)) (fun h => by cases h.1)
    go_wp2_with (first
      | (with_reducible refine wpList_allocV (w := w2) (by with_unfolding_all rfl) 44 (by with_unfolding_all rfl) (rtv 0 0 none 0 0) Try.infoTsz ?_; intro w3 hA3 hB3 hS3; clear hS3; have R3 := R2.below hB3 (R2.lt (tov_ne _ _ _ _ _ _)))
      | (with_reducible refine wpList_storeH (w := w3) (by with_unfolding_all rfl) 44 (.tmp 3) (.tmp 12) (by with_unfolding_all rfl) w2.heap.size (rtv 0 0 none 0 0) (rtv x y a n cp) (by with_unfolding_all rfl) (by with_unfolding_all rfl) hA3 3 Try.sizeTs (by with_unfolding_all rfl) (by with_unfolding_all rfl) (rtv_one _ _ _ _ _) ?_; intro w4 hA4 hB4 hF4 hS4; have R4 := (Only.set hB4 hF4 hS4).row R3 (tov_ne _ _ _ _ _ _) (Nat.ne_of_lt (R2.lt (tov_ne _ _ _ _ _ _))); have B4 : Below w2.heap.size w2 w4 := hB3.trans (hB4 _ (Nat.le_refl _)); obtain ⟨p0, p1, p2⟩ := hA4.rt3)
      | (with_reducible refine wpList_storeH (w := w4) (by with_unfolding_all rfl) 46 (.tmp 2) (.tmp 18) (by with_unfolding_all rfl) w.heap.size (tov 0 0 none 0 0 0) (tov x y a n cp 0) (by with_unfolding_all rfl) (by with_unfolding_all rfl) R4 4 Try.sizeTgo (by with_unfolding_all rfl) (by with_unfolding_all rfl) (tov_one _ _ _ _ _ _) ?_; intro w5 hA5 hB5 hF5 hS5; have B5 : Below w.heap.size w w5 := (B2.trans (B4.mono B2.size)).trans (hB5 _ (Nat.le_refl _))))
    have AT : TgsAt w5 a l := TgsAt.off (TgsAt.below HAt.out B4) hF5 HNe.out
    exact bodyPost_ret (results_V (t := 46) rfl _ w.heap.size _ rfl hA5 Try.undTgo 4 Try.sizeTgo rfl) rfl ⟨x, y, l, a, n, cp, 0, rfl, HL.out, AT, hn16, HLA.out, B5⟩
  | false =>
    have HLA : Hid (TgAns t 0 0 [] 3) := HAn.out.elim (fun h => by cases h.1) (fun h => Or.inr (Or.inr ⟨HS.out, h.2, rfl, rfl, rfl, rfl⟩))
    go_wp2_with (first
      | (with_reducible refine wpList_allocV (w := w2) (by with_unfolding_all rfl) 44 (by with_unfolding_all rfl) (rtv 0 0 none 0 0) Try.infoTsz ?_; intro w3 hA3 hB3 hS3; clear hS3; have R3 := R2.below hB3 (R2.lt (tov_ne _ _ _ _ _ _)))
      | (with_reducible refine wpList_storeH (w := w3) (by with_unfolding_all rfl) 44 (.tmp 3) (.tmp 12) (by with_unfolding_all rfl) w2.heap.size (rtv 0 0 none 0 0) (rtv x y a n cp) (by with_unfolding_all rfl) (by with_unfolding_all rfl) hA3 3 Try.sizeTs (by with_unfolding_all rfl) (by with_unfolding_all rfl) (rtv_one _ _ _ _ _) ?_; intro w4 hA4 hB4 hF4 hS4; have R4 := (Only.set hB4 hF4 hS4).row R3 (tov_ne _ _ _ _ _ _) (Nat.ne_of_lt (R2.lt (tov_ne _ _ _ _ _ _))); have B4 : Below w.heap.size w w4 := (B2.trans (hB3.mono B2.size)).trans (hB4 _ B2.size))
      | (with_reducible refine wpList_storeH (w := w4) (by with_unfolding_all rfl) 46 (.tmp 2) (.tmp 16) (by with_unfolding_all rfl) w.heap.size (tov 0 0 none 0 0 0) (tov 0 0 none 0 0 3) (by with_unfolding_all rfl) (by with_unfolding_all rfl) R4 4 Try.sizeTgo (by with_unfolding_all rfl) (by with_unfolding_all rfl) (tov_one _ _ _ _ _ _) ?_; intro w5 hA5 hB5 hF5 hS5; have B5 : Below w.heap.size w w5 := B4.trans (hB5 _ (Nat.le_refl _))))
    exact bodyPost_ret (results_V (t := 46) rfl _ w.heap.size _ rfl hA5 Try.undTgo 4 Try.sizeTgo rfl) rfl ⟨0, 0, [], none, 0, 0, 3, rfl, rfl, fun i hi => absurd hi (Nat.not_lt_zero _), by omega, HLA.out, B5⟩
structure KpV (w3 : World) (gG n cG : Nat) (x y : Int) (aG : Option Addr) (c : Int) (L : List Value) (w' : World) : Prop where
  b3 : Below w3.heap.size w3 w'
  rG : RowV w' gG (tov x y aG n cG c)
  iG : VR w' aG L
  hb : ∀ ad, aG = some ad → w3.heap.size ≤ ad.block ∧ ad.block < gG
theorem KpV.start {w3 w4 w5 w6 : World} {n cG : Nat} {x y : Int} {aG : Option Addr} {c : Int} {l : List TarV} (hO : OwnTg w4 w3.heap.size (.slice aG n cG) l) (hB4 : Below w3.heap.size w3 w4) (hB5 : Below w4.heap.size w4 w5) (hB6 : ∀ B, B ≤ w4.heap.size → Below B w5 w6) (hA6 : RowV w6 w4.heap.size (tov x y aG n cG c)) : Hid (KpV w3 w4.heap.size n cG x y aG c (tgL l).flatten w6) ∧ Hid (TgsAt w6 aG l) := by
  have b46 : Below w4.heap.size w4 w6 := hB5.trans (hB6 _ (Nat.le_refl _))
  exact ⟨⟨hB4.trans (b46.mono hB4.size), hA6, (OwnTg.vr hO).1.below b46, (OwnTg.vr hO).2⟩, (ownTg_at hO).below b46⟩
theorem KpV.call {w3 w' w2 : World} {gG n cG : Nat} {x y : Int} {aG : Option Addr} {c : Int} {L : List Value} (h : Hid (KpV w3 gG n cG x y aG c L w')) (hb : Below w'.heap.size w' w2) : Hid (KpV w3 gG n cG x y aG c L w2) :=
  ⟨h.out.b3.trans (hb.mono h.out.b3.size), h.out.rG.below hb (h.out.rG.lt (tov_ne _ _ _ _ _ _)), h.out.iG.below hb, h.out.hb⟩
theorem KpV.mark {w3 w' w2 : World} {gG n cG : Nat} {x y : Int} {aG : Option Addr} {c : Int} {L L' : List Value} (h : Hid (KpV w3 gG n cG x y aG c L w')) (hi : VR w2 aG L') (hm : MkW aG w' w2) : Hid (KpV w3 gG n cG x y aG c L' w2) :=
  ⟨h.out.b3.trans (hm.below _ h.out.b3.size (fun ad e => (h.out.hb ad e).1)), row_blk h.out.rG (hm.far gG (h.out.rG.lt (tov_ne _ _ _ _ _ _)) (fun ad e => Nat.ne_of_gt (h.out.hb ad e).2)), hi, h.out.hb⟩
theorem KpV.wc {w3 w' : World} {gG n cG gW nW cW : Nat} {x y x2 y2 : Int} {aG aW : Option Addr} {c z : Int} {L : List Value} (h : Hid (KpV w3 gG n cG x y aG c L w')) (hr : RowV w3 gW (tov x2 y2 aW nW cW z)) : w'.cell? ⟨gW, 0, none⟩ = some (.int .i64 x2) ∧ w'.cell? ⟨gW, 1, none⟩ = some (.int .i64 y2) ∧ w'.cell? ⟨gW, 2, none⟩ = some (.slice aW nW cW) ∧ w'.cell? ⟨gW, 3, none⟩ = some (.int .i64 z) := (hr.below h.out.b3 (hr.lt (tov_ne _ _ _ _ _ _))).to4
theorem KpV.gc {w3 w' : World} {gG n cG : Nat} {x y : Int} {aG : Option Addr} {c : Int} {L : List Value} (h : Hid (KpV w3 gG n cG x y aG c L w')) : w'.cell? ⟨gG, 0, none⟩ = some (.int .i64 x) ∧ w'.cell? ⟨gG, 1, none⟩ = some (.int .i64 y) ∧ w'.cell? ⟨gG, 2, none⟩ = some (.slice aG n cG) ∧ w'.cell? ⟨gG, 3, none⟩ = some (.int .i64 c) := h.out.rG.to4
theorem KpV.sg {w3 w' : World} {gG n cG : Nat} {x y : Int} {aG aW : Option Addr} {c : Int} {L : List Value} {l : List TarV} (h : Hid (KpV w3 gG n cG x y aG c L w')) (hs : Hid (TgsAt w3 aW l)) : TgsAt w' aW l := hs.out.below h.out.b3
theorem KpV.ig {w3 w' : World} {gG n cG : Nat} {x y : Int} {aG : Option Addr} {c : Int} {L : List Value} (h : Hid (KpV w3 gG n cG x y aG c L w')) : VR w' aG L := h.out.iG
set_option maxRecDepth 100000 in
set_option maxHeartbeats 2000000 in
theorem lawTargetsRead (t : ByteArray) (w : World) (hs : t.size ≤ maxLen) :
    Calls Try.prog 5 #[.string t] w fun r w' => r = .returned (.bool true) ∧ Below w.heap.size w w' := by
  have hS : ∀ w0, Calls Try.prog 18 #[.string t] w0 fun r w' => ∃ x y l a n cp c, r = .returned (.agg #[.int .i64 x, .int .i64 y, .slice a n cp, .int .i64 c]) ∧ l.length = n ∧ TgsAt w' a l ∧ n ≤ 20 ∧ TgAns t x y l c ∧ Below w0.heap.size w0 w' := fun w0 => specTargetsRd t w0 hs
  have hI : ∀ w0 x y l n c, l.length = n → TgAns t x y l c → Calls Try.prog 19 #[.string t] w0 fun r w' => ∃ a cp, r = .returned (.agg #[.int .i64 x, .int .i64 y, .slice a n cp, .int .i64 c]) ∧ OwnTg w' w0.heap.size (.slice a n cp) l ∧ Below w0.heap.size w0 w' := fun w0 x y l n c hn hh => (implTargetsRd t w0 hs).mono (by
    rintro r w' ⟨x', y', l', a', n', cp', c', rfl, h1, h2, h3⟩
    obtain ⟨rfl, rfl, rfl, rfl⟩ := tgAns_one hh h1
    obtain rfl : n' = n := (ownTg_len h2).symm.trans hn
    exact ⟨a', cp', rfl, h2, h3⟩)
  unfold maxLen at hs
  by_cases hbig : 1048576 < t.size
  · have d1 : decide ((1048576 : Int) < (t.size : Int)) = true := decide_eq_true (by omega)
    go_enter Try.func5, Try.ntmps5
    go_wp2
    go_ret
    exact ⟨rfl, Below.refl _ _⟩
  have d1 : decide ((1048576 : Int) < (t.size : Int)) = false := decide_eq_false (by omega)
  go_enter Try.func5, Try.ntmps5
  go_wp2_with fail
  refine (hS w).mono ?_
  rintro r w1 ⟨x, y, l, a, n, cp, c, rfl, hl, hat, hn16, hAn, hB1⟩
  have hI2 : ∀ w0, Calls Try.prog 19 #[.string t] w0 fun r w' => ∃ a cp, r = .returned (.agg #[.int .i64 x, .int .i64 y, .slice a n cp, .int .i64 c]) ∧ OwnTg w' w0.heap.size (.slice a n cp) l ∧ Below w0.heap.size w0 w' := fun w0 => hI w0 x y l n c hl hAn
  have hE : ∀ w0 a1 c1, TgsAt w0 a1 l → TgsAt w0 a l → Calls Try.prog 20 #[.agg #[.int .i64 x, .int .i64 y, .slice a1 n c1, .int .i64 c], .agg #[.int .i64 x, .int .i64 y, .slice a n cp, .int .i64 c]] w0 fun e w' => e = .returned (.bool true) ∧ Below w0.heap.size w0 w' := fun w0 a1 c1 h1 h2 => eqTo_any x y a1 a c1 cp n c l w0 hl h1 h2 (by unfold maxLen; omega)
  obtain ⟨R, hRR⟩ : ∃ R, ((1 + 3 * n : Nat) : Int) = R := ⟨_, rfl⟩
  have hM : ∀ w0 a1 c1, VR w0 a1 (tgL l).flatten → Calls Try.prog 21 #[.agg #[.int .i64 x, .int .i64 y, .slice a1 n c1, .int .i64 c], .int .i64 1] w0 fun e w' => e = .returned (.int .i64 R) ∧ VR w' a1 (mkC 1 (3 * n)) ∧ MkW a1 w0 w' := fun w0 a1 c1 h1 => hRR ▸ markTo_any x y a1 c1 n c (tgL l).flatten 1 w0 (by rw [flatT_len, hl, Nat.mul_comm]) h1 (by omega) (by omega) (by omega)
  have hH : ∀ w0 a1 c1, VR w0 a1 (mkC 1 (3 * n)) → Calls Try.prog 22 #[.agg #[.int .i64 x, .int .i64 y, .slice a1 n c1, .int .i64 c], .int .i64 1] w0 fun e w' => e = .returned (.int .i64 R) ∧ Below w0.heap.size w0 w' := fun w0 a1 c1 h1 => hRR ▸ heldTo_any x y a1 c1 n c 1 w0 h1 (by omega) (by omega) (by omega)
  have d2 : decide (R < 0) = false := decide_eq_false (by omega)
  have e2 : (R == R) = true := by simp
  have HAt : Hid (TgsAt w1 a l) := hat
  clear hS hI hAn hRR hat hl
  go_wp2_with (first
    | (with_reducible refine wpList_allocV (w := w1) (by with_unfolding_all rfl) 46 (by with_unfolding_all rfl) (tov 0 0 none 0 0 0) Try.infoTgo ?_; intro w2 hA2 hB2 hS2; clear hS2)
    | (with_reducible refine wpList_storeH (w := w2) (by with_unfolding_all rfl) 46 (.tmp 3) (.tmp 12) (by with_unfolding_all rfl) w1.heap.size (tov 0 0 none 0 0 0) (tov x y a n cp c) (by with_unfolding_all rfl) (by with_unfolding_all rfl) hA2 4 Try.sizeTgo (by with_unfolding_all rfl) (by with_unfolding_all rfl) (tov_one _ _ _ _ _ _) ?_; intro w3 hA3 hB3 hF3 hS3; have B3 : Below w1.heap.size w1 w3 := hB2.trans (hB3 _ (Nat.le_refl _)); have S3 := hidP (HAt.out.below B3); clear hF3 hS3 hA2)
    | (go_at_call 19; with_reducible refine (hI2 w3).mono ?_; rintro r w4 ⟨aG, cG, rfl, hO4, hB4⟩; have HO4 := hidP hO4; clear hO4)
    | (with_reducible refine wpList_allocV (w := w4) (by with_unfolding_all rfl) 46 (by with_unfolding_all rfl) (tov 0 0 none 0 0 0) Try.infoTgo ?_; intro w5 hA5 hB5 hS5; clear hS5)
    | (with_reducible refine wpList_storeH (w := w5) (by with_unfolding_all rfl) 46 (.tmp 4) (.tmp 14) (by with_unfolding_all rfl) w4.heap.size (tov 0 0 none 0 0 0) (tov x y aG n cG c) (by with_unfolding_all rfl) (by with_unfolding_all rfl) hA5 4 Try.sizeTgo (by with_unfolding_all rfl) (by with_unfolding_all rfl) (tov_one _ _ _ _ _ _) ?_; intro w6 hA6 hB6 hF6 hS6; obtain ⟨HK6, SG6⟩ := KpV.start HO4.out hB4 hB5 hB6 hA6; clear hF6 hS6 hA5; obtain ⟨p0, p1, p2, p3⟩ := KpV.wc HK6 hA3; obtain ⟨q0, q1, q2, q3⟩ := KpV.gc HK6)
    | (go_at_call 20; with_reducible refine (hE w6 aG cG SG6.out (KpV.sg HK6 S3)).mono ?_; rintro r w7 ⟨rfl, hB7⟩; have HK7 := KpV.call HK6 hB7; clear p0 p1 p2 p3 q0 q1 q2 q3; obtain ⟨q0, q1, q2, q3⟩ := KpV.gc HK7)
    | (go_at_call 21; with_reducible refine (hM w7 aG cG (KpV.ig HK7)).mono ?_; rintro r w8 ⟨rfl, hI8, hM8⟩; have HK8 := KpV.mark HK7 hI8 hM8; clear hI8 hM8 q0 q1 q2 q3; obtain ⟨q0, q1, q2, q3⟩ := KpV.gc HK8)
    | (go_at_call 22; with_reducible refine (hH w8 aG cG (KpV.ig HK8)).mono ?_; rintro r w9 ⟨rfl, hB9⟩; have HK9 := KpV.call HK8 hB9; clear q0 q1 q2 q3)
    | (go_at_call 19; with_reducible refine (hI2 w9).mono ?_; rintro r w10 ⟨aH, cH, rfl, hO10, hB10⟩; have HO10 := hidP hO10; clear hO10; have HK10 := KpV.call HK9 hB10)
    | (with_reducible refine wpList_allocV (w := w10) (by with_unfolding_all rfl) 46 (by with_unfolding_all rfl) (tov 0 0 none 0 0 0) Try.infoTgo ?_; intro w11 hA11 hB11 hS11; clear hS11)
    | (with_reducible refine wpList_storeH (w := w11) (by with_unfolding_all rfl) 46 (.tmp 7) (.tmp 31) (by with_unfolding_all rfl) w10.heap.size (tov 0 0 none 0 0 0) (tov x y aH n cH c) (by with_unfolding_all rfl) (by with_unfolding_all rfl) hA11 4 Try.sizeTgo (by with_unfolding_all rfl) (by with_unfolding_all rfl) (tov_one _ _ _ _ _ _) ?_; intro w12 hA12 hB12 hF12 hS12; have B12 : Below w10.heap.size w10 w12 := hB11.trans (hB12 _ (Nat.le_refl _)); have HK12 := KpV.call HK10 B12; have SH12 := hidP ((ownTg_at HO10.out).below B12); clear hF12 hS12 hA11; obtain ⟨p0, p1, p2, p3⟩ := KpV.wc HK12 hA3; obtain ⟨q0, q1, q2, q3⟩ := hA12.to4)
    | (go_at_call 20; with_reducible refine (hE w12 aH cH SH12.out (KpV.sg HK12 S3)).mono ?_; rintro r w13 ⟨rfl, hB13⟩; have HK13 := KpV.call HK12 hB13; clear p0 p1 p2 p3 q0 q1 q2 q3; obtain ⟨q0, q1, q2, q3⟩ := KpV.gc HK13)
    | (go_at_call 22; with_reducible refine (hH w13 aG cG (KpV.ig HK13)).mono ?_; rintro r w14 ⟨rfl, hB14⟩; have HK14 := KpV.call HK13 hB14; clear q0 q1 q2 q3))
  go_ret
  exact ⟨rfl, (hB1.trans (B3.mono hB1.size)).trans (HK14.out.b3.mono (Nat.le_trans hB1.size B3.size))⟩
end Go.Proofs.Ytmahpmjkejnkfaa
namespace Go.Proofs.Ytmahpmjkejnkfaa.fnExactTargetsRead
open Go.ChangeShapes Go.WideShapes Go.ChangeAt Go.RowKit Go.Joins
open Go.ChangeMaps (open_string shut_string)
set_option linter.unusedVariables false

theorem own : ownKnob Try.prog.godebug = none := by kernel_rfl
theorem laidOut : laidOutB Try.prog = true := by kernel_rfl
set_option maxRecDepth 100000 in
theorem lifted (os : Os) (started : os.Started) (H : Type) (enc : TypeId × Value → H) :
    ReturnsInHanded {} Try.checked os 5 .any (Rows.fnExactTargetsReadSpec.pre6 enc Try.prog Try.f5 Rows.fnExactTargetsReadRow.domain false) (Rows.fnExactTargetsReadSpec.post enc Try.prog Try.f5 false true false false) := by
  refine returnsInHanded_of_change (C := Try.checked) own started (by kernel_rfl) Try.func5
    (ChangeSpec.witness6 (enc := enc) (C := Try.checked) false ⟨#[], #[.string ByteArray.empty], []⟩ 8 (by kernel_rfl) (by kernel_rfl) (by kernel_rfl) (by kernel_rfl)) ?_
  intro W base args ds gs before hval0 hW hcnd _
  have hval : ∀ (j : Nat) t v, Try.f5.params[j]? = some t → args[j]? = some v → Value.okWide Try.prog W .any base t v := hval0
  have hW' := hW
  obtain ⟨p, q, hA0, hV, rfl, hfz, hnd⟩ := hW
  have hA : DataW.TrodAll enc Try.prog W 0 (fun _ => true) true Try.f5.params.toList args.toList ds p := hA0
  rw [Try.params5] at hA hval
  obtain ⟨v0, vs0, d0, ds0, p0, q0, hargs, rfl, rfl, h0, r0⟩ := trodAll_cons hA
  obtain ⟨rfl, rfl, rfl⟩ := trodAll_nil r0
  obtain rfl : args = #[v0] := by cases args; simp_all
  obtain ⟨rfl, rfl⟩ := trodVars_none hV
  obtain ⟨a0, rfl, rfl, rfl, w0⟩ := open_string Try.underlying9 (hval 0 9 v0 rfl rfl) h0
  clear hA0 hval0
  refine (lawTargetsRead a0 W w0).mono fun e W' ⟨he, bel⟩ => ?_
  subst he
  exact ⟨_, rfl, _, _, _, [], _, [], hW', trodAll_mk1 (shut_bool Try.underlying4 _), trodAll_cons_mk (shut_string Try.underlying9 w0) trodAll_mk0, rfl, bel.frame _, fun h => by cases h⟩

theorem over : Rows.fnExactTargetsReadRow.holds Try.pinned (OpenSpec.ofChange Rows.fnExactTargetsReadSpec) :=
  OpenClaim.holds_of_wide 5 Try.f5 rfl rfl rfl rfl rfl rfl rfl ⟨rfl, rfl, rfl, rfl, rfl⟩ rfl rfl rfl rfl rfl (by kernel_rfl) Try.func5 (by kernel_rfl)
    (of_decide_eq_true (by kernel_rfl)) (by unfold Func.isWrapper; first | (rw [if_pos (by decide +kernel)]; kernel_rfl) | (rw [if_neg (by decide +kernel)]; exact ⟨rfl, rfl⟩))
    (fun os started H enc _ => lifted os started H enc)
end Go.Proofs.Ytmahpmjkejnkfaa.fnExactTargetsRead
namespace Go.Proofs.Ytmahpmjkejnkfaa
theorem fnExactTargetsRead_holds : Rows.FnExactTargetsReadSaid := fnExactTargetsRead.over
end Go.Proofs.Ytmahpmjkejnkfaa
