/- The law of RoleOf, for every number and every list of numbers. -/
import Derived.Test.YtmahpmjkejnkfaaRoI
import Derived.Test.YtmahpmjkejnkfaaRoS
namespace Go.Proofs.Ytmahpmjkejnkfaa
open Go.RowKit
set_option linter.unusedVariables false

structure MkR (a : Option Addr) (w w' : World) : Prop where
  far : ∀ x : Addr, x.block < w.heap.size → (∀ ad, a = some ad → x.block ≠ ad.block) → w'.cell? x = w.cell? x ∧ w'.frozen? x = w.frozen? x
  below : ∀ B, B ≤ w.heap.size → (∀ ad, a = some ad → B ≤ ad.block) → Below B w w'
theorem Wrote.mkr {a : Option Addr} {w w1 w2 : World} (hb : Below w.heap.size w w1) (h : Wrote a w1 w2) : MkR a w w2 :=
  ⟨fun x hl hx => by
    have e := h.far x hx
    exact ⟨e.1.trans (hb.cell hl), e.2.trans (hb.frozen hl)⟩,
   fun B hB hx => (hb.mono hB).trans (h.below B (Nat.le_trans hB hb.size) hx)⟩
theorem IAt.off {w w' : World} {a : Option Addr} {L : List Int} (h : IAt w a L) (hF : ∀ x ad : Addr, x.block < w.heap.size → a = some ad → x.block = ad.block → w'.cell? x = w.cell? x ∧ w'.frozen? x = w.frozen? x) : IAt w' a L := fun hl => by
  obtain ⟨g, ha, hc⟩ := h hl
  refine ⟨g, ha, fun k hk => ?_⟩
  have e := hF ⟨g, k, none⟩ ⟨g, 0, none⟩ (cellLt (hc k hk).1) ha rfl
  exact ⟨e.1.trans (hc k hk).1, e.2.trans (hc k hk).2⟩
set_option maxRecDepth 100000 in
theorem markRl_any (z : Int) (a : Option Addr) (c n : Nat) (l : List Int) (w : World) (hn : l.length = n) (h : IAt w a l) (hb : n ≤ 1000) :
    Calls Try.prog 29 #[.agg #[.int .i64 z, .slice a n c], .int .i64 1] w fun e w' => e = .returned (.int .i64 (1 + (n : Int))) ∧ IAt w' a (cnt 1 n) ∧ MkR a w w' := by
  have hM : ∀ w0, IAt w0 a l → Calls Try.prog 28 #[.slice a n c, .int .i64 1] w0 fun e w' => e = .returned (.int .i64 (1 + (n : Int))) ∧ IAt w' a (cnt 1 n) ∧ Wrote a w0 w' := fun w0 h1 => by
    have := markI_any a c l 1 w0 h1 (by omega) (by omega) (by omega)
    rw [hn] at this
    exact this
  have HI : Hid (IAt w a l) := h
  generalize 1 + (n : Int) = R at *
  clear h
  go_enter Try.func29, Try.ntmps29
  go_wp2_with (first
    | (with_reducible refine wpList_boxV (w := w) (by with_unfolding_all rfl) 52 (.tmp 0) (by with_unfolding_all rfl) (rlv z a n c) (by with_unfolding_all rfl) ?_; intro w1 hA1 hB1 hS1; clear hS1; obtain ⟨p0, p1⟩ := hA1.rl; have HI1 := hidP (HI.out.below hB1))
    | (go_at_call 28; with_reducible refine (hM w1 HI1.out).mono ?_; rintro e w2 ⟨rfl, hI2, hW2⟩; have HI2 := hidP hI2; have HW2 := hidP hW2; clear hI2 hW2 p0 p1))
  go_ret
  exact ⟨rfl, HI2.out, Wrote.mkr hB1 HW2.out⟩
set_option maxRecDepth 100000 in
theorem heldRl_any (z : Int) (a : Option Addr) (c n : Nat) (w : World) (h : IAt w a (cnt 1 n)) (hb : n ≤ 1000) :
    Calls Try.prog 30 #[.agg #[.int .i64 z, .slice a n c], .int .i64 1] w fun e w' => e = .returned (.int .i64 (1 + (n : Int))) ∧ Below w.heap.size w w' := by
  have hM : ∀ w0, IAt w0 a (cnt 1 n) → Calls Try.prog 66 #[.slice a n c, .int .i64 1] w0 fun e w' => e = .returned (.int .i64 (1 + (n : Int))) ∧ Below w0.heap.size w0 w' := fun w0 hh => heldI_any a c n 1 w0 hh (by omega) (by omega) (by omega)
  have HI : Hid (IAt w a (cnt 1 n)) := h
  have hR : 0 ≤ 1 + (n : Int) := by omega
  generalize 1 + (n : Int) = R at *
  have d1 : decide (R < 0) = false := decide_eq_false (by omega)
  clear h
  go_enter Try.func30, Try.ntmps30
  go_wp2_with (first
    | (with_reducible refine wpList_boxV (w := w) (by with_unfolding_all rfl) 52 (.tmp 0) (by with_unfolding_all rfl) (rlv z a n c) (by with_unfolding_all rfl) ?_; intro w1 hA1 hB1 hS1; clear hS1; obtain ⟨p0, p1⟩ := hA1.rl; have HI1 := hidP (HI.out.below hB1))
    | (go_at_call 66; with_reducible refine (hM w1 HI1.out).mono ?_; rintro e w2 ⟨rfl, hB2⟩; clear p0 p1))
  go_ret
  exact ⟨rfl, hB1.trans (hB2.mono hB1.size)⟩
theorem ownI_iat {w : World} {base n c : Nat} {a : Option Addr} {l : List Int} (h : OwnI w base (.slice a n c) l) : IAt w a l ∧ ∀ ad, a = some ad → base ≤ ad.block ∧ ad.block < w.heap.size := by
  obtain ⟨a', c', e, hi, hb⟩ := h.form
  injection e with e1 e2 e3
  subst e1
  exact ⟨hi, hb⟩
theorem roL_len (z : Int) (l : List Int) : (roL z l).length ≤ 400 := by
  unfold roL
  split
  · rename_i h
    unfold roB at h
    rw [Bool.and_eq_true] at h
    have := of_decide_eq_true h.1
    have := roKs_len l
    omega
  · exact Nat.zero_le _
structure KpLr (w4 : World) (g6 gG N cG : Nat) (x : Int) (aG : Option Addr) (L6 LG : List Int) (w' : World) : Prop where
  b4 : Below w4.heap.size w4 w'
  i6 : IAt w' (some ⟨g6, 0, none⟩) L6
  rG : RowV w' gG (rlv x aG N cG)
  iG : IAt w' aG LG
  h6 : w4.heap.size ≤ g6
  h7 : g6 < gG
  hG : ∀ ad, aG = some ad → g6 < ad.block ∧ ad.block < gG
section
variable {w4 w' w2 : World} {g6 gG N cG : Nat} {x : Int} {aG : Option Addr} {L6 LG L' : List Int}
theorem KpLr.start {w5 w6 w7 w8 : World} {m : List Int} (hB5 : Below w4.heap.size w4 w5) (h6 : IAt w5 (some ⟨w4.heap.size, 0, none⟩) L6) (z5 : w4.heap.size < w5.heap.size) (hB6 : Below w5.heap.size w5 w6) (hO : OwnI w6 w5.heap.size (.slice aG N cG) m) (hB7 : Below w6.heap.size w6 w7) (hB8 : ∀ B, B ≤ w6.heap.size → Below B w7 w8) (hA8 : RowV w8 w6.heap.size (rlv x aG N cG)) :
    Hid (KpLr w4 w4.heap.size w6.heap.size N cG x aG L6 m w8) := by
  have b68 : Below w6.heap.size w6 w8 := hB7.trans (hB8 _ (Nat.le_refl _))
  have z6 := hB6.size
  exact ⟨(hB5.trans (hB6.mono (by omega))).trans (b68.mono (by omega)), (h6.below hB6).below b68, hA8, (ownI_iat hO).1.below b68, Nat.le_refl _, by omega, fun ad e => by have := (ownI_iat hO).2 ad e; omega⟩
theorem KpLr.call (h : Hid (KpLr w4 g6 gG N cG x aG L6 LG w')) (hb : Below w'.heap.size w' w2) : Hid (KpLr w4 g6 gG N cG x aG L6 LG w2) :=
  ⟨h.out.b4.trans (hb.mono h.out.b4.size), h.out.i6.below hb, h.out.rG.below hb (h.out.rG.lt (rlv_ne _ _ _ _)), h.out.iG.below hb, h.out.h6, h.out.h7, h.out.hG⟩
theorem KpLr.mark6 (h : Hid (KpLr w4 g6 gG N cG x aG L6 LG w')) (hi : IAt w2 (some ⟨g6, 0, none⟩) L') (hm : Wrote (some ⟨g6, 0, none⟩) w' w2) : Hid (KpLr w4 g6 gG N cG x aG L' LG w2) := by
  have a6 := h.out.h6
  have a7 := h.out.h7
  refine ⟨h.out.b4.trans (hm.below _ h.out.b4.size (fun ad e => by injection e with e; rw [← e]; exact a6)), hi, h.out.rG.same fun k => hm.far ⟨gG, k, none⟩ (fun ad e => by injection e with e; rw [← e]; exact Nat.ne_of_gt a7), h.out.iG.off fun y ad2 _ e2 hy => ?_, a6, a7, h.out.hG⟩
  refine hm.far y (fun ad e => ?_)
  injection e with e
  rw [← e]
  have := (h.out.hG ad2 e2).1
  show y.block ≠ g6
  omega
theorem KpLr.markG (h : Hid (KpLr w4 g6 gG N cG x aG L6 LG w')) (hi : IAt w2 aG L') (hm : MkR aG w' w2) : Hid (KpLr w4 g6 gG N cG x aG L6 L' w2) := by
  have a6 := h.out.h6
  have a7 := h.out.h7
  refine ⟨h.out.b4.trans (hm.below _ h.out.b4.size (fun ad e => by have := (h.out.hG ad e).1; omega)), h.out.i6.off fun y ad2 hl e2 hy => hm.far y hl (fun ad e => by have := (h.out.hG ad e).1; injection e2 with e2; rw [← e2] at hy; simp only at hy; omega), h.out.rG.same fun k => hm.far ⟨gG, k, none⟩ (h.out.rG.lt (rlv_ne _ _ _ _)) (fun ad e => Nat.ne_of_gt (h.out.hG ad e).2), hi, a6, a7, h.out.hG⟩
theorem KpLr.gc (h : Hid (KpLr w4 g6 gG N cG x aG L6 LG w')) : w'.cell? ⟨gG, 0, none⟩ = some (.int .i64 x) ∧ w'.cell? ⟨gG, 1, none⟩ = some (.slice aG N cG) := h.out.rG.rl
theorem KpLr.wc {gW nW cW : Nat} {y : Int} {aW : Option Addr} (h : Hid (KpLr w4 g6 gG N cG x aG L6 LG w')) (hr : Hid (RowV w4 gW (rlv y aW nW cW))) : w'.cell? ⟨gW, 0, none⟩ = some (.int .i64 y) ∧ w'.cell? ⟨gW, 1, none⟩ = some (.slice aW nW cW) := (hr.out.below h.out.b4 (hr.out.lt (rlv_ne _ _ _ _))).rl
theorem KpLr.sg {aW : Option Addr} {m : List Int} (h : Hid (KpLr w4 g6 gG N cG x aG L6 LG w')) (hs : Hid (AI w4 aW m)) : AI w' aW m := hs.out.below h.out.b4
theorem KpLr.ai {a : Option Addr} {l : List Int} (h : Hid (KpLr w4 g6 gG N cG x aG L6 LG w')) (hs : Hid (AI w4 a l)) : AI w' a l := hs.out.below h.out.b4
theorem KpLr.bw {w : World} (h : Hid (KpLr w4 g6 gG N cG x aG L6 LG w')) (hb : Hid (Below w.heap.size w w4)) : Below w.heap.size w w' := hb.out.trans (h.out.b4.mono hb.out.size)
theorem KpLr.ig (h : Hid (KpLr w4 g6 gG N cG x aG L6 LG w')) : IAt w' aG LG := h.out.iG
theorem KpLr.i6H (h : Hid (KpLr w4 g6 gG N cG x aG L6 LG w')) : IAt w' (some ⟨g6, 0, none⟩) L6 := h.out.i6
end
set_option maxRecDepth 100000 in
set_option maxHeartbeats 4000000 in
theorem lawRoleOf (z : Int) (a : Option Addr) (c n : Nat) (l : List Int) (w : World) (hz : I64 z) (hn : l.length = n) (h : AI w a l) (hb : n ≤ maxLen) (hw : ∀ x ∈ l, I64 x) :
    Calls Try.prog 6 #[.int .i64 z, .slice a n c] w fun r w' => r = .returned (.bool true) ∧ Below w.heap.size w w' := by
  unfold maxLen at hb
  by_cases c1 : 1048576 < n
  · have d1 : decide ((1048576 : Int) < (n : Int)) = true := decide_eq_true (by omega)
    go_enter Try.func6, Try.ntmps6
    go_wp2
    go_ret
    exact ⟨rfl, Below.refl _ _⟩
  have d1 : decide ((1048576 : Int) < (n : Int)) = false := decide_eq_false (by omega)
  have hT : ∀ w0, AI w0 a l → Calls Try.prog 24 #[.slice a n c] w0 fun e w' => e = .returned (.slice (some ⟨w0.heap.size, 0, none⟩) n n) ∧ IAt w' (some ⟨w0.heap.size, 0, none⟩) l ∧ Below w0.heap.size w0 w' ∧ w0.heap.size < w'.heap.size := fun w0 h => toI_any a c n l w0 hn h (by omega)
  have HL := hidP (roL_len z l)
  have hI : ∀ w0 g, IAt w0 (some ⟨g, 0, none⟩) l → Calls Try.prog 25 #[.int .i64 z, .slice (some ⟨g, 0, none⟩) n n] w0 fun r w' => ∃ aG cG, r = .returned (.agg #[.int .i64 (roZ z l), .slice aG (roL z l).length cG]) ∧ OwnI w' w0.heap.size (.slice aG (roL z l).length cG) (roL z l) ∧ Below w0.heap.size w0 w' := fun w0 g hi => implRoleOf z (some ⟨g, 0, none⟩) n n l w0 hn hi.ai (by unfold maxLen; omega) hw hz
  have hS : ∀ w0 g, IAt w0 (some ⟨g, 0, none⟩) l → Calls Try.prog 23 #[.int .i64 z, .slice (some ⟨g, 0, none⟩) n n] w0 fun r w' => ∃ aG cG, r = .returned (.agg #[.int .i64 (roZ z l), .slice aG (roL z l).length cG]) ∧ AI w' aG (roL z l) ∧ Below w0.heap.size w0 w' := fun w0 g hi => specRoleOf z (some ⟨g, 0, none⟩) n n l w0 hn hi.ai (by unfold maxLen; omega) hw hz
  have hQ : ∀ w0 g1 g2, IAt w0 (some ⟨g1, 0, none⟩) l → IAt w0 (some ⟨g2, 0, none⟩) l → Calls Try.prog 27 #[.slice (some ⟨g1, 0, none⟩) n n, .slice (some ⟨g2, 0, none⟩) n n] w0 fun e w' => e = .returned (.bool true) ∧ Below w0.heap.size w0 w' := fun w0 g1 g2 h1 h2 => eqAI_any _ _ n n n l w0 hn h1.ai h2.ai (by unfold maxLen; omega)
  have hK : ∀ w0 g, IAt w0 (some ⟨g, 0, none⟩) l → Calls Try.prog 28 #[.slice (some ⟨g, 0, none⟩) n n, .int .i64 1] w0 fun e w' => e = .returned (.int .i64 (1 + (n : Int))) ∧ IAt w' (some ⟨g, 0, none⟩) (cnt 1 n) ∧ Wrote (some ⟨g, 0, none⟩) w0 w' := fun w0 g h1 => by
    have := markI_any (some ⟨g, 0, none⟩) n l 1 w0 h1 (by omega) (by omega) (by omega)
    rw [hn] at this
    exact this
  obtain ⟨R1, hR1⟩ : ∃ R, (1 : Int) + (n : Int) = R := ⟨_, rfl⟩
  rw [hR1] at hK
  have d3 : decide (R1 < 0) = false := decide_eq_false (by omega)
  obtain ⟨m, hm⟩ : ∃ m, roL z l = m := ⟨_, rfl⟩
  obtain ⟨x, hx⟩ : ∃ x, roZ z l = x := ⟨_, rfl⟩
  rw [hm, hx] at hI hS
  rw [hm] at HL
  obtain ⟨N, hN⟩ : ∃ N, m.length = N := ⟨_, rfl⟩
  rw [hN] at hI hS HL
  have hN16 : N ≤ 400 := HL.out
  have hE : ∀ w0 a1 c1 a2 c2, AI w0 a1 m → AI w0 a2 m → Calls Try.prog 26 #[.agg #[.int .i64 x, .slice a1 N c1], .agg #[.int .i64 x, .slice a2 N c2]] w0 fun e w' => e = .returned (.bool true) ∧ Below w0.heap.size w0 w' := fun w0 a1 c1 a2 c2 h1 h2 => eqRl1 x a1 a2 c1 c2 N m w0 hN h1 h2 (by unfold maxLen; omega)
  obtain ⟨R, hRR⟩ : ∃ R, (1 : Int) + (N : Int) = R := ⟨_, rfl⟩
  have hM : ∀ w0 a1 c1, IAt w0 a1 m → Calls Try.prog 29 #[.agg #[.int .i64 x, .slice a1 N c1], .int .i64 1] w0 fun e w' => e = .returned (.int .i64 R) ∧ IAt w' a1 (cnt 1 N) ∧ MkR a1 w0 w' := fun w0 a1 c1 h1 => hRR ▸ markRl_any x a1 c1 N m w0 hN h1 (by omega)
  have hH : ∀ w0 a1 c1, IAt w0 a1 (cnt 1 N) → Calls Try.prog 30 #[.agg #[.int .i64 x, .slice a1 N c1], .int .i64 1] w0 fun e w' => e = .returned (.int .i64 R) ∧ Below w0.heap.size w0 w' := fun w0 a1 c1 h1 => hRR ▸ heldRl_any x a1 c1 N w0 h1 (by omega)
  have d4 : decide (R < 0) = false := decide_eq_false (by omega)
  have e2 : (R == R) = true := by simp
  have HA : Hid (AI w a l) := h
  clear h hw hn hm hx hN HL hRR hR1 hz
  go_enter Try.func6, Try.ntmps6
  go_wp2_with (first
    | (go_at_call 24; with_reducible refine (hT w HA.out).mono ?_; rintro r w1 ⟨rfl, hi1, hB1, z1⟩; have I1 := hidP hi1; clear hi1)
    | (go_at_call 23; with_reducible refine (hS w1 _ I1.out).mono ?_; rintro r w2 ⟨aW, cW, rfl, hO2, hB2⟩; have O2 := hidP hO2; clear hO2)
    | (with_reducible refine wpList_allocV (w := w2) (by with_unfolding_all rfl) 52 (by with_unfolding_all rfl) (rlv 0 none 0 0) Try.infoRlz ?_; intro w3 hA3 hB3 hS3; clear hS3)
    | (with_reducible refine wpList_storeH (w := w3) (by with_unfolding_all rfl) 52 (.tmp 5) (.tmp 18) (by with_unfolding_all rfl) w2.heap.size (rlv 0 none 0 0) (rlv x aW N cW) (by with_unfolding_all rfl) (by with_unfolding_all rfl) hA3 2 Try.sizeRl (by with_unfolding_all rfl) (by with_unfolding_all rfl) (rlv_one _ _ _ _) ?_; intro w4 hA4 hB4 hF4 hS4; have b24 : Below w2.heap.size w2 w4 := hB3.trans (hB4 _ (Nat.le_refl _)); have RW4 := hidP hA4; have S4 := hidP (O2.out.below b24); have BW4 := hidP ((hB1.trans (hB2.mono hB1.size)).trans (b24.mono (Nat.le_trans hB1.size hB2.size))); have A4 := hidP (HA.out.below BW4.out); clear hA3 hA4 hB3 hB4 hF4 hS4 b24 hB1 hB2 O2 I1 z1)
    | (go_at_call 24; with_reducible refine (hT w4 A4.out).mono ?_; rintro r w5 ⟨rfl, hi5, hB5, z5⟩; have I5 := hidP hi5; clear hi5)
    | (go_at_call 25; with_reducible refine (hI w5 _ I5.out).mono ?_; rintro r w6 ⟨aG, cG, rfl, hO6, hB6⟩; have O6 := hidP hO6; clear hO6)
    | (with_reducible refine wpList_allocV (w := w6) (by with_unfolding_all rfl) 52 (by with_unfolding_all rfl) (rlv 0 none 0 0) Try.infoRlz ?_; intro w7 hA7 hB7 hS7; clear hS7)
    | (with_reducible refine wpList_storeH (w := w7) (by with_unfolding_all rfl) 52 (.tmp 7) (.tmp 23) (by with_unfolding_all rfl) w6.heap.size (rlv 0 none 0 0) (rlv x aG N cG) (by with_unfolding_all rfl) (by with_unfolding_all rfl) hA7 2 Try.sizeRl (by with_unfolding_all rfl) (by with_unfolding_all rfl) (rlv_one _ _ _ _) ?_; intro w8 hA8 hB8 hF8 hS8; have HK8 := KpLr.start hB5 I5.out z5 hB6 O6.out hB7 hB8 hA8; clear hA7 hA8 hB7 hB8 hF8 hS8 hB5 hB6 O6 I5 z5; obtain ⟨p0, p1⟩ := KpLr.wc HK8 RW4; obtain ⟨q0, q1⟩ := KpLr.gc HK8)
    | (go_at_call 26; with_reducible refine (hE w8 aG cG aW cW (IAt.ai (KpLr.ig HK8)) (KpLr.sg HK8 S4)).mono ?_; rintro r w9 ⟨rfl, hB9⟩; have HK9 := KpLr.call HK8 hB9; clear p0 p1 q0 q1 hB9 HK8)
    | (go_at_call 24; with_reducible refine (hT w9 (KpLr.ai HK9 A4)).mono ?_; rintro r w10 ⟨rfl, hi10, hB10, z10⟩; have I10 := hidP hi10; have HK10 := KpLr.call HK9 hB10; clear hi10 hB10 z10 HK9)
    | (go_at_call 27; with_reducible refine (hQ w10 _ _ (KpLr.i6H HK10) I10.out).mono ?_; rintro r w11 ⟨rfl, hB11⟩; have HK11 := KpLr.call HK10 hB11; clear hB11 I10 HK10)
    | (go_at_call 28; with_reducible refine (hK w11 _ (KpLr.i6H HK11)).mono ?_; rintro r w12 ⟨rfl, hi12, hm12⟩; have HK12 := KpLr.mark6 HK11 hi12 hm12; clear hi12 hm12 HK11; obtain ⟨p0, p1⟩ := KpLr.wc HK12 RW4; obtain ⟨q0, q1⟩ := KpLr.gc HK12)
    | (go_at_call 26; with_reducible refine (hE w12 aG cG aW cW (IAt.ai (KpLr.ig HK12)) (KpLr.sg HK12 S4)).mono ?_; rintro r w13 ⟨rfl, hB13⟩; have HK13 := KpLr.call HK12 hB13; clear p0 p1 q0 q1 hB13 HK12; obtain ⟨q0, q1⟩ := KpLr.gc HK13)
    | (go_at_call 29; with_reducible refine (hM w13 aG cG (KpLr.ig HK13)).mono ?_; rintro r w14 ⟨rfl, hi14, hm14⟩; have HK14 := KpLr.markG HK13 hi14 hm14; clear hi14 hm14 q0 q1 HK13; obtain ⟨q0, q1⟩ := KpLr.gc HK14)
    | (go_at_call 30; with_reducible refine (hH w14 aG cG (KpLr.ig HK14)).mono ?_; rintro r w15 ⟨rfl, hB15⟩; have HK15 := KpLr.call HK14 hB15; clear q0 q1 hB15 HK14)
    | (go_at_call 24; with_reducible refine (hT w15 (KpLr.ai HK15 A4)).mono ?_; rintro r w16 ⟨rfl, hi16, hB16, z16⟩; have I16 := hidP hi16; have HK16 := KpLr.call HK15 hB16; clear hi16 hB16 z16 HK15)
    | (go_at_call 25; with_reducible refine (hI w16 _ I16.out).mono ?_; rintro r w17 ⟨aH, cH, rfl, hO17, hB17⟩; have O17 := hidP hO17; have HK17 := KpLr.call HK16 hB17; clear hO17 hB17 I16 HK16)
    | (with_reducible refine wpList_allocV (w := w17) (by with_unfolding_all rfl) 52 (by with_unfolding_all rfl) (rlv 0 none 0 0) Try.infoRlz ?_; intro w18 hA18 hB18 hS18; clear hS18)
    | (with_reducible refine wpList_storeH (w := w18) (by with_unfolding_all rfl) 52 (.tmp 11) (.tmp 58) (by with_unfolding_all rfl) w17.heap.size (rlv 0 none 0 0) (rlv x aH N cH) (by with_unfolding_all rfl) (by with_unfolding_all rfl) hA18 2 Try.sizeRl (by with_unfolding_all rfl) (by with_unfolding_all rfl) (rlv_one _ _ _ _) ?_; intro w19 hA19 hB19 hF19 hS19; have B19 : Below w17.heap.size w17 w19 := hB18.trans (hB19 _ (Nat.le_refl _)); have HK19 := KpLr.call HK17 B19; have SH19 := hidP (((ownI_iat O17.out).1.below B19).ai); clear hF19 hS19 hA18 hB18 hB19 B19 O17 HK17; obtain ⟨p0, p1⟩ := KpLr.wc HK19 RW4; obtain ⟨q0, q1⟩ := hA19.rl)
    | (go_at_call 26; with_reducible refine (hE w19 aH cH aW cW SH19.out (KpLr.sg HK19 S4)).mono ?_; rintro r w20 ⟨rfl, hB20⟩; have HK20 := KpLr.call HK19 hB20; clear p0 p1 q0 q1 hB20 HK19 SH19; obtain ⟨q0, q1⟩ := KpLr.gc HK20)
    | (go_at_call 30; with_reducible refine (hH w20 aG cG (KpLr.ig HK20)).mono ?_; rintro r w21 ⟨rfl, hB21⟩; have HK21 := KpLr.call HK20 hB21; clear q0 q1 hB21 HK20))
  go_ret
  exact ⟨rfl, KpLr.bw HK21 BW4⟩
end Go.Proofs.Ytmahpmjkejnkfaa
