/- The law FnHash, walked: the digest of a drawn text is the same, however it is taken in parts; digests have 32 bytes. The condition: impl.roundNumbers reads as the program's text lays it. -/
import Derived.Test.YthmlfohgbkkbjaaDoorParts
import Derived.Test.YthmlfohgbkkbjaaDoorSht
import Derived.Test.YthmlfohgbkkbjaaDoorDrwD
namespace Go.Proofs.YthmlfohgbkkbjaaDoor
open Go.RowKit
set_option linter.unusedVariables false
attribute [local go_sem ↓] Go.wp_at_zero Go.wp_at_succ

theorem IAt.drew {w : World} {a : Option Addr} {l : List Int} (h : IAt w a l) : IAt w.drew a l := h.below (Below.refl _ _).drew
theorem begin_hst : (hst ⟨#[]⟩).ints = iv := by rw [hst_start, ivR_ints]
set_option maxRecDepth 100000 in
set_option maxHeartbeats 4000000 in
theorem lawHash (l0 c0 l1 c1 : Nat) (a0 a1 : Option Addr) (w : World) (hb0 : Bytes w a0 l0) (hs0 : l0 ≤ 9223372036854775807)
    (hb1 : Bytes w a1 l1) (hs1 : l1 ≤ 9223372036854775807) (hk : ArrU w 0 keys) (h0 : 0 < w.heap.size) :
    Calls Tryd.prog 3 #[.slice a0 l0 c0, .slice a1 l1 c1] w fun e w' => e = .returned (.bool true) ∧ Below w.heap.size w w' := by
  have HK : Hid (ArrU w 0 keys) := hk
  by_cases hbig : 1048576 < l0
  · clear hb0 hb1 hk
    go_enter Tryd.func3, Tryd.ntmps3
    go_wp2_with fail
    go_ret
    exact ⟨rfl, Below.refl _ _⟩
  by_cases hbig1 : 1048576 < l1
  · clear hb0 hb1 hk
    go_enter Tryd.func3, Tryd.ntmps3
    go_wp2_with fail
    go_ret
    exact ⟨rfl, Below.refl _ _⟩
  have HD0 : Hid _ := drawDigest l0 c0 a0 w hb0 hs0
  have HLw : Hid (∀ (k m : Nat) (w1 : World), Below w.heap.size w w1 → k ≤ 1000000 → 0 < m → m ≤ 1000000000 → Calls Tryd.prog 12 #[.slice a1 l1 c1, .int .i64 (k : Int), .int .i64 (m : Int)] w1 fun e w' => ∃ v : Nat, e = .returned (.int .i64 (v : Int)) ∧ v < m ∧ w' = w1) :=
    fun k m w1 h h1 h2 h3 => lwAt_any l1 c1 k m a1 w1 (hb1.later h) hs1 h1 h2 h3
  obtain ⟨dH, hdH, hrH⟩ := Tryd.undH
  clear hb0 hb1 hk
  go_enter Tryd.func3, Tryd.ntmps3
  go_wp2_with fail
  refine Calls.mono HD0.out ?_
  rintro e w1 ⟨t, rfl, htl, hB1⟩
  have B1 : Hid (Below w.heap.size w w1) := hB1
  have z1 := hB1.size
  have hdI : ∀ w0, ArrU w0 0 keys → 0 < w0.heap.size → Calls Tryd.prog 9 #[.string t] w0 fun e w' => e = .returned (.string (digN t)) ∧ Below w0.heap.size w0 w' := fun w0 k1 k2 => by
    have := digestI_any t w0 (by unfold maxLen; omega) k1 k2
    rw [show digA t = digN t from if_neg (by omega)] at this
    exact this
  have hdS : ∀ w0, Calls Tryd.prog 10 #[.string t] w0 fun e w' => e = .returned (.string (digN t)) ∧ Below w0.heap.size w0 w' := fun w0 => by
    have := digestS_any t w0 (by unfold maxLen; omega)
    rw [show digA t = digN t from if_neg (by omega)] at this
    exact this
  have hen0 : ∀ (g c : Nat) (w0 : World), IAt w0 (some ⟨g, 0, none⟩) (hst t).ints → ArrU w0 0 keys → 0 < w0.heap.size → Calls Tryd.prog 15 #[HVal (some ⟨g, 0, none⟩) 8 c (hrs t) (t.size : Int)] w0 fun e w' => e = .returned (.string (digN t)) ∧ Below w0.heap.size w0 w' := fun g c w0 h k1 k2 => by
    rw [digN_of]
    exact endI_m g c _ _ t.size w0 h (hrs_size t) (by omega) k1 k2
  have hDs := digN_size t
  obtain ⟨F, hF⟩ : ∃ F, (digN t).extract 0 4 = F := ⟨_, rfl⟩
  have hsh : ∀ w0, ArrU w0 0 keys → 0 < w0.heap.size → Calls Tryd.prog 16 #[.string t] w0 fun e w' => e = .returned (.string (hexS F)) ∧ Below w0.heap.size w0 w' := fun w0 k1 k2 => by
    have := shortI_any t w0 (by unfold maxLen; omega) k1 k2
    rw [show shrt t = hexS ((digN t).extract 0 4) from if_neg (by omega), hF] at this
    exact this
  have hhx : ∀ w0, Calls Tryd.prog 17 #[.string F] w0 fun e w' => e = .returned (.string (hexS F)) ∧ Below w0.heap.size w0 w' := fun w0 => implHex F w0 (by rw [← hF, ByteArray.size_extract]; unfold maxLen; omega)
  have hmo0 : ∀ (T A : ByteArray) (g c : Nat) (w0 : World), T.size + A.size ≤ 200 → IAt w0 (some ⟨g, 0, none⟩) (hst T).ints → ArrU w0 0 keys → 0 < w0.heap.size → Calls Tryd.prog 13 #[HVal (some ⟨g, 0, none⟩) 8 c (hrs T) (T.size : Int), .string A] w0 fun e w' => ∃ g2 c2, e = .returned (HVal (some ⟨g2, 0, none⟩) 8 c2 (hrs (T ++ A)) ((T ++ A).size : Int)) ∧ w0.heap.size ≤ g2 ∧ g2 < w'.heap.size ∧ IAt w' (some ⟨g2, 0, none⟩) (hst (T ++ A)).ints ∧ Below w0.heap.size w0 w' := fun T A g c w0 hl h k1 k2 => by
    have := moreI_m g c (hst T) (hrs T) A T.size w0 h (hrs_size T) (by omega) (by omega) k1 k2
    rw [hst_more, hrs_more, ← ByteArray.size_append] at this
    exact this
  have hri0 : ∀ (T : ByteArray) (g c : Nat) (w0 : World), T.size ≤ 200 → IAt w0 (some ⟨g, 0, none⟩) (hst T).ints → Calls Tryd.prog 14 #[HVal (some ⟨g, 0, none⟩) 8 c (hrs T) (T.size : Int)] w0 fun e w' => e = .returned (.bool true) ∧ Below w0.heap.size w0 w' := fun T g c w0 hl h => by
    have := rightI_any (some ⟨g, 0, none⟩) c 8 (hst T).ints (hrs T) (T.size : Int) w0 rfl h (by omega) (by rw [hrs_size]; unfold maxLen; omega)
    rw [right_ints (hrs_size T) (by omega)] at this
    exact this
  generalize digN t = D at *
  generalize hexS F = X at *
  have HF : Hid (D.extract 0 4 = F) := hF
  have HEN : Hid _ := hen0
  have HMO : Hid _ := hmo0
  have HRI : Hid _ := hri0
  have HSH : Hid _ := hsh
  have HHX : Hid _ := hhx
  have hbe := beginI_any
  clear HD0 hB1 hen0 hmo0 hri0 hsh hhx
  go_wp2_with (first
    | (go_at_call 9; refine (hdI w1 (HK.out.below B1.out h0) (by omega)).mono ?_; rintro e w2 ⟨rfl, hB2⟩; have B2 : Hid (Below w.heap.size w w2) := B1.out.trans (hB2.mono z1); have z2 := hB2.size)
    | (go_at_call 10; refine (hdS w2).mono ?_; rintro e w3 ⟨rfl, hB3⟩; have B3 : Hid (Below w.heap.size w w3) := B2.out.trans (hB3.mono (by omega)); have z3 := hB3.size)
    | (go_at_call 11; refine (hbe w3).mono ?_; rintro e w4 ⟨g4, rfl, hg4, hl4, hI4, hB4⟩; have z4 := hB4.size)
    | (with_reducible refine wpList_allocV (w := w4) (by with_unfolding_all rfl) 27 (by with_unfolding_all rfl) (hvs none 0 0 ⟨#[]⟩ 0) Tryd.infoH ?_; intro w5 hA5 hB5 hS5)
    | (with_reducible refine wpList_storeV (w := w5) (by with_unfolding_all rfl) 27 (.tmp 7) (.tmp 32) (by with_unfolding_all rfl) w4.heap.size (hvs none 0 0 ⟨#[]⟩ 0) (hvs (some ⟨g4, 0, none⟩) 8 8 ⟨#[]⟩ 0) (by with_unfolding_all rfl) (by with_unfolding_all rfl) hA5 3 Tryd.sizeH (by with_unfolding_all rfl) (by with_unfolding_all rfl) (hvs_one _ _ _ _ _) ?_; intro w6 hA6 hB6 hF6 hS6))
  have c46 : Below w4.heap.size w4 w6 := hB5.trans (hB6 _ (Nat.le_refl _))
  have HB6 : Hid (Below w.heap.size w w6) := (B3.out.trans (hB4.mono (by omega))).trans (c46.mono (by omega))
  have HI6 : Hid (IAt w6 (some ⟨g4, 0, none⟩) (hst ⟨#[]⟩).ints) := by rw [begin_hst]; exact hI4.below c46
  obtain ⟨b7, hb7⟩ : ∃ b7, w4.heap.size = b7 := ⟨_, rfl⟩
  have HV6 : Hid (RowV w6 b7 (hvs (some ⟨g4, 0, none⟩) 8 8 (hrs ⟨#[]⟩) ((⟨#[]⟩ : ByteArray).size : Int))) := by rw [← hb7, hrs_start]; exact hA6
  have hb7w : w.heap.size ≤ b7 := by omega
  simp only [hb7]
  clear hA5 hA6 hB5 hB6 hF6 hS5 hS6 hB4 hI4 hB2 hB3 B1 B2 B3 c46 hbe hdI hdS
  go_loopw [8, 9] (fun v i wr => ∃ (k g c : Nat) (T U : ByteArray), i = .int .i64 (k : Int) ∧ k ≤ 5 ∧ v = .string U ∧ T ++ U = t ∧ RowV wr b7 (hvs (some ⟨g, 0, none⟩) 8 c (hrs T) (T.size : Int)) ∧ IAt wr (some ⟨g, 0, none⟩) (hst T).ints ∧ Below w.heap.size w wr) (fun _ i _ => 5 - (intOf i).toNat)
  case atStart => exact ⟨0, g4, 8, ⟨#[]⟩, t, rfl, by omega, rfl, none_append t, HV6.out, HI6.out, HB6.out⟩
  case round =>
    clear HV6 HI6 HB6
    obtain ⟨k, g, c, T, U, rfl, hk5, rfl, hTU, hV, hI, hBr⟩ := hrel
    have HB : Hid (Below w.heap.size w wr) := hBr
    have HTU : Hid (T ++ U = t) := hTU
    have hsz : T.size + U.size = t.size := by rw [← hTU, ByteArray.size_append]
    clear hBr hTU
    by_cases hlt : k < 5
    · as_aux_lemma =>
      have lw : ∀ w1, Below w.heap.size w w1 → Calls Tryd.prog 12 #[.slice a1 l1 c1, .int .i64 (k : Int), .int .i64 ((U.size : Int) + 1)] w1 fun e w' => ∃ v : Nat, e = .returned (.int .i64 (v : Int)) ∧ v < U.size + 1 ∧ w1 = w' := fun w1 h => (HLw.out k (U.size + 1) w1 h (by omega) (by omega) (by omega)).mono (by rintro e w' ⟨v, h1, h2, h3⟩; exact ⟨v, h1, h2, h3.symm⟩)
      go_wp2_with (first
        | (go_at_call 12; refine (lw wr HB.out).mono ?_; rintro e wx ⟨m, rfl, hm, rfl⟩))
      obtain ⟨A, hA⟩ : ∃ A, U.extract 0 m = A := ⟨_, rfl⟩
      obtain ⟨R, hR⟩ : ∃ R, U.extract m U.size = R := ⟨_, rfl⟩
      have HAR : Hid (A ++ R = U) := by show A ++ R = U; rw [← hA, ← hR]; exact cut_append U m (by omega)
      have hAs : A.size = m := by rw [← hA, ByteArray.size_extract]; omega
      obtain ⟨TA, hTA⟩ : ∃ TA, T ++ A = TA := ⟨_, rfl⟩
      have hmo : ∀ (g c : Nat) (w0 : World), IAt w0 (some ⟨g, 0, none⟩) (hst T).ints → ArrU w0 0 keys → 0 < w0.heap.size → Calls Tryd.prog 13 #[HVal (some ⟨g, 0, none⟩) 8 c (hrs T) (T.size : Int), .string A] w0 fun e w' => ∃ g2 c2, e = .returned (HVal (some ⟨g2, 0, none⟩) 8 c2 (hrs TA) (TA.size : Int)) ∧ w0.heap.size ≤ g2 ∧ g2 < w'.heap.size ∧ IAt w' (some ⟨g2, 0, none⟩) (hst TA).ints ∧ Below w0.heap.size w0 w' := fun g c w0 h k1 k2 => by
        have := HMO.out T A g c w0 (by omega) h k1 k2
        rw [hTA] at this
        exact this
      have hri := fun (g c : Nat) (w0 : World) => HRI.out TA g c w0 (by rw [← hTA, ByteArray.size_append]; omega)
      have HEQ : Hid (TA ++ R = t) := by show TA ++ R = t; rw [← hTA, ByteArray.append_assoc, HAR.out]; exact HTU.out
      have m0 : (0 : Int) ≤ (m : Int) := by omega
      have m1 : (m : Int) ≤ (U.size : Int) := by omega
      clear lw HMO HRI hTA
      refine wp_region_held_drew (S := fun _ => True) (by kernel_rfl) trivial (fun hHeld => ?_)
      refine wpAnyH_take (i := 1) (oi := ⟨_, _, _, _, _, _⟩) (v := .string U) rfl (by kernel_rfl) (by kernel_rfl) (by kernel_rfl) (fun _ _ _ h => h) (Or.inl ⟨wanted_none rfl, fun w' hSw => ?_⟩) trivial ?_
      · go_simp
      try simp only [Act.put, List.setIfInBounds_toArray, List.set_cons_zero, List.set_cons_succ]
      refine wpAnyH_take (i := 2) (oi := ⟨_, _, _, _, _, _⟩) (v := .int .i64 (m : Int)) rfl (by kernel_rfl) (by kernel_rfl) (by kernel_rfl) (fun _ _ _ h => h) (Or.inl ⟨wanted_none rfl, fun w' hSw => ?_⟩) trivial ?_
      · go_simp
      try simp only [Act.put, List.setIfInBounds_toArray, List.set_cons_zero, List.set_cons_succ]
      refine wpAnyH_take (i := 3) (oi := ⟨_, _, _, _, _, _⟩) (v := .string A) rfl (by kernel_rfl) (by kernel_rfl) (by kernel_rfl) (fun _ _ _ h => h) (Or.inl ⟨wanted_none rfl, fun w' hSw => ?_⟩) trivial ?_
      · go_simp
      try simp only [Act.put, List.setIfInBounds_toArray, List.set_cons_zero, List.set_cons_succ]
      refine wpAnyH_ready (rs := [0]) (by kernel_rfl) (by simp) (AllReadyH.cons (o := ⟨_, _, _, _, _, _⟩) rfl (fun K hK => ?_) AllReadyH.nil)
      rewrite [if_pos (wanted_none rfl)]
      with_reducible refine wp_load_mid 27 (.tmp 7) (by with_unfolding_all rfl) b7 0 (by with_unfolding_all rfl) (hvs (some ⟨g, 0, none⟩) 8 c (hrs T) (T.size : Int)) dH hV.drew.rng hdH hrH (by with_unfolding_all exact Tryd.sizeH) ?_
      refine hK.out _ _ trivial (fun hHeld => ?_)
      clear hK K
      try simp only [Act.put, List.setIfInBounds_toArray, List.set_cons_zero, List.set_cons_succ]
      refine wpAnyH_ready (rs := [4]) (by kernel_rfl) (by simp) (AllReadyH.cons (o := ⟨_, _, _, _, _, _⟩) rfl (fun K hK => ?_) AllReadyH.nil)
      rewrite [if_pos (wanted_none rfl)]
      go_simp
      refine (hmo g c wr.drew hI.drew (HK.out.below HB.out h0).drew (by have := HB.out.size; show 0 < wr.heap.size; omega)).mono ?_
      rintro e w3 ⟨g2, c2, rfl, hg2, hl2, hI2, hB3⟩
      go_wp2_with fail
      refine hK.out _ _ trivial (fun _ => ?_)
      clear hK K
      have hB3' : Below wr.heap.size wr w3 := ((Below.refl _ _).drew).trans hB3
      have z3 : wr.heap.size ≤ w3.heap.size := hB3'.size
      have hb7l := hV.lt (hvs_ne _ _ _ _ _)
      have V3 := hV.below hB3' hb7l
      have hg2' : wr.heap.size ≤ g2 := hg2
      refine wpAnyH_ready (rs := [5]) (by kernel_rfl) (by simp) (AllReadyH.cons (o := ⟨_, _, _, _, _, _⟩) rfl (fun K hK => ?_) AllReadyH.nil)
      rewrite [if_pos (wanted_none rfl)]
      with_reducible refine wp_store_mid 27 (.tmp 7) (.tmp 48) (by with_unfolding_all rfl) b7 0 (hvs (some ⟨g2, 0, none⟩) 8 c2 (hrs TA) (TA.size : Int)).toArray (by with_unfolding_all rfl) (by with_unfolding_all rfl) (by with_unfolding_all exact V3.ths) (by with_unfolding_all exact Tryd.sizeH) (by rw [Array.all_eq_true_iff_forall_mem]; intro v hv; exact hvs_one _ _ _ _ _ v (by simpa using hv)) ?_
      have F9 : RowV (w3.setCells b7 0 (hvs (some ⟨g2, 0, none⟩) 8 c2 (hrs TA) (TA.size : Int))) b7 (hvs (some ⟨g2, 0, none⟩) 8 c2 (hrs TA) (TA.size : Int)) ∧ IAt (w3.setCells b7 0 (hvs (some ⟨g2, 0, none⟩) 8 c2 (hrs TA) (TA.size : Int))) (some ⟨g2, 0, none⟩) (hst TA).ints ∧ Below w.heap.size w (w3.setCells b7 0 (hvs (some ⟨g2, 0, none⟩) 8 c2 (hrs TA) (TA.size : Int))) := ⟨V3.put rfl, hI2.setsFar (by omega) _, (HB.out.trans (hB3'.mono HB.out.size)).trans (Lib.below_setCells_w hb7w _ _ _)⟩
      dsimp only
      generalize w3.setCells b7 0 (hvs (some ⟨g2, 0, none⟩) 8 c2 (hrs TA) (TA.size : Int)) = w9 at *
      refine hK.out _ _ trivial (fun _ => ?_)
      clear hK K
      refine wpAnyH_done (by kernel_rfl) ?_ _
      go_wp2_with (first
        | (with_reducible refine wpList_loadV (w := w9) (by with_unfolding_all rfl) 27 (.tmp 7) (by with_unfolding_all rfl) b7 (hvs (some ⟨g2, 0, none⟩) 8 c2 (hrs TA) (TA.size : Int)) (by with_unfolding_all rfl) F9.1 Tryd.undH 3 Tryd.sizeH (by with_unfolding_all rfl) ?_)
        | (go_at_call 14; with_reducible refine (hri g2 c2 w9 F9.2.1).mono ?_; rintro e w10 ⟨rfl, hB10⟩))
      go_roundw
      case rel => exact ⟨k + 1, g2, c2, TA, R, by go_num, by omega, rfl, HEQ.out, F9.1.below hB10 (F9.1.lt (hvs_ne _ _ _ _ _)), F9.2.1.below hB10, F9.2.2.trans (hB10.mono F9.2.2.size)⟩
      case measure => simp [intOf]; omega
    · as_aux_lemma =>
      obtain rfl : k = 5 := by omega
      have hmo : ∀ w0 : World, IAt w0 (some ⟨g, 0, none⟩) (hst T).ints → ArrU w0 0 keys → 0 < w0.heap.size → Calls Tryd.prog 13 #[HVal (some ⟨g, 0, none⟩) 8 c (hrs T) (T.size : Int), .string U] w0 fun e w' => ∃ g2 c2, e = .returned (HVal (some ⟨g2, 0, none⟩) 8 c2 (hrs t) (t.size : Int)) ∧ w0.heap.size ≤ g2 ∧ g2 < w'.heap.size ∧ IAt w' (some ⟨g2, 0, none⟩) (hst t).ints ∧ Below w0.heap.size w0 w' := fun w0 h k1 k2 => by
        have := HMO.out T U g c w0 (by omega) h k1 k2
        rw [HTU.out] at this
        exact this
      have hb7l := hV.lt (hvs_ne _ _ _ _ _)
      have zr := HB.out.size
      go_wp2_with (first
        | (with_reducible refine wpList_loadV (w := wr) (by with_unfolding_all rfl) 27 (.tmp 7) (by with_unfolding_all rfl) b7 (hvs (some ⟨g, 0, none⟩) 8 c (hrs T) (T.size : Int)) (by with_unfolding_all rfl) hV Tryd.undH 3 Tryd.sizeH (by with_unfolding_all rfl) ?_)
        | (go_at_call 13; refine (hmo wr hI (HK.out.below HB.out h0) (by omega)).mono ?_; rintro e w3 ⟨g2, c2, rfl, hg2, hl2, hI2, hB3⟩; have V3 := hV.below hB3 hb7l; have z3 := hB3.size)
        | (with_reducible refine wpList_storeV (w := w3) (by with_unfolding_all rfl) 27 (.tmp 7) (.tmp 57) (by with_unfolding_all rfl) b7 (hvs (some ⟨g, 0, none⟩) 8 c (hrs T) (T.size : Int)) (hvs (some ⟨g2, 0, none⟩) 8 c2 (hrs t) (t.size : Int)) (by with_unfolding_all rfl) (by with_unfolding_all rfl) V3 3 Tryd.sizeH (by with_unfolding_all rfl) (by with_unfolding_all rfl) (hvs_one _ _ _ _ _) ?_; intro w9 hA9 hB9 hF9 hS9))
      have F9 : RowV w9 b7 (hvs (some ⟨g2, 0, none⟩) 8 c2 (hrs t) (t.size : Int)) ∧ IAt w9 (some ⟨g2, 0, none⟩) (hst t).ints ∧ Below w.heap.size w w9 := ⟨hA9, fun hl => by
        obtain ⟨g', hg', hc⟩ := hI2 hl
        injection hg' with hg'
        injection hg' with hg'
        subst hg'
        have hf := fun k => hF9 ⟨g2, k, none⟩ (by show g2 ≠ b7; omega)
        exact ⟨g2, rfl, fun k hk => ⟨(hf k).1.trans (hc k hk).1, (hf k).2.trans (hc k hk).2⟩⟩, (HB.out.trans (hB3.mono zr)).trans (hB9 _ hb7w)⟩
      have hen := HEN.out g2 c2
      have hsh := HSH.out
      have hhx := HHX.out
      have h4 : (4 : Int) ≤ (D.size : Int) := by omega
      have hD32 : ((D.size : Int) == 32) = true := beq_iff_eq.2 (by omega)
      have hFx := HF.out
      clear HMO HRI HEN HSH HHX hmo hA9 hB9 hF9 hV hI hI2 hB3
      refine wp_region_held_drew (S := fun w' => RowV w' b7 (hvs (some ⟨g2, 0, none⟩) 8 c2 (hrs t) (t.size : Int)) ∧ Below w.heap.size w w' ∧ IAt w' (some ⟨g2, 0, none⟩) (hst t).ints) (by kernel_rfl) ⟨F9.1.drew, F9.2.2.drew, F9.2.1.drew⟩ (fun S0 => ?_)
      refine wpAnyH_take (i := 0) (oi := ⟨_, _, _, _, _, _⟩) (v := .agg (hvs (some ⟨g2, 0, none⟩) 8 c2 (hrs t) (t.size : Int)).toArray) rfl (by kernel_rfl) (by kernel_rfl) (by kernel_rfl) (fun _ _ _ h => h) (yieldsIf_load_mid (wanted_none rfl) 27 (.tmp 7) rfl b7 0 rfl (hvs (some ⟨g2, 0, none⟩) 8 c2 (hrs t) (t.size : Int)) dH (fun w' hw => hw.1.rng) hdH hrH Tryd.sizeH) S0 ?_
      dsimp only
      try simp only [Act.put, List.setIfInBounds_toArray, List.set_cons_zero, List.set_cons_succ]
      refine wpAnyH_take (i := 2) (oi := ⟨_, _, _, _, _, _⟩) (v := .string D) rfl (by kernel_rfl) (by kernel_rfl) (by kernel_rfl) (fun _ _ _ h => h) (Or.inl ⟨wanted_none rfl, fun w' hSw => ?_⟩) S0 ?_
      · go_simp
      try simp only [Act.put, List.setIfInBounds_toArray, List.set_cons_zero, List.set_cons_succ]
      generalize w9.drew = W at *
      refine wpAnyH_ready (rs := [1]) (by kernel_rfl) (by simp) (AllReadyH.cons (o := ⟨_, _, _, _, _, _⟩) rfl (fun K hK => ?_) AllReadyH.nil)
      rewrite [if_pos (wanted_none rfl)]
      go_simp
      refine (hen W S0.2.2 (HK.out.below S0.2.1 h0) (by have := S0.2.1.size; omega)).mono ?_
      rintro e Wa ⟨rfl, hBWa⟩
      have SWa : (fun w' => RowV w' b7 (hvs (some ⟨g2, 0, none⟩) 8 c2 (hrs t) (t.size : Int)) ∧ Below w.heap.size w w' ∧ IAt w' (some ⟨g2, 0, none⟩) (hst t).ints) Wa := ⟨S0.1.below hBWa (S0.1.lt (hvs_ne _ _ _ _ _)), S0.2.1.trans (hBWa.mono S0.2.1.size), S0.2.2.below hBWa⟩
      go_wp2_with fail
      refine hK.out _ _ SWa (fun _ => ?_)
      clear hK K
      refine wpAnyH_take (i := 3) (oi := ⟨_, _, _, _, _, _⟩) (v := .bool true) rfl (by kernel_rfl) (by kernel_rfl) (by kernel_rfl) (fun _ _ _ h => h) (Or.inl ⟨wanted_none rfl, fun w' hSw => ?_⟩) SWa ?_
      · go_simp
      try simp only [Act.put, List.setIfInBounds_toArray, List.set_cons_zero, List.set_cons_succ]
      refine wpAnyH_take (i := 4) (oi := ⟨_, _, _, _, _, _⟩) (v := .bool true) rfl (by kernel_rfl) (by kernel_rfl) (by kernel_rfl) (fun _ _ _ h => h) (Or.inl ⟨wanted_none rfl, fun w' hSw => ?_⟩) SWa ?_
      · go_simp
      try simp only [Act.put, List.setIfInBounds_toArray, List.set_cons_zero, List.set_cons_succ]
      refine wpAnyH_take (i := 5) (oi := ⟨_, _, _, _, _, _⟩) (v := .string D) rfl (by kernel_rfl) (by kernel_rfl) (by kernel_rfl) (fun _ _ _ h => h) (Or.inl ⟨by rfl, fun w' hSw => ?_⟩) SWa ?_
      · go_simp
      try simp only [Act.put, List.setIfInBounds_toArray, List.set_cons_zero, List.set_cons_succ]
      refine wpAnyH_take (i := 6) (oi := ⟨_, _, _, _, _, _⟩) (v := .int .i64 (D.size : Int)) rfl (by kernel_rfl) (by kernel_rfl) (by kernel_rfl) (fun _ _ _ h => h) (Or.inl ⟨by rfl, fun w' hSw => ?_⟩) SWa ?_
      · go_simp
      try simp only [Act.put, List.setIfInBounds_toArray, List.set_cons_zero, List.set_cons_succ]
      refine wpAnyH_take (i := 7) (oi := ⟨_, _, _, _, _, _⟩) (v := .bool true) rfl (by kernel_rfl) (by kernel_rfl) (by kernel_rfl) (fun _ _ _ h => h) (Or.inl ⟨by rfl, fun w' hSw => ?_⟩) SWa ?_
      · go_simp
      try simp only [Act.put, List.setIfInBounds_toArray, List.set_cons_zero, List.set_cons_succ]
      refine wpAnyH_take (i := 8) (oi := ⟨_, _, _, _, _, _⟩) (v := .bool true) rfl (by kernel_rfl) (by kernel_rfl) (by kernel_rfl) (fun _ _ _ h => h) (Or.inl ⟨wanted_none rfl, fun w' hSw => ?_⟩) SWa ?_
      · go_simp
      try simp only [Act.put, List.setIfInBounds_toArray, List.set_cons_zero, List.set_cons_succ]
      refine wpAnyH_take (i := 9) (oi := ⟨_, _, _, _, _, _⟩) (v := .bool true) rfl (by kernel_rfl) (by kernel_rfl) (by kernel_rfl) (fun _ _ _ h => h) (Or.inl ⟨wanted_none rfl, fun w' hSw => ?_⟩) SWa ?_
      · go_simp
      try simp only [Act.put, List.setIfInBounds_toArray, List.set_cons_zero, List.set_cons_succ]
      refine wpAnyH_take (i := 10) (oi := ⟨_, _, _, _, _, _⟩) (v := .string t) rfl (by kernel_rfl) (by kernel_rfl) (by kernel_rfl) (fun _ _ _ h => h) (Or.inl ⟨by rfl, fun w' hSw => ?_⟩) SWa ?_
      · go_simp
      try simp only [Act.put, List.setIfInBounds_toArray, List.set_cons_zero, List.set_cons_succ]
      refine wpAnyH_take (i := 12) (oi := ⟨_, _, _, _, _, _⟩) (v := .string D) rfl (by kernel_rfl) (by kernel_rfl) (by kernel_rfl) (fun _ _ _ h => h) (Or.inl ⟨by rfl, fun w' hSw => ?_⟩) SWa ?_
      · go_simp
      try simp only [Act.put, List.setIfInBounds_toArray, List.set_cons_zero, List.set_cons_succ]
      refine wpAnyH_take (i := 13) (oi := ⟨_, _, _, _, _, _⟩) (v := .string F) rfl (by kernel_rfl) (by kernel_rfl) (by kernel_rfl) (fun _ _ _ h => h) (Or.inl ⟨by rfl, fun w' hSw => ?_⟩) SWa ?_
      · go_simp
      try simp only [Act.put, List.setIfInBounds_toArray, List.set_cons_zero, List.set_cons_succ]
      refine wpAnyH_ready (rs := [11]) (by kernel_rfl) (by simp) (AllReadyH.cons (o := ⟨_, _, _, _, _, _⟩) rfl (fun K hK => ?_) AllReadyH.nil)
      rewrite [if_pos (by rfl)]
      go_simp
      refine (hsh Wa (HK.out.below SWa.2.1 h0) (by have := SWa.2.1.size; omega)).mono ?_
      rintro e Wb ⟨rfl, hBWb⟩
      have SWb : (fun w' => RowV w' b7 (hvs (some ⟨g2, 0, none⟩) 8 c2 (hrs t) (t.size : Int)) ∧ Below w.heap.size w w' ∧ IAt w' (some ⟨g2, 0, none⟩) (hst t).ints) Wb := ⟨SWa.1.below hBWb (SWa.1.lt (hvs_ne _ _ _ _ _)), SWa.2.1.trans (hBWb.mono SWa.2.1.size), SWa.2.2.below hBWb⟩
      go_wp2_with fail
      refine hK.out _ _ SWb (fun _ => ?_)
      clear hK K
      refine wpAnyH_ready (rs := [14]) (by kernel_rfl) (by simp) (AllReadyH.cons (o := ⟨_, _, _, _, _, _⟩) rfl (fun K hK => ?_) AllReadyH.nil)
      rewrite [if_pos (by rfl)]
      go_simp
      refine (hhx Wb).mono ?_
      rintro e Wc ⟨rfl, hBWc⟩
      have SWc : (fun w' => RowV w' b7 (hvs (some ⟨g2, 0, none⟩) 8 c2 (hrs t) (t.size : Int)) ∧ Below w.heap.size w w' ∧ IAt w' (some ⟨g2, 0, none⟩) (hst t).ints) Wc := ⟨SWb.1.below hBWc (SWb.1.lt (hvs_ne _ _ _ _ _)), SWb.2.1.trans (hBWc.mono SWb.2.1.size), SWb.2.2.below hBWc⟩
      go_wp2_with fail
      refine hK.out _ _ SWc (fun _ => ?_)
      clear hK K
      refine wpAnyH_take (i := 15) (oi := ⟨_, _, _, _, _, _⟩) (v := .bool true) rfl (by kernel_rfl) (by kernel_rfl) (by kernel_rfl) (fun _ _ _ h => h) (Or.inl ⟨by rfl, fun w' hSw => ?_⟩) SWc ?_
      · go_simp
      try simp only [Act.put, List.setIfInBounds_toArray, List.set_cons_zero, List.set_cons_succ]
      refine wpAnyH_take (i := 16) (oi := ⟨_, _, _, _, _, _⟩) (v := .bool true) rfl (by kernel_rfl) (by kernel_rfl) (by kernel_rfl) (fun _ _ _ h => h) (Or.inl ⟨wanted_none rfl, fun w' hSw => ?_⟩) SWc ?_
      · go_simp
      try simp only [Act.put, List.setIfInBounds_toArray, List.set_cons_zero, List.set_cons_succ]
      refine wpAnyH_take (i := 17) (oi := ⟨_, _, _, _, _, _⟩) (v := .bool true) rfl (by kernel_rfl) (by kernel_rfl) (by kernel_rfl) (fun _ _ _ h => h) (Or.inl ⟨wanted_none rfl, fun w' hSw => ?_⟩) SWc ?_
      · go_simp
      try simp only [Act.put, List.setIfInBounds_toArray, List.set_cons_zero, List.set_cons_succ]
      refine wpAnyH_take (i := 18) (oi := ⟨_, _, _, _, _, _⟩) (v := .pointer (some ⟨b7, 2, none⟩)) rfl (by kernel_rfl) (by kernel_rfl) (by kernel_rfl) (fun _ _ _ h => h) (Or.inl ⟨by rfl, fun w' hSw => ?_⟩) SWc ?_
      · go_simp
      try simp only [Act.put, List.setIfInBounds_toArray, List.set_cons_zero, List.set_cons_succ]
      refine wpAnyH_take (i := 19) (oi := ⟨_, _, _, _, _, _⟩) (v := .int .i64 (t.size : Int)) rfl (by kernel_rfl) (by kernel_rfl) (by kernel_rfl) (fun _ _ _ h => h) (Or.inl ⟨by rfl, fun w' hSw => ?_⟩) SWc ?_
      · have q := hSw.1.cell (k := 2) rfl; go_simp
      try simp only [Act.put, List.setIfInBounds_toArray, List.set_cons_zero, List.set_cons_succ]
      refine wpAnyH_take (i := 20) (oi := ⟨_, _, _, _, _, _⟩) (v := .string t) rfl (by kernel_rfl) (by kernel_rfl) (by kernel_rfl) (fun _ _ _ h => h) (Or.inl ⟨by rfl, fun w' hSw => ?_⟩) SWc ?_
      · go_simp
      try simp only [Act.put, List.setIfInBounds_toArray, List.set_cons_zero, List.set_cons_succ]
      refine wpAnyH_take (i := 21) (oi := ⟨_, _, _, _, _, _⟩) (v := .int .i64 (t.size : Int)) rfl (by kernel_rfl) (by kernel_rfl) (by kernel_rfl) (fun _ _ _ h => h) (Or.inl ⟨by rfl, fun w' hSw => ?_⟩) SWc ?_
      · go_simp
      try simp only [Act.put, List.setIfInBounds_toArray, List.set_cons_zero, List.set_cons_succ]
      refine wpAnyH_take (i := 22) (oi := ⟨_, _, _, _, _, _⟩) (v := .bool true) rfl (by kernel_rfl) (by kernel_rfl) (by kernel_rfl) (fun _ _ _ h => h) (Or.inl ⟨by rfl, fun w' hSw => ?_⟩) SWc ?_
      · go_simp
      try simp only [Act.put, List.setIfInBounds_toArray, List.set_cons_zero, List.set_cons_succ]
      refine wpAnyH_take (i := 23) (oi := ⟨_, _, _, _, _, _⟩) (v := .bool true) rfl (by kernel_rfl) (by kernel_rfl) (by kernel_rfl) (fun _ _ _ h => h) (Or.inl ⟨wanted_none rfl, fun w' hSw => ?_⟩) SWc ?_
      · go_simp
      try simp only [Act.put, List.setIfInBounds_toArray, List.set_cons_zero, List.set_cons_succ]
      refine wpAnyH_ready (rs := [24]) (by kernel_rfl) (by simp) (AllReadyH.cons (o := ⟨_, _, _, _, _, _⟩) rfl (fun K hK => ?_) AllReadyH.nil)
      rewrite [if_pos (wanted_none rfl)]
      go_simp
      refine hK.out _ _ SWc (fun _ => ?_)
      clear hK K
      refine wpAnyH_done (by kernel_rfl) ?_ _
      go_wp2_with fail
      go_ret
      exact ⟨rfl, SWc.2.1⟩
end Go.Proofs.YthmlfohgbkkbjaaDoor
