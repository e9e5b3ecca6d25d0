/- The program's HashMore, of a right Hash that has room for the text. Digest of both sides, for every text: one text. When a store is right: its blobs rise by their digests. -/
import Derived.Test.YtchfpiadfmnphaaDoorJn24
import Derived.Test.YtchfpiadfmnphaaDoorJn6
import Derived.Test.YtchfpiadfmnphaaDoorNmB
namespace Go.Proofs.YtchfpiadfmnphaaDoor
open Go.RowKit
set_option linter.unusedVariables false
attribute [local go_sem ↓] Go.wp_at_zero Go.wp_at_succ

set_option maxRecDepth 100000 in
set_option maxHeartbeats 1000000 in
theorem moreI_any (g c : Nat) (r : R8) (s t : ByteArray) (z : Nat) (w : World) (h : IAt w (some ⟨g, 0, none⟩) r.ints) (hs : s.size = z % 64) (ht : t.size ≤ 20000) (hz : z + t.size ≤ 1099511627776) (hk : ArrU w 0 keys) (h0 : 0 < w.heap.size) :
    Calls Tryd.prog 61 #[HVal (some ⟨g, 0, none⟩) 8 c s (z : Int), .string t] w fun e w' => ∃ g2 c2, e = .returned (HVal (some ⟨g2, 0, none⟩) 8 c2 (left (s ++ t) ((s ++ t).size / 64)) ((z + t.size : Nat) : Int)) ∧ w.heap.size ≤ g2 ∧ g2 < w'.heap.size ∧ IAt w' (some ⟨g2, 0, none⟩) (stN r (s ++ t) ((s ++ t).size / 64)).ints ∧ Below w.heap.size w w' := by
  have HI : Hid (IAt w (some ⟨g, 0, none⟩) r.ints ∧ ArrU w 0 keys) := ⟨h, hk⟩
  have hrt : ∀ w0, IAt w0 (some ⟨g, 0, none⟩) r.ints → Calls Tryd.prog 86 #[HVal (some ⟨g, 0, none⟩) 8 c s (z : Int)] w0 fun e w' => e = .returned (.bool true) ∧ Below w0.heap.size w0 w' := fun w0 h => by
    have := rightI_any (some ⟨g, 0, none⟩) c 8 r.ints s (z : Int) w0 rfl h (by omega) (by unfold maxLen; omega)
    rw [right_ints hs (by omega)] at this
    exact this
  clear h hk
  obtain ⟨dH, hdH, hrH⟩ := Tryd.undH
  obtain ⟨u, hu⟩ : ∃ u, s ++ t = u := ⟨_, rfl⟩
  have hul : u.size ≤ 1000000000 := by rw [← hu, ByteArray.size_append]; omega
  rw [hu]
  obtain ⟨q, hq⟩ : ∃ q, stN r u (u.size / 64) = q := ⟨_, rfl⟩
  obtain ⟨lf, hlf⟩ : ∃ lf, left u (u.size / 64) = lf := ⟨_, rfl⟩
  have hbk : ∀ w0 : World, ArrU w0 0 keys → 0 < w0.heap.size → Calls Tryd.prog 87 #[aggU r.list, .string u] w0 fun e w' => e = .returned (.tuple #[aggU q.list, .string lf]) ∧ Below w0.heap.size w0 w' := fun w0 h1 h2 => by
    have := blocks_any r u w0 hul h1 h2
    rw [hq, hlf] at this
    exact this
  rw [hq, hlf]
  clear hq hlf
  have hsz : s.size + t.size ≤ 9223372036854775807 := by omega
  obtain ⟨Z, hZ⟩ : ∃ Z : Nat, z + t.size = Z := ⟨_, rfl⟩
  rw [hZ]
  have hZi : (z : Int) + (t.size : Int) = (Z : Int) := by omega
  have hZw : IntKind.i64.wrap (Z : Int) = (Z : Int) := by simp [IntKind.wrap, IntKind.signed, IntKind.bits]; omega
  have d2 : decide (1099511627776 - (t.size : Int) < (z : Int)) = false := decide_eq_false (by omega)
  have ht1 : (t.size : Int) ≤ 20000 := by omega
  clear hs hz hZ ht
  go_enter Tryd.func61, Tryd.ntmps61
  go_wp2_with (first
    | (with_reducible refine wpList_boxV (w := w) (by with_unfolding_all rfl) 77 (.tmp 0) (by with_unfolding_all rfl) (hvs (some ⟨g, 0, none⟩) 8 c s (z : Int)) (by with_unfolding_all rfl) ?_; intro wa hAa hBa hSa)
    | (with_reducible refine wpList_allocV (w := wa) (by with_unfolding_all rfl) 77 (by with_unfolding_all rfl) (hvs none 0 0 ⟨#[]⟩ 0) Tryd.infoH ?_; intro w0 hA4 hB4 hS4; have hA0 := hAa.below hB4 (by omega); have hB0 := hBa.trans (hB4.mono (by omega)))
    | (with_reducible refine wpList_loadV (w := w0) (by with_unfolding_all rfl) 77 (.tmp 2) (by with_unfolding_all rfl) w.heap.size (hvs (some ⟨g, 0, none⟩) 8 c s (z : Int)) (by with_unfolding_all rfl) hA0 Tryd.undH 3 Tryd.sizeH (by with_unfolding_all rfl) ?_)
    | (go_at_call 86; refine (hrt w0 (HI.out.1.below hB0)).mono ?_; rintro e w1 ⟨rfl, hB1⟩; have p2 := (hA0.below hB1 (by omega)).cell (k := 2) rfl))
  obtain ⟨b1, hb1⟩ : ∃ b1, w.heap.size = b1 := ⟨_, rfl⟩
  obtain ⟨b4, hb4⟩ : ∃ b4, w.heap.size + 1 = b4 := ⟨_, rfl⟩
  have V1 : RowV w1 b1 (hvs (some ⟨g, 0, none⟩) 8 c s (z : Int)) := by rw [← hb1]; exact hA0.below hB1 (by omega)
  have V4 : RowV w1 b4 (hvs none 0 0 ⟨#[]⟩ 0) := by rw [← hb4, ← hSa]; exact hA4.below hB1 (by omega)
  have p1 := V1.cell (k := 1) rfl
  have B01 : Below w.heap.size w w1 := hB0.trans (hB1.mono (by omega))
  have HI1 : Hid (IAt w1 (some ⟨g, 0, none⟩) r.ints) := HI.out.1.below B01
  have HK1 : Hid (ArrU w1 0 keys) := HI.out.2.below B01 h0
  have hl1 : b1 < w1.heap.size := V1.lt (hvs_ne _ _ _ _ _)
  have hl4 : b4 < w1.heap.size := V4.lt (hvs_ne _ _ _ _ _)
  have hk1 : 0 < w1.heap.size := by omega
  have hb14 : b1 < b4 := by omega
  have HB1 : Hid (Below w.heap.size w w1 ∧ w.heap.size + 1 ≤ w1.heap.size ∧ b1 = w.heap.size ∧ b4 = w.heap.size + 1) := ⟨B01, by omega, hb1.symm, hb4.symm⟩
  try rw [hSa]
  rw [hb4, hb1]
  rw [hb1] at p2
  try simp only [Act.put, List.setIfInBounds_toArray, List.set_cons_zero, List.set_cons_succ]
  clear hA0 hB0 hB1 B01 HI hAa hBa hSa hA4 hB4 hS4 hb1 hb4 p2
  go_cut [5, 6] from 24 to 33 (fun v v2 wx => ∃ b : Nat, v = .pointer (some ⟨b, 0, none⟩) ∧ v2 = .string lf ∧ ArrU wx b q.list ∧ Below w1.heap.size w1 wx ∧ w1.heap.size ≤ b)
  case first =>
    refine wp_region_held_drew (S := fun w' => Below w1.heap.size w1 w') (by kernel_rfl) ((Below.refl _ _).drew) (fun S0 => ?_)
    refine wpAnyH_take (i := 0) (oi := ⟨_, _, _, _, _, _⟩) (v := HVal (some ⟨g, 0, none⟩) 8 c s (z : Int)) rfl (by kernel_rfl) (by kernel_rfl) (by kernel_rfl) (fun _ _ _ h => h) (yieldsIf_load_mid (wanted_none rfl) 77 (.tmp 2) rfl b1 0 rfl (hvs (some ⟨g, 0, none⟩) 8 c s (z : Int)) dH (fun w' hw => (V1.below hw hl1).rng) hdH hrH Tryd.sizeH) S0 ?_
    dsimp only
    try simp only [Act.put, List.setIfInBounds_toArray, List.set_cons_zero, List.set_cons_succ]
    refine wpAnyH_take (i := 2) (oi := ⟨_, _, _, _, _, _⟩) (v := .pointer (some ⟨b1, 1, none⟩)) rfl (by kernel_rfl) (by kernel_rfl) (by kernel_rfl) (fun _ _ _ h => h) (Or.inl ⟨wanted_none rfl, fun w' hSw => ?_⟩) S0 ?_
    · go_simp
    try simp only [Act.put, List.setIfInBounds_toArray, List.set_cons_zero, List.set_cons_succ]
    refine wpAnyH_take (i := 3) (oi := ⟨_, _, _, _, _, _⟩) (v := .string s) rfl (by kernel_rfl) (by kernel_rfl) (by kernel_rfl) (fun _ _ _ h => h) (Or.inl ⟨wanted_none rfl, fun w' hSw => ?_⟩) S0 ?_
    · have q := (hSw.cell (p := ⟨b1, 1, none⟩) hl1).trans p1; go_simp
    try simp only [Act.put, List.setIfInBounds_toArray, List.set_cons_zero, List.set_cons_succ]
    refine wpAnyH_take (i := 4) (oi := ⟨_, _, _, _, _, _⟩) (v := .string t) rfl (by kernel_rfl) (by kernel_rfl) (by kernel_rfl) (fun _ _ _ h => h) (Or.inl ⟨wanted_none rfl, fun w' hSw => ?_⟩) S0 ?_
    · go_simp
    try simp only [Act.put, List.setIfInBounds_toArray, List.set_cons_zero, List.set_cons_succ]
    refine wpAnyH_take (i := 5) (oi := ⟨_, _, _, _, _, _⟩) (v := .string u) rfl (by kernel_rfl) (by kernel_rfl) (by kernel_rfl) (fun _ _ _ h => h) (Or.inl ⟨wanted_none rfl, fun w' hSw => ?_⟩) S0 ?_
    · go_simp
    try simp only [Act.put, List.setIfInBounds_toArray, List.set_cons_zero, List.set_cons_succ]
    generalize w1.drew = W at *
    have SW := S0
    refine wpAnyH_ready (rs := [1, 10]) (by kernel_rfl) (by simp) (AllReadyH.cons (o := ⟨_, _, _, _, _, _⟩) rfl (fun K hK => ?_) (AllReadyH.cons (o := ⟨_, _, _, _, _, _⟩) rfl (fun K hK => ?_) AllReadyH.nil))
    · as_aux_lemma =>
      rewrite [if_pos (wanted_none rfl)]
      go_simp
      refine (wordsOf_any g c r s (z : Int) W (HI1.out.below SW)).mono ?_
      rintro e Wc ⟨rfl, hBWc⟩
      have SWc : Below w1.heap.size w1 Wc := SW.trans (hBWc.mono SW.size)
      go_wp2_with fail
      refine hK.out _ _ SWc (fun _ => ?_)
      clear hK K
      refine wpAnyH_ready (rs := [6, 10]) (by kernel_rfl) (by simp) (AllReadyH.cons (o := ⟨_, _, _, _, _, _⟩) rfl (fun K hK => ?_) (AllReadyH.cons (o := ⟨_, _, _, _, _, _⟩) rfl (fun K hK => ?_) AllReadyH.nil))
      · as_aux_lemma =>
        rewrite [if_pos (wanted_none rfl)]
        go_simp
        refine (hbk Wc (HK1.out.below SWc hk1) (Nat.lt_of_lt_of_le hk1 SWc.size)).mono ?_
        rintro e Wcc ⟨rfl, hBWcc⟩
        have SWcc : Below w1.heap.size w1 Wcc := SWc.trans (hBWcc.mono SWc.size)
        go_wp2_with fail
        refine hK.out _ _ SWcc (fun _ => ?_)
        clear hK K
        refine wpAnyH_take (i := 7) (oi := ⟨_, _, _, _, _, _⟩) (v := .tuple #[aggU q.list, .string lf]) rfl (by kernel_rfl) (by kernel_rfl) (by kernel_rfl) (fun _ _ _ h => h) (Or.inl ⟨wanted_none rfl, fun w' hSw => ?_⟩) SWcc ?_
        · go_simp
        try simp only [Act.put, List.setIfInBounds_toArray, List.set_cons_zero, List.set_cons_succ]
        refine wpAnyH_take (i := 8) (oi := ⟨_, _, _, _, _, _⟩) (v := aggU q.list) rfl (by kernel_rfl) (by kernel_rfl) (by kernel_rfl) (fun _ _ _ h => h) (Or.inl ⟨wanted_none rfl, fun w' hSw => ?_⟩) SWcc ?_
        · go_simp
        try simp only [Act.put, List.setIfInBounds_toArray, List.set_cons_zero, List.set_cons_succ]
        refine wpAnyH_take (i := 9) (oi := ⟨_, _, _, _, _, _⟩) (v := .string lf) rfl (by kernel_rfl) (by kernel_rfl) (by kernel_rfl) (fun _ _ _ h => h) (Or.inl ⟨wanted_none rfl, fun w' hSw => ?_⟩) SWcc ?_
        · go_simp
        try simp only [Act.put, List.setIfInBounds_toArray, List.set_cons_zero, List.set_cons_succ]
        refine wpAnyH_ready (rs := [10]) (by kernel_rfl) (by simp) (AllReadyH.cons (o := ⟨_, _, _, _, _, _⟩) rfl (fun K hK => ?_) AllReadyH.nil)
        rewrite [if_pos (wanted_none rfl)]
        with_reducible refine wp_allocU 128 (by with_unfolding_all rfl) 8 Tryd.infoA8 ?_
        intro Wcca AWcca hBWcca hZWcca
        have SWcca : Below w1.heap.size w1 Wcca := SWcc.trans (hBWcca.mono SWcc.size)
        obtain ⟨b, hb⟩ : ∃ b, Wcc.heap.size = b := ⟨_, rfl⟩
        have hb1 : w1.heap.size ≤ b := by rw [← hb]; exact SWcc.size
        rw [hb] at AWcca ⊢
        simp only [Act.put, List.setIfInBounds_toArray, List.set_cons_zero, List.set_cons_succ]
        refine hK.out _ _ SWcca (fun _ => ?_)
        clear hK K
        refine wpAnyH_ready (rs := [11]) (by kernel_rfl) (by simp) (AllReadyH.cons (o := ⟨_, _, _, _, _, _⟩) rfl (fun K hK => ?_) AllReadyH.nil)
        rewrite [if_pos (wanted_none rfl)]
        with_reducible refine wp_store_mid 128 (.tmp 5) (.tmp 32) (by with_unfolding_all rfl) b 0 (us q.list).toArray (by with_unfolding_all rfl) (by with_unfolding_all rfl) (by with_unfolding_all exact AWcca.ths) (by with_unfolding_all exact Tryd.sizeA8) (us_one _) ?_
        have F9 : ArrU (Wcca.setCells b 0 (us q.list)) b q.list ∧ Below w1.heap.size w1 (Wcca.setCells b 0 (us q.list)) := ⟨AWcca.put rfl, SWcca.trans (Lib.below_setCells_w hb1 _ _ _)⟩
        dsimp only
        generalize Wcca.setCells b 0 (us q.list) = w9 at *
        refine hK.out _ _ F9.2 (fun _ => ?_)
        clear hK K
        refine wpAnyH_ready (rs := [12]) (by kernel_rfl) (by simp) (AllReadyH.cons (o := ⟨_, _, _, _, _, _⟩) rfl (fun K hK => ?_) AllReadyH.nil)
        rewrite [if_pos (wanted_none rfl)]
        go_simp
        refine hK.out _ _ F9.2 (fun _ => ?_)
        clear hK K
        refine wpAnyH_done (by kernel_rfl) ?_ _
        go_wp2_with fail
        go_meet
        exact ⟨b, rfl, rfl, F9.1, F9.2, hb1⟩
      · as_aux_lemma =>
        rewrite [if_pos (wanted_none rfl)]
        with_reducible refine wp_allocU 128 (by with_unfolding_all rfl) 8 Tryd.infoA8 ?_
        intro Wca AWca hBWca hZWca
        have SWca : Below w1.heap.size w1 Wca := SWc.trans (hBWca.mono SWc.size)
        obtain ⟨b, hb⟩ : ∃ b, Wc.heap.size = b := ⟨_, rfl⟩
        have hb1 : w1.heap.size ≤ b := by rw [← hb]; exact SWc.size
        rw [hb] at AWca ⊢
        simp only [Act.put, List.setIfInBounds_toArray, List.set_cons_zero, List.set_cons_succ]
        refine hK.out _ _ SWca (fun _ => ?_)
        clear hK K
        refine wpAnyH_ready (rs := [6]) (by kernel_rfl) (by simp) (AllReadyH.cons (o := ⟨_, _, _, _, _, _⟩) rfl (fun K hK => ?_) AllReadyH.nil)
        rewrite [if_pos (wanted_none rfl)]
        go_simp
        refine (hbk Wca (HK1.out.below SWca hk1) (Nat.lt_of_lt_of_le hk1 SWca.size)).mono ?_
        rintro e Wcac ⟨rfl, hBWcac⟩
        have SWcac : Below w1.heap.size w1 Wcac := SWca.trans (hBWcac.mono SWca.size)
        have AWcac := AWca.below hBWcac (AWca.lt (by decide))
        go_wp2_with fail
        refine hK.out _ _ SWcac (fun _ => ?_)
        clear hK K
        refine wpAnyH_take (i := 7) (oi := ⟨_, _, _, _, _, _⟩) (v := .tuple #[aggU q.list, .string lf]) rfl (by kernel_rfl) (by kernel_rfl) (by kernel_rfl) (fun _ _ _ h => h) (Or.inl ⟨wanted_none rfl, fun w' hSw => ?_⟩) SWcac ?_
        · go_simp
        try simp only [Act.put, List.setIfInBounds_toArray, List.set_cons_zero, List.set_cons_succ]
        refine wpAnyH_take (i := 8) (oi := ⟨_, _, _, _, _, _⟩) (v := aggU q.list) rfl (by kernel_rfl) (by kernel_rfl) (by kernel_rfl) (fun _ _ _ h => h) (Or.inl ⟨wanted_none rfl, fun w' hSw => ?_⟩) SWcac ?_
        · go_simp
        try simp only [Act.put, List.setIfInBounds_toArray, List.set_cons_zero, List.set_cons_succ]
        refine wpAnyH_take (i := 9) (oi := ⟨_, _, _, _, _, _⟩) (v := .string lf) rfl (by kernel_rfl) (by kernel_rfl) (by kernel_rfl) (fun _ _ _ h => h) (Or.inl ⟨wanted_none rfl, fun w' hSw => ?_⟩) SWcac ?_
        · go_simp
        try simp only [Act.put, List.setIfInBounds_toArray, List.set_cons_zero, List.set_cons_succ]
        refine wpAnyH_ready (rs := [11]) (by kernel_rfl) (by simp) (AllReadyH.cons (o := ⟨_, _, _, _, _, _⟩) rfl (fun K hK => ?_) AllReadyH.nil)
        rewrite [if_pos (wanted_none rfl)]
        with_reducible refine wp_store_mid 128 (.tmp 5) (.tmp 32) (by with_unfolding_all rfl) b 0 (us q.list).toArray (by with_unfolding_all rfl) (by with_unfolding_all rfl) (by with_unfolding_all exact AWcac.ths) (by with_unfolding_all exact Tryd.sizeA8) (us_one _) ?_
        have F9 : ArrU (Wcac.setCells b 0 (us q.list)) b q.list ∧ Below w1.heap.size w1 (Wcac.setCells b 0 (us q.list)) := ⟨AWcac.put rfl, SWcac.trans (Lib.below_setCells_w hb1 _ _ _)⟩
        dsimp only
        generalize Wcac.setCells b 0 (us q.list) = w9 at *
        refine hK.out _ _ F9.2 (fun _ => ?_)
        clear hK K
        refine wpAnyH_ready (rs := [12]) (by kernel_rfl) (by simp) (AllReadyH.cons (o := ⟨_, _, _, _, _, _⟩) rfl (fun K hK => ?_) AllReadyH.nil)
        rewrite [if_pos (wanted_none rfl)]
        go_simp
        refine hK.out _ _ F9.2 (fun _ => ?_)
        clear hK K
        refine wpAnyH_done (by kernel_rfl) ?_ _
        go_wp2_with fail
        go_meet
        exact ⟨b, rfl, rfl, F9.1, F9.2, hb1⟩
    · as_aux_lemma =>
      rewrite [if_pos (wanted_none rfl)]
      with_reducible refine wp_allocU 128 (by with_unfolding_all rfl) 8 Tryd.infoA8 ?_
      intro Wa AWa hBWa hZWa
      have SWa : Below w1.heap.size w1 Wa := SW.trans (hBWa.mono SW.size)
      obtain ⟨b, hb⟩ : ∃ b, W.heap.size = b := ⟨_, rfl⟩
      have hb1 : w1.heap.size ≤ b := by rw [← hb]; exact SW.size
      rw [hb] at AWa ⊢
      simp only [Act.put, List.setIfInBounds_toArray, List.set_cons_zero, List.set_cons_succ]
      refine hK.out _ _ SWa (fun _ => ?_)
      clear hK K
      refine wpAnyH_ready (rs := [1]) (by kernel_rfl) (by simp) (AllReadyH.cons (o := ⟨_, _, _, _, _, _⟩) rfl (fun K hK => ?_) AllReadyH.nil)
      rewrite [if_pos (wanted_none rfl)]
      go_simp
      refine (wordsOf_any g c r s (z : Int) Wa (HI1.out.below SWa)).mono ?_
      rintro e Wac ⟨rfl, hBWac⟩
      have SWac : Below w1.heap.size w1 Wac := SWa.trans (hBWac.mono SWa.size)
      have AWac := AWa.below hBWac (AWa.lt (by decide))
      go_wp2_with fail
      refine hK.out _ _ SWac (fun _ => ?_)
      clear hK K
      refine wpAnyH_ready (rs := [6]) (by kernel_rfl) (by simp) (AllReadyH.cons (o := ⟨_, _, _, _, _, _⟩) rfl (fun K hK => ?_) AllReadyH.nil)
      rewrite [if_pos (wanted_none rfl)]
      go_simp
      refine (hbk Wac (HK1.out.below SWac hk1) (Nat.lt_of_lt_of_le hk1 SWac.size)).mono ?_
      rintro e Wacc ⟨rfl, hBWacc⟩
      have SWacc : Below w1.heap.size w1 Wacc := SWac.trans (hBWacc.mono SWac.size)
      have AWacc := AWac.below hBWacc (AWac.lt (by decide))
      go_wp2_with fail
      refine hK.out _ _ SWacc (fun _ => ?_)
      clear hK K
      refine wpAnyH_take (i := 7) (oi := ⟨_, _, _, _, _, _⟩) (v := .tuple #[aggU q.list, .string lf]) rfl (by kernel_rfl) (by kernel_rfl) (by kernel_rfl) (fun _ _ _ h => h) (Or.inl ⟨wanted_none rfl, fun w' hSw => ?_⟩) SWacc ?_
      · go_simp
      try simp only [Act.put, List.setIfInBounds_toArray, List.set_cons_zero, List.set_cons_succ]
      refine wpAnyH_take (i := 8) (oi := ⟨_, _, _, _, _, _⟩) (v := aggU q.list) rfl (by kernel_rfl) (by kernel_rfl) (by kernel_rfl) (fun _ _ _ h => h) (Or.inl ⟨wanted_none rfl, fun w' hSw => ?_⟩) SWacc ?_
      · go_simp
      try simp only [Act.put, List.setIfInBounds_toArray, List.set_cons_zero, List.set_cons_succ]
      refine wpAnyH_take (i := 9) (oi := ⟨_, _, _, _, _, _⟩) (v := .string lf) rfl (by kernel_rfl) (by kernel_rfl) (by kernel_rfl) (fun _ _ _ h => h) (Or.inl ⟨wanted_none rfl, fun w' hSw => ?_⟩) SWacc ?_
      · go_simp
      try simp only [Act.put, List.setIfInBounds_toArray, List.set_cons_zero, List.set_cons_succ]
      refine wpAnyH_ready (rs := [11]) (by kernel_rfl) (by simp) (AllReadyH.cons (o := ⟨_, _, _, _, _, _⟩) rfl (fun K hK => ?_) AllReadyH.nil)
      rewrite [if_pos (wanted_none rfl)]
      with_reducible refine wp_store_mid 128 (.tmp 5) (.tmp 32) (by with_unfolding_all rfl) b 0 (us q.list).toArray (by with_unfolding_all rfl) (by with_unfolding_all rfl) (by with_unfolding_all exact AWacc.ths) (by with_unfolding_all exact Tryd.sizeA8) (us_one _) ?_
      have F9 : ArrU (Wacc.setCells b 0 (us q.list)) b q.list ∧ Below w1.heap.size w1 (Wacc.setCells b 0 (us q.list)) := ⟨AWacc.put rfl, SWacc.trans (Lib.below_setCells_w hb1 _ _ _)⟩
      dsimp only
      generalize Wacc.setCells b 0 (us q.list) = w9 at *
      refine hK.out _ _ F9.2 (fun _ => ?_)
      clear hK K
      refine wpAnyH_ready (rs := [12]) (by kernel_rfl) (by simp) (AllReadyH.cons (o := ⟨_, _, _, _, _, _⟩) rfl (fun K hK => ?_) AllReadyH.nil)
      rewrite [if_pos (wanted_none rfl)]
      go_simp
      refine hK.out _ _ F9.2 (fun _ => ?_)
      clear hK K
      refine wpAnyH_done (by kernel_rfl) ?_ _
      go_wp2_with fail
      go_meet
      exact ⟨b, rfl, rfl, F9.1, F9.2, hb1⟩
  case rest =>
    obtain ⟨b, rfl, rfl, hA, hBc, hbl⟩ := hcut
    have VC := V1.below hBc hl1
    have V4c := V4.below hBc hl4
    have hzc := hBc.size
    have HB : Hid (Below w.heap.size w wc ∧ w.heap.size + 1 ≤ wc.heap.size ∧ b4 = w.heap.size + 1 ∧ b4 < wc.heap.size) := ⟨HB1.out.1.trans (hBc.mono (by have := HB1.out.2.1; omega)), by have := HB1.out.2.1; omega, HB1.out.2.2.2, by omega⟩
    have h1w : w.heap.size + 1 ≤ wc.heap.size := HB.out.2.1
    have h4w : w.heap.size ≤ b4 := by have := HB.out.2.2.1; omega
    have hbb : b4 < b := by omega
    have hl4 : b4 < wc.heap.size := by omega
    clear V1 V4 p1 HI1 HK1 hrt hbk hu hBc HB1
    go_wp2_with fail
    refine wp_region_held_drew (S := fun w' => RowV w' b1 (hvs (some ⟨g, 0, none⟩) 8 c s (z : Int)) ∧ ArrU w' b q.list) (by kernel_rfl) ⟨VC.drew, hA.drew⟩ (fun S0 => ?_)
    refine wpAnyH_take (i := 0) (oi := ⟨_, _, _, _, _, _⟩) (v := aggU q.list) rfl (by kernel_rfl) (by kernel_rfl) (by kernel_rfl) (fun _ _ _ h => h) (yieldsIf_load_mid (wanted_none rfl) 128 (.tmp 5) rfl b 0 rfl (us q.list) (.array 8 127) (fun w' hw => hw.2.rng) Tryd.undA8 rfl Tryd.sizeA8) S0 ?_
    dsimp only
    try simp only [Act.put, List.setIfInBounds_toArray, List.set_cons_zero, List.set_cons_succ]
    refine wpAnyH_take (i := 2) (oi := ⟨_, _, _, _, _, _⟩) (v := .string lf) rfl (by kernel_rfl) (by kernel_rfl) (by kernel_rfl) (fun _ _ _ h => h) (Or.inl ⟨wanted_none rfl, fun w' hSw => ?_⟩) S0 ?_
    · go_simp
    try simp only [Act.put, List.setIfInBounds_toArray, List.set_cons_zero, List.set_cons_succ]
    refine wpAnyH_take (i := 4) (oi := ⟨_, _, _, _, _, _⟩) (v := .pointer (some ⟨b1, 2, none⟩)) rfl (by kernel_rfl) (by kernel_rfl) (by kernel_rfl) (fun _ _ _ h => h) (Or.inl ⟨wanted_none rfl, fun w' hSw => ?_⟩) S0 ?_
    · go_simp
    try simp only [Act.put, List.setIfInBounds_toArray, List.set_cons_zero, List.set_cons_succ]
    refine wpAnyH_take (i := 5) (oi := ⟨_, _, _, _, _, _⟩) (v := .int .i64 (z : Int)) rfl (by kernel_rfl) (by kernel_rfl) (by kernel_rfl) (fun _ _ _ h => h) (Or.inl ⟨wanted_none rfl, fun w' hSw => ?_⟩) S0 ?_
    · have q := hSw.1.cell (k := 2) rfl; go_simp
    try simp only [Act.put, List.setIfInBounds_toArray, List.set_cons_zero, List.set_cons_succ]
    refine wpAnyH_take (i := 6) (oi := ⟨_, _, _, _, _, _⟩) (v := .string t) rfl (by kernel_rfl) (by kernel_rfl) (by kernel_rfl) (fun _ _ _ h => h) (Or.inl ⟨wanted_none rfl, fun w' hSw => ?_⟩) S0 ?_
    · go_simp
    try simp only [Act.put, List.setIfInBounds_toArray, List.set_cons_zero, List.set_cons_succ]
    refine wpAnyH_take (i := 7) (oi := ⟨_, _, _, _, _, _⟩) (v := .int .i64 (t.size : Int)) rfl (by kernel_rfl) (by kernel_rfl) (by kernel_rfl) (fun _ _ _ h => h) (Or.inl ⟨wanted_none rfl, fun w' hSw => ?_⟩) S0 ?_
    · go_simp
    try simp only [Act.put, List.setIfInBounds_toArray, List.set_cons_zero, List.set_cons_succ]
    refine wpAnyH_take (i := 8) (oi := ⟨_, _, _, _, _, _⟩) (v := .int .i64 (Z : Int)) rfl (by kernel_rfl) (by kernel_rfl) (by kernel_rfl) (fun _ _ _ h => h) (Or.inl ⟨wanted_none rfl, fun w' hSw => ?_⟩) S0 ?_
    · go_simp
    try simp only [Act.put, List.setIfInBounds_toArray, List.set_cons_zero, List.set_cons_succ]
    have B0 : Below wc.heap.size wc wc.drew := (Below.refl _ _).drew
    generalize wc.drew = W at *
    refine wpAnyH_ready (rs := [1]) (by kernel_rfl) (by simp) (AllReadyH.cons (o := ⟨_, _, _, _, _, _⟩) rfl (fun K hK => ?_) AllReadyH.nil)
    rewrite [if_pos (wanted_none rfl)]
    go_simp
    refine (stateOf_any q W).mono ?_
    rintro e W2 ⟨g2, c2, rfl, hg2, hl2, hI2, hB2⟩
    have T2 : Below wc.heap.size wc W2 := B0.trans (hB2.mono B0.size)
    have S2 : RowV W2 b1 (hvs (some ⟨g, 0, none⟩) 8 c s (z : Int)) ∧ ArrU W2 b q.list := ⟨S0.1.below hB2 (S0.1.lt (hvs_ne _ _ _ _ _)), S0.2.below hB2 (S0.2.lt (by show 0 < 8; omega))⟩
    go_wp2_with fail
    refine hK.out _ _ S2 (fun _ => ?_)
    clear hK K
    refine wpAnyH_ready (rs := [3]) (by kernel_rfl) (by simp) (AllReadyH.cons (o := ⟨_, _, _, _, _, _⟩) rfl (fun K hK => ?_) AllReadyH.nil)
    rewrite [if_pos (wanted_none rfl)]
    go_simp
    refine (ownText_any lf W2).mono ?_
    rintro e W3 ⟨rfl, hB3⟩
    have T3 : Below wc.heap.size wc W3 := T2.trans (hB3.mono T2.size)
    have S3 : RowV W3 b1 (hvs (some ⟨g, 0, none⟩) 8 c s (z : Int)) ∧ ArrU W3 b q.list := ⟨S2.1.below hB3 (S2.1.lt (hvs_ne _ _ _ _ _)), S2.2.below hB3 (S2.2.lt (by show 0 < 8; omega))⟩
    go_wp2_with fail
    refine hK.out _ _ S3 (fun _ => ?_)
    clear hK K
    refine wpAnyH_take (i := 9) (oi := ⟨_, _, _, _, _, _⟩) (v := .agg (hvs (some ⟨g2, 0, none⟩) 8 c2 lf (Z : Int)).toArray) rfl (by kernel_rfl) (by kernel_rfl) (by kernel_rfl) (fun _ _ _ h => h) (Or.inl ⟨wanted_none rfl, fun w' hSw => ?_⟩) S3 ?_
    · go_simp; rfl
    try simp only [Act.put, List.setIfInBounds_toArray, List.set_cons_zero, List.set_cons_succ]
    have V3 := V4c.below T3 hl4
    have I3 := hI2.below hB3
    have z3 := hB3.size
    have z0 := B0.size
    refine wpAnyH_ready (rs := [10]) (by kernel_rfl) (by simp) (AllReadyH.cons (o := ⟨_, _, _, _, _, _⟩) rfl (fun K hK => ?_) AllReadyH.nil)
    rewrite [if_pos (wanted_none rfl)]
    with_reducible refine wp_store_mid 77 (.tmp 4) (.tmp 43) (by with_unfolding_all rfl) b4 0 (hvs (some ⟨g2, 0, none⟩) 8 c2 lf (Z : Int)).toArray (by with_unfolding_all rfl) (by with_unfolding_all rfl) (by with_unfolding_all exact V3.ths) (by with_unfolding_all exact Tryd.sizeH) (by rw [Array.all_eq_true_iff_forall_mem]; intro v hv; exact hvs_one _ _ _ _ _ v (by simpa using hv)) ?_
    have F9 : RowV (W3.setCells b4 0 (hvs (some ⟨g2, 0, none⟩) 8 c2 lf (Z : Int))) b4 (hvs (some ⟨g2, 0, none⟩) 8 c2 lf (Z : Int)) ∧ IAt (W3.setCells b4 0 (hvs (some ⟨g2, 0, none⟩) 8 c2 lf (Z : Int))) (some ⟨g2, 0, none⟩) q.ints ∧ Below w.heap.size w (W3.setCells b4 0 (hvs (some ⟨g2, 0, none⟩) 8 c2 lf (Z : Int))) ∧ g2 < (W3.setCells b4 0 (hvs (some ⟨g2, 0, none⟩) 8 c2 lf (Z : Int))).heap.size := ⟨V3.put rfl, I3.setsFar (by omega) _, (HB.out.1.trans (T3.mono (by omega))).trans (Lib.below_setCells_w (by omega) _ _ _), by rw [setCells_size]; omega⟩
    have S9 : RowV (W3.setCells b4 0 (hvs (some ⟨g2, 0, none⟩) 8 c2 lf (Z : Int))) b1 (hvs (some ⟨g, 0, none⟩) 8 c s (z : Int)) ∧ ArrU (W3.setCells b4 0 (hvs (some ⟨g2, 0, none⟩) 8 c2 lf (Z : Int))) b q.list := ⟨⟨World.rangeAt_setCells_apart S3.1.rng b4 0 _ (.inl (by omega)), World.there_setCells S3.1.ths b4 0 _⟩, ⟨World.rangeAt_setCells_apart S3.2.rng b4 0 _ (.inl (by omega)), World.there_setCells S3.2.ths b4 0 _⟩⟩
    dsimp only
    generalize W3.setCells b4 0 (hvs (some ⟨g2, 0, none⟩) 8 c2 lf (Z : Int)) = w9 at *
    refine hK.out _ _ S9 (fun _ => ?_)
    clear hK K
    refine wpAnyH_done (by kernel_rfl) ?_ _
    go_wp2_with fail
    refine bodyPost_ret (results_V (t := 77) rfl _ b4 _ rfl F9.1 Tryd.undH 3 Tryd.sizeH rfl) rfl ⟨g2, c2, rfl, by omega, F9.2.2.2, F9.2.1, F9.2.2.1⟩
end Go.Proofs.YtchfpiadfmnphaaDoor
namespace Go.Proofs.YtchfpiadfmnphaaDoor
open Go.RowKit
set_option linter.unusedVariables false

def ivR : R8 := ⟨1779033703, 3144134277, 1013904242, 2773480762, 1359893119, 2600822924, 528734635, 1541459225⟩
theorem ivR_ints : ivR.ints = iv := by decide
/- What a Hash is behind a text: its state, its rest; and the digest of a Hash. -/
def mst (r : R8) (s t : ByteArray) : R8 := stN r (s ++ t) ((s ++ t).size / 64)
def mlf (s t : ByteArray) : ByteArray := left (s ++ t) ((s ++ t).size / 64)
def padB (z : Nat) : ByteArray := ⟨(padL z).toArray⟩
def endD (r : R8) (s : ByteArray) (z : Nat) : ByteArray := ⟨(digs8 (stN r (s ++ padB z) ((s ++ padB z).size / 64)) 8).toArray⟩
def digN (t : ByteArray) : ByteArray := endD (mst ivR ⟨#[]⟩ t) (mlf ⟨#[]⟩ t) t.size
def digA (t : ByteArray) : ByteArray := if 20000 < t.size then ⟨#[]⟩ else digN t
theorem mlf_size (s t : ByteArray) : (mlf s t).size = (s.size + t.size) % 64 := by
  unfold mlf
  rw [left_size, ByteArray.size_append]
  omega
theorem mlf_of {s t : ByteArray} {z : Nat} (hs : s.size = z % 64) : (mlf s t).size = (z + t.size) % 64 := by
  rw [mlf_size, hs]; omega
theorem ret_str' {a b : ByteArray} (h : a = b) : Ending.returned (.string a) = .returned (.string b) := by rw [h]

/- The contracts, over these words. -/
theorem moreS_m (g c : Nat) (r : R8) (s t : ByteArray) (z : Nat) (w : World) (h : IAt w (some ⟨g, 0, none⟩) r.ints) (hs : s.size ≤ 64) (ht : t.size ≤ 1048576) (hz : z ≤ 1099511627776) :
    Calls Tryd.prog 48 #[HVal (some ⟨g, 0, none⟩) 8 c s (z : Int), .string t] w fun e w' => ∃ g2 c2, e = .returned (HVal (some ⟨g2, 0, none⟩) 8 c2 (mlf s t) ((z + t.size : Nat) : Int)) ∧ w.heap.size ≤ g2 ∧ g2 < w'.heap.size ∧ IAt w' (some ⟨g2, 0, none⟩) (mst r s t).ints ∧ Below w.heap.size w w' := by
  refine (moreS_any g c r s t z w h hs ht hz).mono ?_
  rintro e w' ⟨g2, c2, h1, h2, h3, h4, h5⟩
  exact ⟨g2, c2, h1, h2, h3, h4.iat, h5⟩
theorem moreI_m (g c : Nat) (r : R8) (s t : ByteArray) (z : Nat) (w : World) (h : IAt w (some ⟨g, 0, none⟩) r.ints) (hs : s.size = z % 64) (ht : t.size ≤ 20000) (hz : z + t.size ≤ 1099511627776) (hk : ArrU w 0 keys) (h0 : 0 < w.heap.size) :
    Calls Tryd.prog 61 #[HVal (some ⟨g, 0, none⟩) 8 c s (z : Int), .string t] w fun e w' => ∃ g2 c2, e = .returned (HVal (some ⟨g2, 0, none⟩) 8 c2 (mlf s t) ((z + t.size : Nat) : Int)) ∧ w.heap.size ≤ g2 ∧ g2 < w'.heap.size ∧ IAt w' (some ⟨g2, 0, none⟩) (mst r s t).ints ∧ Below w.heap.size w w' :=
  moreI_any g c r s t z w h hs ht hz hk h0
theorem more_holds : More := fun g c r s t z w h hs ht hz => moreS_any g c r s t z w h hs ht hz
theorem endS_m (g c : Nat) (r : R8) (s : ByteArray) (z : Nat) (w : World) (h : IAt w (some ⟨g, 0, none⟩) r.ints) (hs : s.size ≤ 64) (hz : z ≤ 1099511627776) :
    Calls Tryd.prog 47 #[HVal (some ⟨g, 0, none⟩) 8 c s (z : Int)] w fun e w' => e = .returned (.string (endD r s z)) ∧ Below w.heap.size w w' :=
  endS_any more_holds g c r s z w h hs hz
theorem endI_m (g c : Nat) (r : R8) (s : ByteArray) (z : Nat) (w : World) (h : IAt w (some ⟨g, 0, none⟩) r.ints) (hs : s.size = z % 64) (hz : z ≤ 1099511627776) (hk : ArrU w 0 keys) (h0 : 0 < w.heap.size) :
    Calls Tryd.prog 60 #[HVal (some ⟨g, 0, none⟩) 8 c s (z : Int)] w fun e w' => e = .returned (.string (endD r s z)) ∧ Below w.heap.size w w' :=
  endI_any g c r s z w h hs hz hk h0

set_option maxRecDepth 100000 in
set_option maxHeartbeats 1000000 in
theorem digestS_any (t : ByteArray) (w : World) (ht : t.size ≤ maxLen) :
    Calls Tryd.prog 26 #[.string t] w fun e w' => e = .returned (.string (digA t)) ∧ Below w.heap.size w w' := by
  unfold maxLen at ht
  by_cases hbig : 20000 < t.size
  · have HR : Hid (digA t = ⟨#[]⟩) := if_pos hbig
    go_enter Tryd.func26, Tryd.ntmps26
    go_wp2
    go_ret
    exact ⟨ret_str' HR.out.symm, Below.refl _ _⟩
  have HR : Hid (digA t = digN t) := if_neg hbig
  have hM : ∀ g c w0, IAt w0 (some ⟨g, 0, none⟩) iv → Calls Tryd.prog 48 #[HVal (some ⟨g, 0, none⟩) 8 c ⟨#[]⟩ 0, .string t] w0 fun e w' => ∃ g2 c2, e = .returned (HVal (some ⟨g2, 0, none⟩) 8 c2 (mlf ⟨#[]⟩ t) (t.size : Int)) ∧ w0.heap.size ≤ g2 ∧ g2 < w'.heap.size ∧ IAt w' (some ⟨g2, 0, none⟩) (mst ivR ⟨#[]⟩ t).ints ∧ Below w0.heap.size w0 w' := fun g c w0 h => by
    have := moreS_m g c ivR ⟨#[]⟩ t 0 w0 (by rw [ivR_ints]; exact h) (by decide) (by omega) (by omega)
    rw [Nat.zero_add] at this
    exact this
  have hE : ∀ g c w0, IAt w0 (some ⟨g, 0, none⟩) (mst ivR ⟨#[]⟩ t).ints → Calls Tryd.prog 47 #[HVal (some ⟨g, 0, none⟩) 8 c (mlf ⟨#[]⟩ t) (t.size : Int)] w0 fun e w' => e = .returned (.string (digN t)) ∧ Below w0.heap.size w0 w' := fun g c w0 h =>
    endS_m g c _ _ t.size w0 h (by rw [mlf_size]; omega) (by omega)
  generalize digN t = D at *
  generalize mlf ⟨#[]⟩ t = lf at *
  generalize (mst ivR ⟨#[]⟩ t).ints = l at *
  go_enter Tryd.func26, Tryd.ntmps26
  go_wp2_with (first
    | (go_at_call 49; refine (beginS_any _).mono ?_; rintro e w1 ⟨g1, rfl, hg1, hl1, hI1, hB1⟩)
    | (go_at_call 48; refine (hM g1 8 _ hI1).mono ?_; rintro e w2 ⟨g2, c2, rfl, hg2, hl2, hI2, hB2⟩)
    | (go_at_call 47; refine (hE g2 c2 _ hI2).mono ?_; rintro e w3 ⟨rfl, hB3⟩))
  go_ret
  exact ⟨ret_str' HR.out.symm, (hB1.trans (hB2.mono hB1.size)).trans (hB3.mono (Nat.le_trans hB1.size hB2.size))⟩

set_option maxRecDepth 100000 in
set_option maxHeartbeats 1000000 in
theorem digestI_any (t : ByteArray) (w : World) (ht : t.size ≤ maxLen) (hk : ArrU w 0 keys) (h0 : 0 < w.heap.size) :
    Calls Tryd.prog 43 #[.string t] w fun e w' => e = .returned (.string (digA t)) ∧ Below w.heap.size w w' := by
  unfold maxLen at ht
  by_cases hbig : 20000 < t.size
  · have HR : Hid (digA t = ⟨#[]⟩) := if_pos hbig
    clear hk
    go_enter Tryd.func43, Tryd.ntmps43
    go_wp2
    go_ret
    exact ⟨ret_str' HR.out.symm, Below.refl _ _⟩
  have HR : Hid (digA t = digN t) := if_neg hbig
  have HK : Hid (ArrU w 0 keys) := hk
  clear hk
  have hM : ∀ g c w0, ArrU w0 0 keys → 0 < w0.heap.size → IAt w0 (some ⟨g, 0, none⟩) iv → Calls Tryd.prog 61 #[HVal (some ⟨g, 0, none⟩) 8 c ⟨#[]⟩ 0, .string t] w0 fun e w' => ∃ g2 c2, e = .returned (HVal (some ⟨g2, 0, none⟩) 8 c2 (mlf ⟨#[]⟩ t) (t.size : Int)) ∧ w0.heap.size ≤ g2 ∧ g2 < w'.heap.size ∧ IAt w' (some ⟨g2, 0, none⟩) (mst ivR ⟨#[]⟩ t).ints ∧ Below w0.heap.size w0 w' := fun g c w0 k1 k2 h => by
    have := moreI_m g c ivR ⟨#[]⟩ t 0 w0 (by rw [ivR_ints]; exact h) (by decide) (by omega) (by omega) k1 k2
    rw [Nat.zero_add] at this
    exact this
  have hE : ∀ g c w0, ArrU w0 0 keys → 0 < w0.heap.size → IAt w0 (some ⟨g, 0, none⟩) (mst ivR ⟨#[]⟩ t).ints → Calls Tryd.prog 60 #[HVal (some ⟨g, 0, none⟩) 8 c (mlf ⟨#[]⟩ t) (t.size : Int)] w0 fun e w' => e = .returned (.string (digN t)) ∧ Below w0.heap.size w0 w' := fun g c w0 k1 k2 h =>
    endI_m g c _ _ t.size w0 h (by rw [mlf_size]; show (0 + t.size) % 64 = t.size % 64; rw [Nat.zero_add]) (by omega) k1 k2
  generalize digN t = D at *
  generalize mlf ⟨#[]⟩ t = lf at *
  generalize (mst ivR ⟨#[]⟩ t).ints = l at *
  go_enter Tryd.func43, Tryd.ntmps43
  go_wp2_with (first
    | (go_at_call 62; refine (beginI_any _).mono ?_; rintro e w1 ⟨g1, rfl, hg1, hl1, hI1, hB1⟩)
    | (go_at_call 61; refine (hM g1 8 _ (HK.out.below hB1 h0) (by have := hB1.size; omega) hI1).mono ?_; rintro e w2 ⟨g2, c2, rfl, hg2, hl2, hI2, hB2⟩)
    | (go_at_call 60; refine (hE g2 c2 _ (HK.out.below (hB1.trans (hB2.mono hB1.size)) h0) (by have := hB1.size; have := hB2.size; omega) hI2).mono ?_; rintro e w3 ⟨rfl, hB3⟩))
  go_ret
  exact ⟨ret_str' HR.out.symm, (hB1.trans (hB2.mono hB1.size)).trans (hB3.mono (Nat.le_trans hB1.size hB2.size))⟩

theorem digs8_length (r : R8) : (digs8 r 8).length = 32 := rfl
theorem endD_size (r : R8) (s : ByteArray) (z : Nat) : (endD r s z).size = 32 := by
  show (digs8 _ 8).toArray.size = 32
  rw [List.size_toArray, digs8_length]
end Go.Proofs.YtchfpiadfmnphaaDoor
namespace Go.Proofs.YtchfpiadfmnphaaDoor
open Go.RowKit
set_option linter.unusedVariables false

theorem blt_eq (x y : List UInt8) : Op.bytesLess x y = decide (x < y) := by
  induction x generalizing y with
  | nil => cases y <;> simp [Op.bytesLess]
  | cons a x ih =>
    cases y with
    | nil => simp [Op.bytesLess]
    | cons b y =>
      unfold Op.bytesLess
      rw [ih y]
      simp only [List.cons_lt_cons_iff]
      by_cases h1 : a < b <;> by_cases h2 : a = b <;> by_cases h3 : x < y <;> simp [h1, h2, h3]
theorem leq_not (d a : ByteArray) : (Op.bytesLess d.toList a.toList || d.toList == a.toList) = !(Op.bytesLess a.toList d.toList) := by
  rw [blt_eq, blt_eq]
  by_cases h : a.toList < d.toList
  · have h1 : ¬ d.toList < a.toList := fun h2 => List.lt_asymm h h2
    have h2 : ¬ d.toList = a.toList := fun e => by rw [e] at h; exact List.lt_irrefl _ h
    simp [h, h1, h2]
  · by_cases h1 : d.toList < a.toList
    · simp [h, h1]
    · have h2 : d.toList = a.toList := List.le_antisymm (List.not_lt.1 h) (List.not_lt.1 h1)
      simp [h2, List.lt_irrefl]
def PreOk (l : List ByteArray) (k : Nat) : Prop := (∀ i (h : i < l.length), i < k → l[i].size ≤ 3000) ∧ (∀ i (h : i + 1 < l.length), i + 1 < k → nmLt (digA l[i]) (digA l[i + 1]) = true)
def AhdOk (l : List ByteArray) (k : Nat) (A : ByteArray) : Prop := (k = 0 → A = ⟨#[]⟩) ∧ (∀ k1 (h : k1 < l.length), k = k1 + 1 → A = digA l[k1])
def StOk (l : List ByteArray) : Prop := l.length ≤ 60 ∧ PreOk l l.length
theorem StOk.not_long {l : List ByteArray} {n : Nat} (hn : l.length = n) (h : 60 < n) : ¬ StOk l := fun k => by have := k.1; omega
theorem StOk.not_big {l : List ByteArray} {k : Nat} {x : ByteArray} (hk : k < l.length) (hx : l[k] = x) (h : 3000 < x.size) : ¬ StOk l := fun hs => by
  have := hs.2.1 k hk hk
  rw [hx] at this
  omega
theorem StOk.not_rise {l : List ByteArray} {k : Nat} {x A d : ByteArray} (hk : k < l.length) (hx : l[k] = x) (hd : digA x = d) (hA : AhdOk l k A) (h0 : 0 < k) (h : nmLt A d = false) : ¬ StOk l := fun hs => by
  obtain ⟨k1, rfl⟩ : ∃ k1, k = k1 + 1 := ⟨k - 1, by omega⟩
  have h1 := hA.2 k1 (by omega) rfl
  have h2 := hs.2.2 k1 hk hk
  rw [hx, hd, ← h1, h] at h2
  cases h2
theorem PreOk.zero (l : List ByteArray) : PreOk l 0 := ⟨fun i _ h => absurd h (Nat.not_lt_zero _), fun i _ h => absurd h (Nat.not_lt_zero _)⟩
theorem AhdOk.zero (l : List ByteArray) : AhdOk l 0 ⟨#[]⟩ := ⟨fun _ => rfl, fun k1 _ e => by omega⟩
theorem PreOk.step {l : List ByteArray} {k : Nat} {x A d : ByteArray} (h : PreOk l k) (hA : AhdOk l k A) (hk : k < l.length) (hx : l[k] = x) (hd : digA x = d) (hs : x.size ≤ 3000) (hl : k = 0 ∨ nmLt A d = true) : PreOk l (k + 1) := by
  refine ⟨fun i hi hik => ?_, fun i hi hik => ?_⟩
  · by_cases e : i < k
    · exact h.1 i hi e
    · obtain rfl : i = k := by omega
      rw [hx]; exact hs
  · by_cases e : i + 1 < k
    · exact h.2 i hi e
    · obtain rfl : k = i + 1 := by omega
      rcases hl with hl | hl
      · omega
      · rw [hA.2 i (by omega) rfl] at hl
        rw [hx, hd]
        exact hl
theorem AhdOk.step {l : List ByteArray} {k : Nat} {x d : ByteArray} (hk : k < l.length) (hx : l[k] = x) (hd : digA x = d) : AhdOk l (k + 1) d := ⟨fun e => by omega, fun k1 h1 e => by
  obtain rfl : k1 = k := by omega
  rw [hx]; exact hd.symm⟩
theorem StOk.all {l : List ByteArray} {n : Nat} (h : PreOk l n) (hn : l.length = n) (h60 : ¬ 60 < n) : StOk l := ⟨by omega, by rw [hn]; exact h⟩
theorem digA_32 {x : ByteArray} (h : x.size ≤ 3000) : (digA x).size = 32 := by
  unfold digA
  rw [if_neg (by omega)]
  show (endD _ _ _).size = 32
  exact endD_size _ _ _
/- A text of some bytes is greater than the empty one. -/
theorem nmLt_nil {d : ByteArray} (h : 0 < d.size) : nmLt ⟨#[]⟩ d = true := by
  unfold nmLt
  rw [blt_eq]
  have h1 : d.toList.length = d.size := by rw [Lib.toList_data]; rfl
  have h2 : (⟨#[]⟩ : ByteArray).toList = [] := by rw [Lib.toList_data]
  rw [h2]
  cases hd : d.toList with
  | nil => rw [hd] at h1; simp at h1; omega
  | cons x xs => exact decide_eq_true (List.nil_lt_cons x xs)
end Go.Proofs.YtchfpiadfmnphaaDoor
