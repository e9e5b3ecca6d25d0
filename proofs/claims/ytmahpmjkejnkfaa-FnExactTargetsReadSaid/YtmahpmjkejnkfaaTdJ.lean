/- The program's reader of targets: how many, and each. -/
import Derived.Test.YtmahpmjkejnkfaaTdI
namespace Go.Proofs.Ytmahpmjkejnkfaa
open Go.RowKit
set_option linter.unusedVariables false

set_option maxRecDepth 100000 in
set_option maxHeartbeats 4000000 in
theorem tdN2 (g p : Nat) (t : ByteArray) (w : World) (hs : t.size ≤ maxLen) (hp : p ≤ t.size) (R : Option (Int × Int × List TarV × Nat)) (v e : Int) (b1 b2 : Nat) (hn1 : numO t p = some (v, b1) ∧ p ≤ t.size) (hn2 : numO t b1 = some (e, b2) ∧ b1 ≤ t.size) (hb2 : b2 ≤ t.size) (hc : countO t b2 20 = none) (HNo : Hid (R = none)) (h : RowV w g (cuv t p)) :
    Calls Try.prog 55 #[.pointer (some ⟨g, 0, none⟩)] w (SdT t g R w) := by
  have HR : Hid (RowV w g (cuv t p)) := h
  clear h
  go_enter Try.func55, Try.ntmps55
  go_wp2_with (first
    | (with_reducible refine wpList_allocV (w := w) (by with_unfolding_all rfl) 44 (by with_unfolding_all rfl) (rtv 0 0 none 0 0) Try.infoTsz ?_; intro wv hAv hBv hSv; have HKv := KpM.new (KpM.start HR.out (cuv_ne _ _)) hAv rtv_ne0 hBv; clear hSv hAv hBv))
  refine wp_region_held_drew (S := fun _ => True) (by kernel_rfl) trivial (fun _ => ?_)
  refine wpAnyH_take (i := 0) (oi := ⟨_, _, _, _, _, _⟩) (v := .pointer (some ⟨g, 0, none⟩)) rfl (by kernel_rfl) (by kernel_rfl) (by kernel_rfl) (fun _ _ _ h => h) (Or.inl ⟨wanted_free rfl, fun w' hSw => ?_⟩) trivial ?_
  · go_simp
  try simp only [Act.put, List.setIfInBounds_toArray, List.set_cons_zero, List.set_cons_succ]
  refine wpAnyH_take (i := 1) (oi := ⟨_, _, _, _, _, _⟩) (v := .pointer (some ⟨g, 0, none⟩)) rfl (by kernel_rfl) (by kernel_rfl) (by kernel_rfl) (fun _ _ _ h => h) (Or.inl ⟨wanted_free rfl, fun w' hSw => ?_⟩) trivial ?_
  · go_simp
  try simp only [Act.put, List.setIfInBounds_toArray, List.set_cons_zero, List.set_cons_succ]
  refine wpAnyH_take (i := 2) (oi := ⟨_, _, _, _, _, _⟩) (v := .pointer (some ⟨g, 0, none⟩)) rfl (by kernel_rfl) (by kernel_rfl) (by kernel_rfl) (fun _ _ _ h => h) (Or.inl ⟨wanted_free rfl, fun w' hSw => ?_⟩) trivial ?_
  · go_simp
  try simp only [Act.put, List.setIfInBounds_toArray, List.set_cons_zero, List.set_cons_succ]
  refine wpAnyH_take (i := 4) (oi := ⟨_, _, _, _, _, _⟩) (v := .pointer (some ⟨g, 0, none⟩)) rfl (by kernel_rfl) (by kernel_rfl) (by kernel_rfl) (fun _ _ _ h => h) (Or.inl ⟨wanted_free rfl, fun w' hSw => ?_⟩) trivial ?_
  · go_simp
  try simp only [Act.put, List.setIfInBounds_toArray, List.set_cons_zero, List.set_cons_succ]
  refine wpAnyH_take (i := 5) (oi := ⟨_, _, _, _, _, _⟩) (v := .pointer (some ⟨g, 0, none⟩)) rfl (by kernel_rfl) (by kernel_rfl) (by kernel_rfl) (fun _ _ _ h => h) (Or.inl ⟨wanted_free rfl, fun w' hSw => ?_⟩) trivial ?_
  · go_simp
  try simp only [Act.put, List.setIfInBounds_toArray, List.set_cons_zero, List.set_cons_succ]
  refine wpAnyH_take (i := 6) (oi := ⟨_, _, _, _, _, _⟩) (v := .pointer (some ⟨g, 0, none⟩)) rfl (by kernel_rfl) (by kernel_rfl) (by kernel_rfl) (fun _ _ _ h => h) (Or.inl ⟨wanted_free rfl, fun w' hSw => ?_⟩) trivial ?_
  · go_simp
  try simp only [Act.put, List.setIfInBounds_toArray, List.set_cons_zero, List.set_cons_succ]
  have HKW := KpM.drew HKv
  generalize wv.drew = W at *
  refine wpAnyH_ready (rs := [3, 9]) (by kernel_rfl) (by simp) (AllReadyH.cons (o := ⟨_, _, _, _, _, _⟩) rfl (fun K hK => ?_) (AllReadyH.cons (o := ⟨_, _, _, _, _, _⟩) rfl (fun K hK => ?_) AllReadyH.nil))
  · as_aux_lemma =>
    rewrite [if_pos (wanted_free rfl)]
    go_simp
    refine (numYes g p b1 t v W hs hn1 (KpM.rowH HKW)).mono ?_
    rintro e Wc ⟨rfl, hRWc, hOWc⟩
    have HKWc := KpM.read HKW hRWc (cuv_ne _ _) hOWc
    go_wp2_with fail
    refine hK.out _ _ trivial (fun _ => ?_)
    clear hK K
    try simp only [Act.put, List.setIfInBounds_toArray, List.set_cons_zero, List.set_cons_succ]
    refine wpAnyH_ready (rs := [7, 9]) (by kernel_rfl) (by simp) (AllReadyH.cons (o := ⟨_, _, _, _, _, _⟩) rfl (fun K hK => ?_) (AllReadyH.cons (o := ⟨_, _, _, _, _, _⟩) rfl (fun K hK => ?_) AllReadyH.nil))
    · as_aux_lemma =>
      rewrite [if_pos (wanted_free rfl)]
      go_simp
      refine (numYes g b1 b2 t e Wc hs hn2 (KpM.rowH HKWc)).mono ?_
      rintro e Wcc ⟨rfl, hRWcc, hOWcc⟩
      have HKWcc := KpM.read HKWc hRWcc (cuv_ne _ _) hOWcc
      go_wp2_with fail
      refine hK.out _ _ trivial (fun _ => ?_)
      clear hK K
      try simp only [Act.put, List.setIfInBounds_toArray, List.set_cons_zero, List.set_cons_succ]
      refine wpAnyH_take (i := 8) (oi := ⟨_, _, _, _, _, _⟩) (v := .agg #[.int .i64 v, .int .i64 e, .slice none 0 0]) rfl (by kernel_rfl) (by kernel_rfl) (by kernel_rfl) (fun _ _ _ h => h) (Or.inl ⟨wanted_free rfl, fun w' hSw => ?_⟩) trivial ?_
      · go_simp
      try simp only [Act.put, List.setIfInBounds_toArray, List.set_cons_zero, List.set_cons_succ]
      refine wpAnyH_ready (rs := [9]) (by kernel_rfl) (by simp) (AllReadyH.cons (o := ⟨_, _, _, _, _, _⟩) rfl (fun K hK => ?_) AllReadyH.nil)
      rewrite [if_pos (wanted_free rfl)]
      with_reducible refine wp_allocV 44 (by with_unfolding_all rfl) (rtv 0 0 none 0 0) Try.infoTsz ?_
      intro Wcca hAWcca hBWcca
      have HKWcca := KpM.new HKWcc hAWcca rtv_ne0 hBWcca
      refine hK.out _ _ trivial (fun _ => ?_)
      clear hK K
      try simp only [Act.put, List.setIfInBounds_toArray, List.set_cons_zero, List.set_cons_succ]
      refine wpAnyH_ready (rs := [10]) (by kernel_rfl) (by simp) (AllReadyH.cons (o := ⟨_, _, _, _, _, _⟩) rfl (fun K hK => ?_) AllReadyH.nil)
      rewrite [if_pos (wanted_free rfl)]
      with_reducible refine wp_storeV 44 (.tmp 3) (.tmp 13) (by with_unfolding_all rfl) Wcc.heap.size (rtv 0 0 none 0 0) (rtv v e none 0 0) (by with_unfolding_all rfl) (by with_unfolding_all rfl) (KpM.get HKWcca (List.mem_cons_self ..)) 3 Try.sizeTs (by with_unfolding_all rfl) (by with_unfolding_all rfl) (rtv_one _ _ _ _ _) ?_
      intro wf hAf hOf
      have HKf := KpM.put HKWcca (one_apart (KpM.apartN HKWcc)) hAf rtv_neA hOf
      have zGA := KpM.apartN HKWcc
      refine hK.out _ _ trivial (fun _ => ?_)
      clear hK K
      refine wpAnyH_done (by kernel_rfl) ?_ _
      generalize Wcc.heap.size = GA at *
      clear HKW HKWc HKWcc HKWcca
      have HS0 := KpT.start HKf
      clear HKf
      go_wp2_with (first
        | (go_at_call 77; refine (countNo g b2 20 t wf hs hc hb2 (KpT.rowH HS0)).mono ?_; rintro e2 wg ⟨rfl, hOg⟩))
      exact ⟨rfl, Or.inr ⟨HNo.out, rfl, HS0.out.km.only.trans hOg⟩⟩
    · as_aux_lemma =>
      rewrite [if_pos (wanted_free rfl)]
      with_reducible refine wp_allocV 44 (by with_unfolding_all rfl) (rtv 0 0 none 0 0) Try.infoTsz ?_
      intro Wca hAWca hBWca
      have HKWca := KpM.new HKWc hAWca rtv_ne0 hBWca
      refine hK.out _ _ trivial (fun _ => ?_)
      clear hK K
      try simp only [Act.put, List.setIfInBounds_toArray, List.set_cons_zero, List.set_cons_succ]
      refine wpAnyH_ready (rs := [7]) (by kernel_rfl) (by simp) (AllReadyH.cons (o := ⟨_, _, _, _, _, _⟩) rfl (fun K hK => ?_) AllReadyH.nil)
      rewrite [if_pos (wanted_free rfl)]
      go_simp
      refine (numYes g b1 b2 t e Wca hs hn2 (KpM.rowH HKWca)).mono ?_
      rintro e Wcac ⟨rfl, hRWcac, hOWcac⟩
      have HKWcac := KpM.read HKWca hRWcac (cuv_ne _ _) hOWcac
      go_wp2_with fail
      refine hK.out _ _ trivial (fun _ => ?_)
      clear hK K
      try simp only [Act.put, List.setIfInBounds_toArray, List.set_cons_zero, List.set_cons_succ]
      refine wpAnyH_take (i := 8) (oi := ⟨_, _, _, _, _, _⟩) (v := .agg #[.int .i64 v, .int .i64 e, .slice none 0 0]) rfl (by kernel_rfl) (by kernel_rfl) (by kernel_rfl) (fun _ _ _ h => h) (Or.inl ⟨wanted_free rfl, fun w' hSw => ?_⟩) trivial ?_
      · go_simp
      try simp only [Act.put, List.setIfInBounds_toArray, List.set_cons_zero, List.set_cons_succ]
      refine wpAnyH_ready (rs := [10]) (by kernel_rfl) (by simp) (AllReadyH.cons (o := ⟨_, _, _, _, _, _⟩) rfl (fun K hK => ?_) AllReadyH.nil)
      rewrite [if_pos (wanted_free rfl)]
      with_reducible refine wp_storeV 44 (.tmp 3) (.tmp 13) (by with_unfolding_all rfl) Wc.heap.size (rtv 0 0 none 0 0) (rtv v e none 0 0) (by with_unfolding_all rfl) (by with_unfolding_all rfl) (KpM.get HKWcac (List.mem_cons_self ..)) 3 Try.sizeTs (by with_unfolding_all rfl) (by with_unfolding_all rfl) (rtv_one _ _ _ _ _) ?_
      intro wf hAf hOf
      have HKf := KpM.put HKWcac (one_apart (KpM.apartN HKWc)) hAf rtv_neA hOf
      have zGA := KpM.apartN HKWc
      refine hK.out _ _ trivial (fun _ => ?_)
      clear hK K
      refine wpAnyH_done (by kernel_rfl) ?_ _
      generalize Wc.heap.size = GA at *
      clear HKW HKWc HKWca HKWcac
      have HS0 := KpT.start HKf
      clear HKf
      go_wp2_with (first
        | (go_at_call 77; refine (countNo g b2 20 t wf hs hc hb2 (KpT.rowH HS0)).mono ?_; rintro e2 wg ⟨rfl, hOg⟩))
      exact ⟨rfl, Or.inr ⟨HNo.out, rfl, HS0.out.km.only.trans hOg⟩⟩
  · as_aux_lemma =>
    rewrite [if_pos (wanted_free rfl)]
    with_reducible refine wp_allocV 44 (by with_unfolding_all rfl) (rtv 0 0 none 0 0) Try.infoTsz ?_
    intro Wa hAWa hBWa
    have HKWa := KpM.new HKW hAWa rtv_ne0 hBWa
    refine hK.out _ _ trivial (fun _ => ?_)
    clear hK K
    try simp only [Act.put, List.setIfInBounds_toArray, List.set_cons_zero, List.set_cons_succ]
    refine wpAnyH_ready (rs := [3]) (by kernel_rfl) (by simp) (AllReadyH.cons (o := ⟨_, _, _, _, _, _⟩) rfl (fun K hK => ?_) AllReadyH.nil)
    rewrite [if_pos (wanted_free rfl)]
    go_simp
    refine (numYes g p b1 t v Wa hs hn1 (KpM.rowH HKWa)).mono ?_
    rintro e Wac ⟨rfl, hRWac, hOWac⟩
    have HKWac := KpM.read HKWa hRWac (cuv_ne _ _) hOWac
    go_wp2_with fail
    refine hK.out _ _ trivial (fun _ => ?_)
    clear hK K
    try simp only [Act.put, List.setIfInBounds_toArray, List.set_cons_zero, List.set_cons_succ]
    refine wpAnyH_ready (rs := [7]) (by kernel_rfl) (by simp) (AllReadyH.cons (o := ⟨_, _, _, _, _, _⟩) rfl (fun K hK => ?_) AllReadyH.nil)
    rewrite [if_pos (wanted_free rfl)]
    go_simp
    refine (numYes g b1 b2 t e Wac hs hn2 (KpM.rowH HKWac)).mono ?_
    rintro e Wacc ⟨rfl, hRWacc, hOWacc⟩
    have HKWacc := KpM.read HKWac hRWacc (cuv_ne _ _) hOWacc
    go_wp2_with fail
    refine hK.out _ _ trivial (fun _ => ?_)
    clear hK K
    try simp only [Act.put, List.setIfInBounds_toArray, List.set_cons_zero, List.set_cons_succ]
    refine wpAnyH_take (i := 8) (oi := ⟨_, _, _, _, _, _⟩) (v := .agg #[.int .i64 v, .int .i64 e, .slice none 0 0]) rfl (by kernel_rfl) (by kernel_rfl) (by kernel_rfl) (fun _ _ _ h => h) (Or.inl ⟨wanted_free rfl, fun w' hSw => ?_⟩) trivial ?_
    · go_simp
    try simp only [Act.put, List.setIfInBounds_toArray, List.set_cons_zero, List.set_cons_succ]
    refine wpAnyH_ready (rs := [10]) (by kernel_rfl) (by simp) (AllReadyH.cons (o := ⟨_, _, _, _, _, _⟩) rfl (fun K hK => ?_) AllReadyH.nil)
    rewrite [if_pos (wanted_free rfl)]
    with_reducible refine wp_storeV 44 (.tmp 3) (.tmp 13) (by with_unfolding_all rfl) W.heap.size (rtv 0 0 none 0 0) (rtv v e none 0 0) (by with_unfolding_all rfl) (by with_unfolding_all rfl) (KpM.get HKWacc (List.mem_cons_self ..)) 3 Try.sizeTs (by with_unfolding_all rfl) (by with_unfolding_all rfl) (rtv_one _ _ _ _ _) ?_
    intro wf hAf hOf
    have HKf := KpM.put HKWacc (one_apart (KpM.apartN HKW)) hAf rtv_neA hOf
    have zGA := KpM.apartN HKW
    refine hK.out _ _ trivial (fun _ => ?_)
    clear hK K
    refine wpAnyH_done (by kernel_rfl) ?_ _
    generalize W.heap.size = GA at *
    clear HKW HKWa HKWac HKWacc
    have HS0 := KpT.start HKf
    clear HKf
    go_wp2_with (first
      | (go_at_call 77; refine (countNo g b2 20 t wf hs hc hb2 (KpT.rowH HS0)).mono ?_; rintro e2 wg ⟨rfl, hOg⟩))
    exact ⟨rfl, Or.inr ⟨HNo.out, rfl, HS0.out.km.only.trans hOg⟩⟩
set_option maxRecDepth 100000 in
set_option maxHeartbeats 4000000 in
theorem tdMain (g p : Nat) (t : ByteArray) (w : World) (hs : t.size ≤ maxLen) (hp : p ≤ t.size) (R : Option (Int × Int × List TarV × Nat)) (v e : Int) (b1 b2 b3 k : Nat) (hn1 : numO t p = some (v, b1) ∧ p ≤ t.size) (hn2 : numO t b1 = some (e, b2) ∧ b1 ≤ t.size) (hb2 : b2 ≤ t.size) (hc : countO t b2 20 = some (k, b3)) (hb3 : b3 ≤ t.size) (hk20 : k ≤ 20) (HF : Hid (R = restT t v e [] (k - 0) b3)) (h : RowV w g (cuv t p)) :
    Calls Try.prog 55 #[.pointer (some ⟨g, 0, none⟩)] w (SdT t g R w) := by
  have HR : Hid (RowV w g (cuv t p)) := h
  clear h
  go_enter Try.func55, Try.ntmps55
  go_wp2_with (first
    | (with_reducible refine wpList_allocV (w := w) (by with_unfolding_all rfl) 44 (by with_unfolding_all rfl) (rtv 0 0 none 0 0) Try.infoTsz ?_; intro wv hAv hBv hSv; have HKv := KpM.new (KpM.start HR.out (cuv_ne _ _)) hAv rtv_ne0 hBv; clear hSv hAv hBv))
  refine wp_region_held_drew (S := fun _ => True) (by kernel_rfl) trivial (fun _ => ?_)
  refine wpAnyH_take (i := 0) (oi := ⟨_, _, _, _, _, _⟩) (v := .pointer (some ⟨g, 0, none⟩)) rfl (by kernel_rfl) (by kernel_rfl) (by kernel_rfl) (fun _ _ _ h => h) (Or.inl ⟨wanted_free rfl, fun w' hSw => ?_⟩) trivial ?_
  · go_simp
  try simp only [Act.put, List.setIfInBounds_toArray, List.set_cons_zero, List.set_cons_succ]
  refine wpAnyH_take (i := 1) (oi := ⟨_, _, _, _, _, _⟩) (v := .pointer (some ⟨g, 0, none⟩)) rfl (by kernel_rfl) (by kernel_rfl) (by kernel_rfl) (fun _ _ _ h => h) (Or.inl ⟨wanted_free rfl, fun w' hSw => ?_⟩) trivial ?_
  · go_simp
  try simp only [Act.put, List.setIfInBounds_toArray, List.set_cons_zero, List.set_cons_succ]
  refine wpAnyH_take (i := 2) (oi := ⟨_, _, _, _, _, _⟩) (v := .pointer (some ⟨g, 0, none⟩)) rfl (by kernel_rfl) (by kernel_rfl) (by kernel_rfl) (fun _ _ _ h => h) (Or.inl ⟨wanted_free rfl, fun w' hSw => ?_⟩) trivial ?_
  · go_simp
  try simp only [Act.put, List.setIfInBounds_toArray, List.set_cons_zero, List.set_cons_succ]
  refine wpAnyH_take (i := 4) (oi := ⟨_, _, _, _, _, _⟩) (v := .pointer (some ⟨g, 0, none⟩)) rfl (by kernel_rfl) (by kernel_rfl) (by kernel_rfl) (fun _ _ _ h => h) (Or.inl ⟨wanted_free rfl, fun w' hSw => ?_⟩) trivial ?_
  · go_simp
  try simp only [Act.put, List.setIfInBounds_toArray, List.set_cons_zero, List.set_cons_succ]
  refine wpAnyH_take (i := 5) (oi := ⟨_, _, _, _, _, _⟩) (v := .pointer (some ⟨g, 0, none⟩)) rfl (by kernel_rfl) (by kernel_rfl) (by kernel_rfl) (fun _ _ _ h => h) (Or.inl ⟨wanted_free rfl, fun w' hSw => ?_⟩) trivial ?_
  · go_simp
  try simp only [Act.put, List.setIfInBounds_toArray, List.set_cons_zero, List.set_cons_succ]
  refine wpAnyH_take (i := 6) (oi := ⟨_, _, _, _, _, _⟩) (v := .pointer (some ⟨g, 0, none⟩)) rfl (by kernel_rfl) (by kernel_rfl) (by kernel_rfl) (fun _ _ _ h => h) (Or.inl ⟨wanted_free rfl, fun w' hSw => ?_⟩) trivial ?_
  · go_simp
  try simp only [Act.put, List.setIfInBounds_toArray, List.set_cons_zero, List.set_cons_succ]
  have HKW := KpM.drew HKv
  generalize wv.drew = W at *
  refine wpAnyH_ready (rs := [3, 9]) (by kernel_rfl) (by simp) (AllReadyH.cons (o := ⟨_, _, _, _, _, _⟩) rfl (fun K hK => ?_) (AllReadyH.cons (o := ⟨_, _, _, _, _, _⟩) rfl (fun K hK => ?_) AllReadyH.nil))
  · as_aux_lemma =>
    rewrite [if_pos (wanted_free rfl)]
    go_simp
    refine (numYes g p b1 t v W hs hn1 (KpM.rowH HKW)).mono ?_
    rintro e Wc ⟨rfl, hRWc, hOWc⟩
    have HKWc := KpM.read HKW hRWc (cuv_ne _ _) hOWc
    go_wp2_with fail
    refine hK.out _ _ trivial (fun _ => ?_)
    clear hK K
    try simp only [Act.put, List.setIfInBounds_toArray, List.set_cons_zero, List.set_cons_succ]
    refine wpAnyH_ready (rs := [7, 9]) (by kernel_rfl) (by simp) (AllReadyH.cons (o := ⟨_, _, _, _, _, _⟩) rfl (fun K hK => ?_) (AllReadyH.cons (o := ⟨_, _, _, _, _, _⟩) rfl (fun K hK => ?_) AllReadyH.nil))
    · as_aux_lemma =>
      rewrite [if_pos (wanted_free rfl)]
      go_simp
      refine (numYes g b1 b2 t e Wc hs hn2 (KpM.rowH HKWc)).mono ?_
      rintro e Wcc ⟨rfl, hRWcc, hOWcc⟩
      have HKWcc := KpM.read HKWc hRWcc (cuv_ne _ _) hOWcc
      go_wp2_with fail
      refine hK.out _ _ trivial (fun _ => ?_)
      clear hK K
      try simp only [Act.put, List.setIfInBounds_toArray, List.set_cons_zero, List.set_cons_succ]
      refine wpAnyH_take (i := 8) (oi := ⟨_, _, _, _, _, _⟩) (v := .agg #[.int .i64 v, .int .i64 e, .slice none 0 0]) rfl (by kernel_rfl) (by kernel_rfl) (by kernel_rfl) (fun _ _ _ h => h) (Or.inl ⟨wanted_free rfl, fun w' hSw => ?_⟩) trivial ?_
      · go_simp
      try simp only [Act.put, List.setIfInBounds_toArray, List.set_cons_zero, List.set_cons_succ]
      refine wpAnyH_ready (rs := [9]) (by kernel_rfl) (by simp) (AllReadyH.cons (o := ⟨_, _, _, _, _, _⟩) rfl (fun K hK => ?_) AllReadyH.nil)
      rewrite [if_pos (wanted_free rfl)]
      with_reducible refine wp_allocV 44 (by with_unfolding_all rfl) (rtv 0 0 none 0 0) Try.infoTsz ?_
      intro Wcca hAWcca hBWcca
      have HKWcca := KpM.new HKWcc hAWcca rtv_ne0 hBWcca
      refine hK.out _ _ trivial (fun _ => ?_)
      clear hK K
      try simp only [Act.put, List.setIfInBounds_toArray, List.set_cons_zero, List.set_cons_succ]
      refine wpAnyH_ready (rs := [10]) (by kernel_rfl) (by simp) (AllReadyH.cons (o := ⟨_, _, _, _, _, _⟩) rfl (fun K hK => ?_) AllReadyH.nil)
      rewrite [if_pos (wanted_free rfl)]
      with_reducible refine wp_storeV 44 (.tmp 3) (.tmp 13) (by with_unfolding_all rfl) Wcc.heap.size (rtv 0 0 none 0 0) (rtv v e none 0 0) (by with_unfolding_all rfl) (by with_unfolding_all rfl) (KpM.get HKWcca (List.mem_cons_self ..)) 3 Try.sizeTs (by with_unfolding_all rfl) (by with_unfolding_all rfl) (rtv_one _ _ _ _ _) ?_
      intro wf hAf hOf
      have HKf := KpM.put HKWcca (one_apart (KpM.apartN HKWcc)) hAf rtv_neA hOf
      have zGA := KpM.apartN HKWcc
      refine hK.out _ _ trivial (fun _ => ?_)
      clear hK K
      refine wpAnyH_done (by kernel_rfl) ?_ _
      generalize Wcc.heap.size = GA at *
      clear HKW HKWc HKWcc HKWcca
      have HS0 := KpT.start HKf
      clear HKf
      go_wp2_with (first
        | (go_at_call 77; refine (countYes g b2 b3 20 k t wf hs ⟨hc, hb2⟩ (KpT.rowH HS0)).mono ?_; rintro e2 wg ⟨rfl, hRg, hOg⟩; have HS1 := KpT.read HS0 hRg (cuv_ne _ _) hOg))
      clear HS0 hRg hOg
      go_loopw [18] (fun vi wr => ∃ (i p' : Nat) (val : Value) (l1 : List TarV), vi = .int .i64 (i : Int) ∧ i ≤ k ∧ p' ≤ t.size ∧ Hid (l1.length = i) ∧ Hid (∀ y ∈ l1, y.w) ∧ Hid (R = restT t v e l1 (k - i) p') ∧ Hid (KpT g (cuv t p') [(GA, rtw v e val), (w.heap.size, rtv 0 0 none 0 0)] val l1 w wr)) (fun vi _ => k - (intOf vi).toNat)
      case atStart => exact ⟨0, b3, .slice none 0 0, [], rfl, Nat.zero_le _, hb3, rfl, fun y hy => (by cases hy), HF, HS1⟩
      case round =>
      clear HS1
      obtain ⟨i, p', val, l1, rfl, hi, hpp, HLn, HWl, HRr, HS⟩ := hrel
      by_cases hlt : i < k
      case neg =>
        obtain rfl : i = k := by omega
        have HRe : Hid (R = if targetsB v e l1 then some (v, e, l1, p') else none) := by show _ = _; rw [HRr.out, Nat.sub_self, restT_end]
        have hat0 := OwnTg.form HS.out.own
        obtain ⟨a, c, rfl, hat⟩ := hat0
        have hatW : TgsAt wr.drew a l1 := hat
        have hTg : ∀ w0, TgsAt w0 a l1 → Calls Try.prog 96 #[.agg #[.int .i64 v, .int .i64 e, .slice a l1.length c]] w0 fun r w' => r = .returned (.bool (targetsB v e l1)) ∧ Below w0.heap.size w0 w' := fun w0 h0 => implTargetsR v e a c _ l1 w0 rfl h0 (by have := HLn.out; unfold maxLen; omega) HWl.out
        clear hat
        obtain ⟨n, hnn⟩ : ∃ n, l1.length = n := ⟨_, rfl⟩
        have HNn : Hid (l1.length = n) := hnn
        rw [hnn] at hTg HS
        clear hnn
        cases hb : targetsB v e l1 with
        | false =>
          as_aux_lemma =>
          have HNo : Hid (R = none) := by show _ = _; rw [HRe.out, hb]; rfl
          rw [hb] at hTg
          clear HRe HRr
          go_wp2_with fail
          refine wp_region_held_drew (S := fun w' => w'.cell? ⟨GA, 0, none⟩ = some (.int .i64 v) ∧ w'.cell? ⟨GA, 1, none⟩ = some (.int .i64 e) ∧ w'.cell? ⟨GA, 2, none⟩ = some (.slice a n c)) (by kernel_rfl) (celT (KpT.drew HS)) (fun hHeld => ?_)
          refine wpAnyH_take (i := 0) (oi := ⟨_, _, _, _, _, _⟩) (v := .pointer (some ⟨g, 0, none⟩)) rfl (by kernel_rfl) (by kernel_rfl) (by kernel_rfl) (fun _ _ _ h => h) (Or.inl ⟨wanted_free rfl, fun w' hSw => ?_⟩) hHeld ?_
          · obtain ⟨s0, s1, s2⟩ := hSw
            go_simp
          try simp only [Act.put, List.setIfInBounds_toArray, List.set_cons_zero, List.set_cons_succ]
          refine wpAnyH_take (i := 1) (oi := ⟨_, _, _, _, _, _⟩) (v := .pointer (some ⟨g, 0, none⟩)) rfl (by kernel_rfl) (by kernel_rfl) (by kernel_rfl) (fun _ _ _ h => h) (Or.inl ⟨wanted_free rfl, fun w' hSw => ?_⟩) hHeld ?_
          · obtain ⟨s0, s1, s2⟩ := hSw
            go_simp
          try simp only [Act.put, List.setIfInBounds_toArray, List.set_cons_zero, List.set_cons_succ]
          refine wpAnyH_take (i := 2) (oi := ⟨_, _, _, _, _, _⟩) (v := .pointer (some ⟨g, 0, none⟩)) rfl (by kernel_rfl) (by kernel_rfl) (by kernel_rfl) (fun _ _ _ h => h) (Or.inl ⟨wanted_free rfl, fun w' hSw => ?_⟩) hHeld ?_
          · obtain ⟨s0, s1, s2⟩ := hSw
            go_simp
          try simp only [Act.put, List.setIfInBounds_toArray, List.set_cons_zero, List.set_cons_succ]
          refine wpAnyH_take (i := 3) (oi := ⟨_, _, _, _, _, _⟩) (v := .agg #[.int .i64 v, .int .i64 e, .slice a n c]) rfl (by kernel_rfl) (by kernel_rfl) (by kernel_rfl) (fun _ _ _ h => h) (Or.inl ⟨wanted_free rfl, fun w' hSw => ?_⟩) hHeld ?_
          · obtain ⟨s0, s1, s2⟩ := hSw
            go_simp
          try simp only [Act.put, List.setIfInBounds_toArray, List.set_cons_zero, List.set_cons_succ]
          have HSW := KpT.drew HS
          generalize wr.drew = W at *
          clear HS
          refine wpAnyH_ready (rs := [4]) (by kernel_rfl) (by simp) (AllReadyH.cons (o := ⟨_, _, _, _, _, _⟩) rfl (fun K hK => ?_) AllReadyH.nil)
          rewrite [if_pos (wanted_free rfl)]
          go_simp
          refine (hTg W hatW).mono ?_
          rintro r wh ⟨rfl, hBh⟩
          have HSh := KpT.call HSW hBh
          go_wp2_with fail
          refine hK.out _ _ (celT HSh) (fun hHeld => ?_)
          clear hK K
          try simp only [Act.put, List.setIfInBounds_toArray, List.set_cons_zero, List.set_cons_succ]
          refine wpAnyH_ready (rs := [5]) (by kernel_rfl) (by simp) (AllReadyH.cons (o := ⟨_, _, _, _, _, _⟩) rfl (fun K hK => ?_) AllReadyH.nil)
          rewrite [if_pos (wanted_free rfl)]
          go_simp
          refine (mustNo _ wh).mono ?_
          rintro r w' ⟨rfl, rfl⟩
          exact ⟨rfl, Or.inr ⟨HNo.out, rfl, HSh.out.km.only⟩⟩
        | true =>
          as_aux_lemma =>
          have HYes : Hid (R = some (v, e, l1, p')) := by show _ = _; rw [HRe.out, hb]; rfl
          rw [hb] at hTg
          clear HRe HRr
          go_wp2_with fail
          refine wp_region_held_drew (S := fun w' => w'.cell? ⟨GA, 0, none⟩ = some (.int .i64 v) ∧ w'.cell? ⟨GA, 1, none⟩ = some (.int .i64 e) ∧ w'.cell? ⟨GA, 2, none⟩ = some (.slice a n c)) (by kernel_rfl) (celT (KpT.drew HS)) (fun hHeld => ?_)
          refine wpAnyH_take (i := 0) (oi := ⟨_, _, _, _, _, _⟩) (v := .pointer (some ⟨g, 0, none⟩)) rfl (by kernel_rfl) (by kernel_rfl) (by kernel_rfl) (fun _ _ _ h => h) (Or.inl ⟨wanted_free rfl, fun w' hSw => ?_⟩) hHeld ?_
          · obtain ⟨s0, s1, s2⟩ := hSw
            go_simp
          try simp only [Act.put, List.setIfInBounds_toArray, List.set_cons_zero, List.set_cons_succ]
          refine wpAnyH_take (i := 1) (oi := ⟨_, _, _, _, _, _⟩) (v := .pointer (some ⟨g, 0, none⟩)) rfl (by kernel_rfl) (by kernel_rfl) (by kernel_rfl) (fun _ _ _ h => h) (Or.inl ⟨wanted_free rfl, fun w' hSw => ?_⟩) hHeld ?_
          · obtain ⟨s0, s1, s2⟩ := hSw
            go_simp
          try simp only [Act.put, List.setIfInBounds_toArray, List.set_cons_zero, List.set_cons_succ]
          refine wpAnyH_take (i := 2) (oi := ⟨_, _, _, _, _, _⟩) (v := .pointer (some ⟨g, 0, none⟩)) rfl (by kernel_rfl) (by kernel_rfl) (by kernel_rfl) (fun _ _ _ h => h) (Or.inl ⟨wanted_free rfl, fun w' hSw => ?_⟩) hHeld ?_
          · obtain ⟨s0, s1, s2⟩ := hSw
            go_simp
          try simp only [Act.put, List.setIfInBounds_toArray, List.set_cons_zero, List.set_cons_succ]
          refine wpAnyH_take (i := 3) (oi := ⟨_, _, _, _, _, _⟩) (v := .agg #[.int .i64 v, .int .i64 e, .slice a n c]) rfl (by kernel_rfl) (by kernel_rfl) (by kernel_rfl) (fun _ _ _ h => h) (Or.inl ⟨wanted_free rfl, fun w' hSw => ?_⟩) hHeld ?_
          · obtain ⟨s0, s1, s2⟩ := hSw
            go_simp
          try simp only [Act.put, List.setIfInBounds_toArray, List.set_cons_zero, List.set_cons_succ]
          have HSW := KpT.drew HS
          generalize wr.drew = W at *
          clear HS
          refine wpAnyH_ready (rs := [4]) (by kernel_rfl) (by simp) (AllReadyH.cons (o := ⟨_, _, _, _, _, _⟩) rfl (fun K hK => ?_) AllReadyH.nil)
          rewrite [if_pos (wanted_free rfl)]
          go_simp
          refine (hTg W hatW).mono ?_
          rintro r wh ⟨rfl, hBh⟩
          have HSh := KpT.call HSW hBh
          go_wp2_with fail
          refine hK.out _ _ (celT HSh) (fun hHeld => ?_)
          clear hK K
          try simp only [Act.put, List.setIfInBounds_toArray, List.set_cons_zero, List.set_cons_succ]
          refine wpAnyH_ready (rs := [5]) (by kernel_rfl) (by simp) (AllReadyH.cons (o := ⟨_, _, _, _, _, _⟩) rfl (fun K hK => ?_) AllReadyH.nil)
          rewrite [if_pos (wanted_free rfl)]
          go_simp
          refine (mustYes _ wh).mono ?_
          rintro r w' ⟨rfl, rfl⟩
          go_wp2_with fail
          refine hK.out _ _ (celT HSh) (fun hHeld => ?_)
          clear hK K
          try simp only [Act.put, List.setIfInBounds_toArray, List.set_cons_zero, List.set_cons_succ]
          refine wpAnyH_done (by kernel_rfl) ?_ _
          clear hHeld HSW
          have R3 : RowV wh GA (rtv v e a n c) := KpT.get HSh (List.mem_cons_self ..)
          have R2 : RowV wh w.heap.size (rtv 0 0 none 0 0) := KpT.get HSh (List.mem_cons_of_mem _ (List.mem_cons_self ..))
          go_wp2_with (first
            | (with_reducible refine wpList_loadV (w := wh) (by with_unfolding_all rfl) 44 (.tmp 3) (by with_unfolding_all rfl) GA (rtv v e a n c) (by with_unfolding_all rfl) R3 Try.undTs 3 Try.sizeTs (by with_unfolding_all rfl) ?_)
            | (with_reducible refine wpList_storeH (w := wh) (by with_unfolding_all rfl) 44 (.tmp 2) (.tmp 46) (by with_unfolding_all rfl) w.heap.size (rtv 0 0 none 0 0) (rtv v e a n c) (by with_unfolding_all rfl) (by with_unfolding_all rfl) R2 3 Try.sizeTs (by with_unfolding_all rfl) (by with_unfolding_all rfl) (rtv_one _ _ _ _ _) ?_; intro wz hAz hBz hFz hSz; have HE := KpT.done HSh (Only.set hBz hFz hSz)))
          exact bodyPost_ret (results_V (t := 44) rfl _ w.heap.size _ rfl hAz Try.undTs 3 Try.sizeTs rfl) rfl (Or.inl ⟨v, e, l1, p', .slice a n c, HYes.out, rfl, HE.1, HE.2.1, HE.2.2⟩)
      obtain ⟨m, hm⟩ : ∃ m, k - i = m + 1 := ⟨k - i - 1, by omega⟩
      have hm2 : k - (i + 1) = m := by omega
      have hl1000 : l1.length ≤ 1000 := by have := HLn.out; omega
      have li : (i : Int) < k := by omega
      cases hq1 : textO t p' with
      | none =>
        as_aux_lemma =>
        have hn1 := hq1
        have hl1 := hpp
        have HNo : Hid (R = none) := by show _ = _; rw [HRr.out, hm, restT_no1 hq1]
        clear hq1 HRr
        go_wp2_with fail
        refine wp_region_held_drew (S := fun _ => True) (by kernel_rfl) trivial (fun _ => ?_)
        refine wpAnyH_take (i := 0) (oi := ⟨_, _, _, _, _, _⟩) (v := .pointer (some ⟨g, 0, none⟩)) rfl (by kernel_rfl) (by kernel_rfl) (by kernel_rfl) (fun _ _ _ h => h) (Or.inl ⟨wanted_free rfl, fun w' hSw => ?_⟩) trivial ?_
        · go_simp
        try simp only [Act.put, List.setIfInBounds_toArray, List.set_cons_zero, List.set_cons_succ]
        refine wpAnyH_take (i := 1) (oi := ⟨_, _, _, _, _, _⟩) (v := .pointer (some ⟨g, 0, none⟩)) rfl (by kernel_rfl) (by kernel_rfl) (by kernel_rfl) (fun _ _ _ h => h) (Or.inl ⟨wanted_free rfl, fun w' hSw => ?_⟩) trivial ?_
        · go_simp
        try simp only [Act.put, List.setIfInBounds_toArray, List.set_cons_zero, List.set_cons_succ]
        refine wpAnyH_take (i := 2) (oi := ⟨_, _, _, _, _, _⟩) (v := .pointer (some ⟨g, 0, none⟩)) rfl (by kernel_rfl) (by kernel_rfl) (by kernel_rfl) (fun _ _ _ h => h) (Or.inl ⟨wanted_free rfl, fun w' hSw => ?_⟩) trivial ?_
        · go_simp
        try simp only [Act.put, List.setIfInBounds_toArray, List.set_cons_zero, List.set_cons_succ]
        refine wpAnyH_take (i := 4) (oi := ⟨_, _, _, _, _, _⟩) (v := .pointer (some ⟨g, 0, none⟩)) rfl (by kernel_rfl) (by kernel_rfl) (by kernel_rfl) (fun _ _ _ h => h) (Or.inl ⟨wanted_free rfl, fun w' hSw => ?_⟩) trivial ?_
        · go_simp
        try simp only [Act.put, List.setIfInBounds_toArray, List.set_cons_zero, List.set_cons_succ]
        refine wpAnyH_take (i := 5) (oi := ⟨_, _, _, _, _, _⟩) (v := .pointer (some ⟨g, 0, none⟩)) rfl (by kernel_rfl) (by kernel_rfl) (by kernel_rfl) (fun _ _ _ h => h) (Or.inl ⟨wanted_free rfl, fun w' hSw => ?_⟩) trivial ?_
        · go_simp
        try simp only [Act.put, List.setIfInBounds_toArray, List.set_cons_zero, List.set_cons_succ]
        refine wpAnyH_take (i := 6) (oi := ⟨_, _, _, _, _, _⟩) (v := .pointer (some ⟨g, 0, none⟩)) rfl (by kernel_rfl) (by kernel_rfl) (by kernel_rfl) (fun _ _ _ h => h) (Or.inl ⟨wanted_free rfl, fun w' hSw => ?_⟩) trivial ?_
        · go_simp
        try simp only [Act.put, List.setIfInBounds_toArray, List.set_cons_zero, List.set_cons_succ]
        refine wpAnyH_take (i := 8) (oi := ⟨_, _, _, _, _, _⟩) (v := .pointer (some ⟨g, 0, none⟩)) rfl (by kernel_rfl) (by kernel_rfl) (by kernel_rfl) (fun _ _ _ h => h) (Or.inl ⟨wanted_free rfl, fun w' hSw => ?_⟩) trivial ?_
        · go_simp
        try simp only [Act.put, List.setIfInBounds_toArray, List.set_cons_zero, List.set_cons_succ]
        refine wpAnyH_take (i := 9) (oi := ⟨_, _, _, _, _, _⟩) (v := .pointer (some ⟨g, 0, none⟩)) rfl (by kernel_rfl) (by kernel_rfl) (by kernel_rfl) (fun _ _ _ h => h) (Or.inl ⟨wanted_free rfl, fun w' hSw => ?_⟩) trivial ?_
        · go_simp
        try simp only [Act.put, List.setIfInBounds_toArray, List.set_cons_zero, List.set_cons_succ]
        refine wpAnyH_take (i := 10) (oi := ⟨_, _, _, _, _, _⟩) (v := .pointer (some ⟨g, 0, none⟩)) rfl (by kernel_rfl) (by kernel_rfl) (by kernel_rfl) (fun _ _ _ h => h) (Or.inl ⟨wanted_free rfl, fun w' hSw => ?_⟩) trivial ?_
        · go_simp
        try simp only [Act.put, List.setIfInBounds_toArray, List.set_cons_zero, List.set_cons_succ]
        have HSW := KpT.drew HS
        generalize wr.drew = W at *
        clear HS
        refine wpAnyH_ready (rs := [3, 13]) (by kernel_rfl) (by simp) (AllReadyH.cons (o := ⟨_, _, _, _, _, _⟩) rfl (fun K hK => ?_) (AllReadyH.cons (o := ⟨_, _, _, _, _, _⟩) rfl (fun K hK => ?_) AllReadyH.nil))
        · as_aux_lemma =>
          rewrite [if_pos (wanted_free rfl)]
          go_simp
          refine (textNo g p' t W hs hn1 hl1 (KpT.rowH HSW)).mono ?_
          rintro e2 Wc ⟨rfl, hOWc⟩
          exact ⟨rfl, Or.inr ⟨HNo.out, rfl, HSW.out.km.only.trans hOWc⟩⟩
        · as_aux_lemma =>
          rewrite [if_pos (wanted_free rfl)]
          with_reducible refine wp_allocV 122 (by with_unfolding_all rfl) (tgv ⟨#[]⟩ ⟨#[]⟩ 0) Try.infoTg ?_
          intro Wa hAWa hBWa
          have HSWa := KpT.new HSW hAWa (tgv_ne _ _ _) hBWa
          refine hK.out _ _ trivial (fun _ => ?_)
          clear hK K
          try simp only [Act.put, List.setIfInBounds_toArray, List.set_cons_zero, List.set_cons_succ]
          refine wpAnyH_ready (rs := [3]) (by kernel_rfl) (by simp) (AllReadyH.cons (o := ⟨_, _, _, _, _, _⟩) rfl (fun K hK => ?_) AllReadyH.nil)
          rewrite [if_pos (wanted_free rfl)]
          go_simp
          refine (textNo g p' t Wa hs hn1 hl1 (KpT.rowH HSWa)).mono ?_
          rintro e2 Wac ⟨rfl, hOWac⟩
          exact ⟨rfl, Or.inr ⟨HNo.out, rfl, HSWa.out.km.only.trans hOWac⟩⟩
      | some y1 =>
      obtain ⟨xn, c1⟩ := y1
      have hl2 : c1 ≤ t.size := (textO_some hq1).2.1
      have hn1 : textO t p' = some (xn, c1) ∧ p' ≤ t.size := ⟨hq1, hpp⟩
      cases hq2 : bytesO t c1 32 with
      | none =>
        as_aux_lemma =>
        have hn2 : t.size < c1 + 32 := bytesO_no hq2
        have HNo : Hid (R = none) := by show _ = _; rw [HRr.out, hm, restT_no2 hq1 hq2]
        clear hq1 hq2 HRr
        go_wp2_with fail
        refine wp_region_held_drew (S := fun _ => True) (by kernel_rfl) trivial (fun _ => ?_)
        refine wpAnyH_take (i := 0) (oi := ⟨_, _, _, _, _, _⟩) (v := .pointer (some ⟨g, 0, none⟩)) rfl (by kernel_rfl) (by kernel_rfl) (by kernel_rfl) (fun _ _ _ h => h) (Or.inl ⟨wanted_free rfl, fun w' hSw => ?_⟩) trivial ?_
        · go_simp
        try simp only [Act.put, List.setIfInBounds_toArray, List.set_cons_zero, List.set_cons_succ]
        refine wpAnyH_take (i := 1) (oi := ⟨_, _, _, _, _, _⟩) (v := .pointer (some ⟨g, 0, none⟩)) rfl (by kernel_rfl) (by kernel_rfl) (by kernel_rfl) (fun _ _ _ h => h) (Or.inl ⟨wanted_free rfl, fun w' hSw => ?_⟩) trivial ?_
        · go_simp
        try simp only [Act.put, List.setIfInBounds_toArray, List.set_cons_zero, List.set_cons_succ]
        refine wpAnyH_take (i := 2) (oi := ⟨_, _, _, _, _, _⟩) (v := .pointer (some ⟨g, 0, none⟩)) rfl (by kernel_rfl) (by kernel_rfl) (by kernel_rfl) (fun _ _ _ h => h) (Or.inl ⟨wanted_free rfl, fun w' hSw => ?_⟩) trivial ?_
        · go_simp
        try simp only [Act.put, List.setIfInBounds_toArray, List.set_cons_zero, List.set_cons_succ]
        refine wpAnyH_take (i := 4) (oi := ⟨_, _, _, _, _, _⟩) (v := .pointer (some ⟨g, 0, none⟩)) rfl (by kernel_rfl) (by kernel_rfl) (by kernel_rfl) (fun _ _ _ h => h) (Or.inl ⟨wanted_free rfl, fun w' hSw => ?_⟩) trivial ?_
        · go_simp
        try simp only [Act.put, List.setIfInBounds_toArray, List.set_cons_zero, List.set_cons_succ]
        refine wpAnyH_take (i := 5) (oi := ⟨_, _, _, _, _, _⟩) (v := .pointer (some ⟨g, 0, none⟩)) rfl (by kernel_rfl) (by kernel_rfl) (by kernel_rfl) (fun _ _ _ h => h) (Or.inl ⟨wanted_free rfl, fun w' hSw => ?_⟩) trivial ?_
        · go_simp
        try simp only [Act.put, List.setIfInBounds_toArray, List.set_cons_zero, List.set_cons_succ]
        refine wpAnyH_take (i := 6) (oi := ⟨_, _, _, _, _, _⟩) (v := .pointer (some ⟨g, 0, none⟩)) rfl (by kernel_rfl) (by kernel_rfl) (by kernel_rfl) (fun _ _ _ h => h) (Or.inl ⟨wanted_free rfl, fun w' hSw => ?_⟩) trivial ?_
        · go_simp
        try simp only [Act.put, List.setIfInBounds_toArray, List.set_cons_zero, List.set_cons_succ]
        refine wpAnyH_take (i := 8) (oi := ⟨_, _, _, _, _, _⟩) (v := .pointer (some ⟨g, 0, none⟩)) rfl (by kernel_rfl) (by kernel_rfl) (by kernel_rfl) (fun _ _ _ h => h) (Or.inl ⟨wanted_free rfl, fun w' hSw => ?_⟩) trivial ?_
        · go_simp
        try simp only [Act.put, List.setIfInBounds_toArray, List.set_cons_zero, List.set_cons_succ]
        refine wpAnyH_take (i := 9) (oi := ⟨_, _, _, _, _, _⟩) (v := .pointer (some ⟨g, 0, none⟩)) rfl (by kernel_rfl) (by kernel_rfl) (by kernel_rfl) (fun _ _ _ h => h) (Or.inl ⟨wanted_free rfl, fun w' hSw => ?_⟩) trivial ?_
        · go_simp
        try simp only [Act.put, List.setIfInBounds_toArray, List.set_cons_zero, List.set_cons_succ]
        refine wpAnyH_take (i := 10) (oi := ⟨_, _, _, _, _, _⟩) (v := .pointer (some ⟨g, 0, none⟩)) rfl (by kernel_rfl) (by kernel_rfl) (by kernel_rfl) (fun _ _ _ h => h) (Or.inl ⟨wanted_free rfl, fun w' hSw => ?_⟩) trivial ?_
        · go_simp
        try simp only [Act.put, List.setIfInBounds_toArray, List.set_cons_zero, List.set_cons_succ]
        have HSW := KpT.drew HS
        generalize wr.drew = W at *
        clear HS
        refine wpAnyH_ready (rs := [3, 13]) (by kernel_rfl) (by simp) (AllReadyH.cons (o := ⟨_, _, _, _, _, _⟩) rfl (fun K hK => ?_) (AllReadyH.cons (o := ⟨_, _, _, _, _, _⟩) rfl (fun K hK => ?_) AllReadyH.nil))
        · as_aux_lemma =>
          rewrite [if_pos (wanted_free rfl)]
          go_simp
          refine (textYes g p' c1 t xn W hs hn1 (KpT.rowH HSW)).mono ?_
          rintro e2 Wc ⟨rfl, hRWc, hOWc⟩
          have HSWc := KpT.read HSW hRWc (cuv_ne _ _) hOWc
          go_wp2_with fail
          refine hK.out _ _ trivial (fun _ => ?_)
          clear hK K
          try simp only [Act.put, List.setIfInBounds_toArray, List.set_cons_zero, List.set_cons_succ]
          refine wpAnyH_ready (rs := [7, 13]) (by kernel_rfl) (by simp) (AllReadyH.cons (o := ⟨_, _, _, _, _, _⟩) rfl (fun K hK => ?_) (AllReadyH.cons (o := ⟨_, _, _, _, _, _⟩) rfl (fun K hK => ?_) AllReadyH.nil))
          · as_aux_lemma =>
            rewrite [if_pos (wanted_free rfl)]
            go_simp
            refine (bytesNo g c1 32 t Wc hs (by omega) hl2 hn2 (KpT.rowH HSWc)).mono ?_
            rintro e2 Wcc ⟨rfl, hOWcc⟩
            exact ⟨rfl, Or.inr ⟨HNo.out, rfl, HSWc.out.km.only.trans hOWcc⟩⟩
          · as_aux_lemma =>
            rewrite [if_pos (wanted_free rfl)]
            with_reducible refine wp_allocV 122 (by with_unfolding_all rfl) (tgv ⟨#[]⟩ ⟨#[]⟩ 0) Try.infoTg ?_
            intro Wca hAWca hBWca
            have HSWca := KpT.new HSWc hAWca (tgv_ne _ _ _) hBWca
            refine hK.out _ _ trivial (fun _ => ?_)
            clear hK K
            try simp only [Act.put, List.setIfInBounds_toArray, List.set_cons_zero, List.set_cons_succ]
            refine wpAnyH_ready (rs := [7]) (by kernel_rfl) (by simp) (AllReadyH.cons (o := ⟨_, _, _, _, _, _⟩) rfl (fun K hK => ?_) AllReadyH.nil)
            rewrite [if_pos (wanted_free rfl)]
            go_simp
            refine (bytesNo g c1 32 t Wca hs (by omega) hl2 hn2 (KpT.rowH HSWca)).mono ?_
            rintro e2 Wcac ⟨rfl, hOWcac⟩
            exact ⟨rfl, Or.inr ⟨HNo.out, rfl, HSWca.out.km.only.trans hOWcac⟩⟩
        · as_aux_lemma =>
          rewrite [if_pos (wanted_free rfl)]
          with_reducible refine wp_allocV 122 (by with_unfolding_all rfl) (tgv ⟨#[]⟩ ⟨#[]⟩ 0) Try.infoTg ?_
          intro Wa hAWa hBWa
          have HSWa := KpT.new HSW hAWa (tgv_ne _ _ _) hBWa
          refine hK.out _ _ trivial (fun _ => ?_)
          clear hK K
          try simp only [Act.put, List.setIfInBounds_toArray, List.set_cons_zero, List.set_cons_succ]
          refine wpAnyH_ready (rs := [3]) (by kernel_rfl) (by simp) (AllReadyH.cons (o := ⟨_, _, _, _, _, _⟩) rfl (fun K hK => ?_) AllReadyH.nil)
          rewrite [if_pos (wanted_free rfl)]
          go_simp
          refine (textYes g p' c1 t xn Wa hs hn1 (KpT.rowH HSWa)).mono ?_
          rintro e2 Wac ⟨rfl, hRWac, hOWac⟩
          have HSWac := KpT.read HSWa hRWac (cuv_ne _ _) hOWac
          go_wp2_with fail
          refine hK.out _ _ trivial (fun _ => ?_)
          clear hK K
          try simp only [Act.put, List.setIfInBounds_toArray, List.set_cons_zero, List.set_cons_succ]
          refine wpAnyH_ready (rs := [7]) (by kernel_rfl) (by simp) (AllReadyH.cons (o := ⟨_, _, _, _, _, _⟩) rfl (fun K hK => ?_) AllReadyH.nil)
          rewrite [if_pos (wanted_free rfl)]
          go_simp
          refine (bytesNo g c1 32 t Wac hs (by omega) hl2 hn2 (KpT.rowH HSWac)).mono ?_
          rintro e2 Wacc ⟨rfl, hOWacc⟩
          exact ⟨rfl, Or.inr ⟨HNo.out, rfl, HSWac.out.km.only.trans hOWacc⟩⟩
      | some y2 =>
      obtain ⟨xi, c2⟩ := y2
      obtain ⟨hxi, hc2, hl3⟩ := bytesO_yes hq2
      have hBy : ∀ w0, RowV w0 g (cuv t c1) → Calls Try.prog 95 #[.pointer (some ⟨g, 0, none⟩), .int .i64 32] w0 fun e w' => e = .returned (.string xi) ∧ RowV w' g (cuv t c2) ∧ Only g w0 w' := fun w0 h0 => by rw [hxi]; exact bytesYes g c1 32 c2 t w0 hs hc2 hl3 h0
      cases hq3 : numO t c2 with
      | none =>
        as_aux_lemma =>
        have hn3 := hq3
        have HNo : Hid (R = none) := by show _ = _; rw [HRr.out, hm, restT_no3 hq1 hq2 hq3]
        clear hq1 hq2 hq3 HRr hxi
        go_wp2_with fail
        refine wp_region_held_drew (S := fun _ => True) (by kernel_rfl) trivial (fun _ => ?_)
        refine wpAnyH_take (i := 0) (oi := ⟨_, _, _, _, _, _⟩) (v := .pointer (some ⟨g, 0, none⟩)) rfl (by kernel_rfl) (by kernel_rfl) (by kernel_rfl) (fun _ _ _ h => h) (Or.inl ⟨wanted_free rfl, fun w' hSw => ?_⟩) trivial ?_
        · go_simp
        try simp only [Act.put, List.setIfInBounds_toArray, List.set_cons_zero, List.set_cons_succ]
        refine wpAnyH_take (i := 1) (oi := ⟨_, _, _, _, _, _⟩) (v := .pointer (some ⟨g, 0, none⟩)) rfl (by kernel_rfl) (by kernel_rfl) (by kernel_rfl) (fun _ _ _ h => h) (Or.inl ⟨wanted_free rfl, fun w' hSw => ?_⟩) trivial ?_
        · go_simp
        try simp only [Act.put, List.setIfInBounds_toArray, List.set_cons_zero, List.set_cons_succ]
        refine wpAnyH_take (i := 2) (oi := ⟨_, _, _, _, _, _⟩) (v := .pointer (some ⟨g, 0, none⟩)) rfl (by kernel_rfl) (by kernel_rfl) (by kernel_rfl) (fun _ _ _ h => h) (Or.inl ⟨wanted_free rfl, fun w' hSw => ?_⟩) trivial ?_
        · go_simp
        try simp only [Act.put, List.setIfInBounds_toArray, List.set_cons_zero, List.set_cons_succ]
        refine wpAnyH_take (i := 4) (oi := ⟨_, _, _, _, _, _⟩) (v := .pointer (some ⟨g, 0, none⟩)) rfl (by kernel_rfl) (by kernel_rfl) (by kernel_rfl) (fun _ _ _ h => h) (Or.inl ⟨wanted_free rfl, fun w' hSw => ?_⟩) trivial ?_
        · go_simp
        try simp only [Act.put, List.setIfInBounds_toArray, List.set_cons_zero, List.set_cons_succ]
        refine wpAnyH_take (i := 5) (oi := ⟨_, _, _, _, _, _⟩) (v := .pointer (some ⟨g, 0, none⟩)) rfl (by kernel_rfl) (by kernel_rfl) (by kernel_rfl) (fun _ _ _ h => h) (Or.inl ⟨wanted_free rfl, fun w' hSw => ?_⟩) trivial ?_
        · go_simp
        try simp only [Act.put, List.setIfInBounds_toArray, List.set_cons_zero, List.set_cons_succ]
        refine wpAnyH_take (i := 6) (oi := ⟨_, _, _, _, _, _⟩) (v := .pointer (some ⟨g, 0, none⟩)) rfl (by kernel_rfl) (by kernel_rfl) (by kernel_rfl) (fun _ _ _ h => h) (Or.inl ⟨wanted_free rfl, fun w' hSw => ?_⟩) trivial ?_
        · go_simp
        try simp only [Act.put, List.setIfInBounds_toArray, List.set_cons_zero, List.set_cons_succ]
        refine wpAnyH_take (i := 8) (oi := ⟨_, _, _, _, _, _⟩) (v := .pointer (some ⟨g, 0, none⟩)) rfl (by kernel_rfl) (by kernel_rfl) (by kernel_rfl) (fun _ _ _ h => h) (Or.inl ⟨wanted_free rfl, fun w' hSw => ?_⟩) trivial ?_
        · go_simp
        try simp only [Act.put, List.setIfInBounds_toArray, List.set_cons_zero, List.set_cons_succ]
        refine wpAnyH_take (i := 9) (oi := ⟨_, _, _, _, _, _⟩) (v := .pointer (some ⟨g, 0, none⟩)) rfl (by kernel_rfl) (by kernel_rfl) (by kernel_rfl) (fun _ _ _ h => h) (Or.inl ⟨wanted_free rfl, fun w' hSw => ?_⟩) trivial ?_
        · go_simp
        try simp only [Act.put, List.setIfInBounds_toArray, List.set_cons_zero, List.set_cons_succ]
        refine wpAnyH_take (i := 10) (oi := ⟨_, _, _, _, _, _⟩) (v := .pointer (some ⟨g, 0, none⟩)) rfl (by kernel_rfl) (by kernel_rfl) (by kernel_rfl) (fun _ _ _ h => h) (Or.inl ⟨wanted_free rfl, fun w' hSw => ?_⟩) trivial ?_
        · go_simp
        try simp only [Act.put, List.setIfInBounds_toArray, List.set_cons_zero, List.set_cons_succ]
        have HSW := KpT.drew HS
        generalize wr.drew = W at *
        clear HS
        refine wpAnyH_ready (rs := [3, 13]) (by kernel_rfl) (by simp) (AllReadyH.cons (o := ⟨_, _, _, _, _, _⟩) rfl (fun K hK => ?_) (AllReadyH.cons (o := ⟨_, _, _, _, _, _⟩) rfl (fun K hK => ?_) AllReadyH.nil))
        · as_aux_lemma =>
          rewrite [if_pos (wanted_free rfl)]
          go_simp
          refine (textYes g p' c1 t xn W hs hn1 (KpT.rowH HSW)).mono ?_
          rintro e2 Wc ⟨rfl, hRWc, hOWc⟩
          have HSWc := KpT.read HSW hRWc (cuv_ne _ _) hOWc
          go_wp2_with fail
          refine hK.out _ _ trivial (fun _ => ?_)
          clear hK K
          try simp only [Act.put, List.setIfInBounds_toArray, List.set_cons_zero, List.set_cons_succ]
          refine wpAnyH_ready (rs := [7, 13]) (by kernel_rfl) (by simp) (AllReadyH.cons (o := ⟨_, _, _, _, _, _⟩) rfl (fun K hK => ?_) (AllReadyH.cons (o := ⟨_, _, _, _, _, _⟩) rfl (fun K hK => ?_) AllReadyH.nil))
          · as_aux_lemma =>
            rewrite [if_pos (wanted_free rfl)]
            go_simp
            refine (hBy Wc (KpT.rowH HSWc)).mono ?_
            rintro e2 Wcc ⟨rfl, hRWcc, hOWcc⟩
            have HSWcc := KpT.read HSWc hRWcc (cuv_ne _ _) hOWcc
            go_wp2_with fail
            refine hK.out _ _ trivial (fun _ => ?_)
            clear hK K
            try simp only [Act.put, List.setIfInBounds_toArray, List.set_cons_zero, List.set_cons_succ]
            refine wpAnyH_ready (rs := [11, 13]) (by kernel_rfl) (by simp) (AllReadyH.cons (o := ⟨_, _, _, _, _, _⟩) rfl (fun K hK => ?_) (AllReadyH.cons (o := ⟨_, _, _, _, _, _⟩) rfl (fun K hK => ?_) AllReadyH.nil))
            · as_aux_lemma =>
              rewrite [if_pos (wanted_free rfl)]
              go_simp
              refine (numNo g c2 t Wcc hs hn3 hl3 (KpT.rowH HSWcc)).mono ?_
              rintro e2 Wccc ⟨rfl, hOWccc⟩
              exact ⟨rfl, Or.inr ⟨HNo.out, rfl, HSWcc.out.km.only.trans hOWccc⟩⟩
            · as_aux_lemma =>
              rewrite [if_pos (wanted_free rfl)]
              with_reducible refine wp_allocV 122 (by with_unfolding_all rfl) (tgv ⟨#[]⟩ ⟨#[]⟩ 0) Try.infoTg ?_
              intro Wcca hAWcca hBWcca
              have HSWcca := KpT.new HSWcc hAWcca (tgv_ne _ _ _) hBWcca
              refine hK.out _ _ trivial (fun _ => ?_)
              clear hK K
              try simp only [Act.put, List.setIfInBounds_toArray, List.set_cons_zero, List.set_cons_succ]
              refine wpAnyH_ready (rs := [11]) (by kernel_rfl) (by simp) (AllReadyH.cons (o := ⟨_, _, _, _, _, _⟩) rfl (fun K hK => ?_) AllReadyH.nil)
              rewrite [if_pos (wanted_free rfl)]
              go_simp
              refine (numNo g c2 t Wcca hs hn3 hl3 (KpT.rowH HSWcca)).mono ?_
              rintro e2 Wccac ⟨rfl, hOWccac⟩
              exact ⟨rfl, Or.inr ⟨HNo.out, rfl, HSWcca.out.km.only.trans hOWccac⟩⟩
          · as_aux_lemma =>
            rewrite [if_pos (wanted_free rfl)]
            with_reducible refine wp_allocV 122 (by with_unfolding_all rfl) (tgv ⟨#[]⟩ ⟨#[]⟩ 0) Try.infoTg ?_
            intro Wca hAWca hBWca
            have HSWca := KpT.new HSWc hAWca (tgv_ne _ _ _) hBWca
            refine hK.out _ _ trivial (fun _ => ?_)
            clear hK K
            try simp only [Act.put, List.setIfInBounds_toArray, List.set_cons_zero, List.set_cons_succ]
            refine wpAnyH_ready (rs := [7]) (by kernel_rfl) (by simp) (AllReadyH.cons (o := ⟨_, _, _, _, _, _⟩) rfl (fun K hK => ?_) AllReadyH.nil)
            rewrite [if_pos (wanted_free rfl)]
            go_simp
            refine (hBy Wca (KpT.rowH HSWca)).mono ?_
            rintro e2 Wcac ⟨rfl, hRWcac, hOWcac⟩
            have HSWcac := KpT.read HSWca hRWcac (cuv_ne _ _) hOWcac
            go_wp2_with fail
            refine hK.out _ _ trivial (fun _ => ?_)
            clear hK K
            try simp only [Act.put, List.setIfInBounds_toArray, List.set_cons_zero, List.set_cons_succ]
            refine wpAnyH_ready (rs := [11]) (by kernel_rfl) (by simp) (AllReadyH.cons (o := ⟨_, _, _, _, _, _⟩) rfl (fun K hK => ?_) AllReadyH.nil)
            rewrite [if_pos (wanted_free rfl)]
            go_simp
            refine (numNo g c2 t Wcac hs hn3 hl3 (KpT.rowH HSWcac)).mono ?_
            rintro e2 Wcacc ⟨rfl, hOWcacc⟩
            exact ⟨rfl, Or.inr ⟨HNo.out, rfl, HSWcac.out.km.only.trans hOWcacc⟩⟩
        · as_aux_lemma =>
          rewrite [if_pos (wanted_free rfl)]
          with_reducible refine wp_allocV 122 (by with_unfolding_all rfl) (tgv ⟨#[]⟩ ⟨#[]⟩ 0) Try.infoTg ?_
          intro Wa hAWa hBWa
          have HSWa := KpT.new HSW hAWa (tgv_ne _ _ _) hBWa
          refine hK.out _ _ trivial (fun _ => ?_)
          clear hK K
          try simp only [Act.put, List.setIfInBounds_toArray, List.set_cons_zero, List.set_cons_succ]
          refine wpAnyH_ready (rs := [3]) (by kernel_rfl) (by simp) (AllReadyH.cons (o := ⟨_, _, _, _, _, _⟩) rfl (fun K hK => ?_) AllReadyH.nil)
          rewrite [if_pos (wanted_free rfl)]
          go_simp
          refine (textYes g p' c1 t xn Wa hs hn1 (KpT.rowH HSWa)).mono ?_
          rintro e2 Wac ⟨rfl, hRWac, hOWac⟩
          have HSWac := KpT.read HSWa hRWac (cuv_ne _ _) hOWac
          go_wp2_with fail
          refine hK.out _ _ trivial (fun _ => ?_)
          clear hK K
          try simp only [Act.put, List.setIfInBounds_toArray, List.set_cons_zero, List.set_cons_succ]
          refine wpAnyH_ready (rs := [7]) (by kernel_rfl) (by simp) (AllReadyH.cons (o := ⟨_, _, _, _, _, _⟩) rfl (fun K hK => ?_) AllReadyH.nil)
          rewrite [if_pos (wanted_free rfl)]
          go_simp
          refine (hBy Wac (KpT.rowH HSWac)).mono ?_
          rintro e2 Wacc ⟨rfl, hRWacc, hOWacc⟩
          have HSWacc := KpT.read HSWac hRWacc (cuv_ne _ _) hOWacc
          go_wp2_with fail
          refine hK.out _ _ trivial (fun _ => ?_)
          clear hK K
          try simp only [Act.put, List.setIfInBounds_toArray, List.set_cons_zero, List.set_cons_succ]
          refine wpAnyH_ready (rs := [11]) (by kernel_rfl) (by simp) (AllReadyH.cons (o := ⟨_, _, _, _, _, _⟩) rfl (fun K hK => ?_) AllReadyH.nil)
          rewrite [if_pos (wanted_free rfl)]
          go_simp
          refine (numNo g c2 t Wacc hs hn3 hl3 (KpT.rowH HSWacc)).mono ?_
          rintro e2 Waccc ⟨rfl, hOWaccc⟩
          exact ⟨rfl, Or.inr ⟨HNo.out, rfl, HSWacc.out.km.only.trans hOWaccc⟩⟩
      | some y3 =>
      as_aux_lemma =>
      obtain ⟨xs, c3⟩ := y3
      have hn3 : numO t c2 = some (xs, c3) ∧ c2 ≤ t.size := ⟨hq3, hl3⟩
      have HRn : Hid (R = restT t v e (l1 ++ [⟨xn, xi, xs⟩]) (k - (i + 1)) c3) := by show _ = _; rw [HRr.out, hm, restT_step hq1 hq2 hq3, hm2]
      have HWn : Hid (∀ y ∈ l1 ++ [⟨xn, xi, xs⟩], TarV.w y) := fun y hy => by
        rcases List.mem_append.1 hy with hy | hy
        · exact HWl.out y hy
        · obtain rfl := List.mem_singleton.1 hy
          exact tarW hs hq1 hq2 hq3
      have hl4 : c3 ≤ t.size := (numO_some hq3).2.1
      clear hq1 hq2 hq3 HRr HWl hxi
      go_wp2_with fail
      refine wp_region_held_drew (S := fun _ => True) (by kernel_rfl) trivial (fun _ => ?_)
      refine wpAnyH_take (i := 0) (oi := ⟨_, _, _, _, _, _⟩) (v := .pointer (some ⟨g, 0, none⟩)) rfl (by kernel_rfl) (by kernel_rfl) (by kernel_rfl) (fun _ _ _ h => h) (Or.inl ⟨wanted_free rfl, fun w' hSw => ?_⟩) trivial ?_
      · go_simp
      try simp only [Act.put, List.setIfInBounds_toArray, List.set_cons_zero, List.set_cons_succ]
      refine wpAnyH_take (i := 1) (oi := ⟨_, _, _, _, _, _⟩) (v := .pointer (some ⟨g, 0, none⟩)) rfl (by kernel_rfl) (by kernel_rfl) (by kernel_rfl) (fun _ _ _ h => h) (Or.inl ⟨wanted_free rfl, fun w' hSw => ?_⟩) trivial ?_
      · go_simp
      try simp only [Act.put, List.setIfInBounds_toArray, List.set_cons_zero, List.set_cons_succ]
      refine wpAnyH_take (i := 2) (oi := ⟨_, _, _, _, _, _⟩) (v := .pointer (some ⟨g, 0, none⟩)) rfl (by kernel_rfl) (by kernel_rfl) (by kernel_rfl) (fun _ _ _ h => h) (Or.inl ⟨wanted_free rfl, fun w' hSw => ?_⟩) trivial ?_
      · go_simp
      try simp only [Act.put, List.setIfInBounds_toArray, List.set_cons_zero, List.set_cons_succ]
      refine wpAnyH_take (i := 4) (oi := ⟨_, _, _, _, _, _⟩) (v := .pointer (some ⟨g, 0, none⟩)) rfl (by kernel_rfl) (by kernel_rfl) (by kernel_rfl) (fun _ _ _ h => h) (Or.inl ⟨wanted_free rfl, fun w' hSw => ?_⟩) trivial ?_
      · go_simp
      try simp only [Act.put, List.setIfInBounds_toArray, List.set_cons_zero, List.set_cons_succ]
      refine wpAnyH_take (i := 5) (oi := ⟨_, _, _, _, _, _⟩) (v := .pointer (some ⟨g, 0, none⟩)) rfl (by kernel_rfl) (by kernel_rfl) (by kernel_rfl) (fun _ _ _ h => h) (Or.inl ⟨wanted_free rfl, fun w' hSw => ?_⟩) trivial ?_
      · go_simp
      try simp only [Act.put, List.setIfInBounds_toArray, List.set_cons_zero, List.set_cons_succ]
      refine wpAnyH_take (i := 6) (oi := ⟨_, _, _, _, _, _⟩) (v := .pointer (some ⟨g, 0, none⟩)) rfl (by kernel_rfl) (by kernel_rfl) (by kernel_rfl) (fun _ _ _ h => h) (Or.inl ⟨wanted_free rfl, fun w' hSw => ?_⟩) trivial ?_
      · go_simp
      try simp only [Act.put, List.setIfInBounds_toArray, List.set_cons_zero, List.set_cons_succ]
      refine wpAnyH_take (i := 8) (oi := ⟨_, _, _, _, _, _⟩) (v := .pointer (some ⟨g, 0, none⟩)) rfl (by kernel_rfl) (by kernel_rfl) (by kernel_rfl) (fun _ _ _ h => h) (Or.inl ⟨wanted_free rfl, fun w' hSw => ?_⟩) trivial ?_
      · go_simp
      try simp only [Act.put, List.setIfInBounds_toArray, List.set_cons_zero, List.set_cons_succ]
      refine wpAnyH_take (i := 9) (oi := ⟨_, _, _, _, _, _⟩) (v := .pointer (some ⟨g, 0, none⟩)) rfl (by kernel_rfl) (by kernel_rfl) (by kernel_rfl) (fun _ _ _ h => h) (Or.inl ⟨wanted_free rfl, fun w' hSw => ?_⟩) trivial ?_
      · go_simp
      try simp only [Act.put, List.setIfInBounds_toArray, List.set_cons_zero, List.set_cons_succ]
      refine wpAnyH_take (i := 10) (oi := ⟨_, _, _, _, _, _⟩) (v := .pointer (some ⟨g, 0, none⟩)) rfl (by kernel_rfl) (by kernel_rfl) (by kernel_rfl) (fun _ _ _ h => h) (Or.inl ⟨wanted_free rfl, fun w' hSw => ?_⟩) trivial ?_
      · go_simp
      try simp only [Act.put, List.setIfInBounds_toArray, List.set_cons_zero, List.set_cons_succ]
      have HSW := KpT.drew HS
      generalize wr.drew = W at *
      clear HS
      refine wpAnyH_ready (rs := [3, 13]) (by kernel_rfl) (by simp) (AllReadyH.cons (o := ⟨_, _, _, _, _, _⟩) rfl (fun K hK => ?_) (AllReadyH.cons (o := ⟨_, _, _, _, _, _⟩) rfl (fun K hK => ?_) AllReadyH.nil))
      · as_aux_lemma =>
        rewrite [if_pos (wanted_free rfl)]
        go_simp
        refine (textYes g p' c1 t xn W hs hn1 (KpT.rowH HSW)).mono ?_
        rintro e2 Wc ⟨rfl, hRWc, hOWc⟩
        have HSWc := KpT.read HSW hRWc (cuv_ne _ _) hOWc
        go_wp2_with fail
        refine hK.out _ _ trivial (fun _ => ?_)
        clear hK K
        try simp only [Act.put, List.setIfInBounds_toArray, List.set_cons_zero, List.set_cons_succ]
        refine wpAnyH_ready (rs := [7, 13]) (by kernel_rfl) (by simp) (AllReadyH.cons (o := ⟨_, _, _, _, _, _⟩) rfl (fun K hK => ?_) (AllReadyH.cons (o := ⟨_, _, _, _, _, _⟩) rfl (fun K hK => ?_) AllReadyH.nil))
        · as_aux_lemma =>
          rewrite [if_pos (wanted_free rfl)]
          go_simp
          refine (hBy Wc (KpT.rowH HSWc)).mono ?_
          rintro e2 Wcc ⟨rfl, hRWcc, hOWcc⟩
          have HSWcc := KpT.read HSWc hRWcc (cuv_ne _ _) hOWcc
          go_wp2_with fail
          refine hK.out _ _ trivial (fun _ => ?_)
          clear hK K
          try simp only [Act.put, List.setIfInBounds_toArray, List.set_cons_zero, List.set_cons_succ]
          refine wpAnyH_ready (rs := [11, 13]) (by kernel_rfl) (by simp) (AllReadyH.cons (o := ⟨_, _, _, _, _, _⟩) rfl (fun K hK => ?_) (AllReadyH.cons (o := ⟨_, _, _, _, _, _⟩) rfl (fun K hK => ?_) AllReadyH.nil))
          · as_aux_lemma =>
            rewrite [if_pos (wanted_free rfl)]
            go_simp
            refine (numYes g c2 c3 t xs Wcc hs hn3 (KpT.rowH HSWcc)).mono ?_
            rintro e2 Wccc ⟨rfl, hRWccc, hOWccc⟩
            have HSWccc := KpT.read HSWcc hRWccc (cuv_ne _ _) hOWccc
            go_wp2_with fail
            refine hK.out _ _ trivial (fun _ => ?_)
            clear hK K
            try simp only [Act.put, List.setIfInBounds_toArray, List.set_cons_zero, List.set_cons_succ]
            refine wpAnyH_take (i := 12) (oi := ⟨_, _, _, _, _, _⟩) (v := .agg #[.string xn, .string xi, .int .i64 xs]) rfl (by kernel_rfl) (by kernel_rfl) (by kernel_rfl) (fun _ _ _ h => h) (Or.inl ⟨wanted_free rfl, fun w' hSw => ?_⟩) trivial ?_
            · go_simp
            try simp only [Act.put, List.setIfInBounds_toArray, List.set_cons_zero, List.set_cons_succ]
            refine wpAnyH_ready (rs := [13]) (by kernel_rfl) (by simp) (AllReadyH.cons (o := ⟨_, _, _, _, _, _⟩) rfl (fun K hK => ?_) AllReadyH.nil)
            rewrite [if_pos (wanted_free rfl)]
            with_reducible refine wp_allocV 122 (by with_unfolding_all rfl) (tgv ⟨#[]⟩ ⟨#[]⟩ 0) Try.infoTg ?_
            intro Wccca hAWccca hBWccca
            have HSWccca := KpT.new HSWccc hAWccca (tgv_ne _ _ _) hBWccca
            refine hK.out _ _ trivial (fun _ => ?_)
            clear hK K
            try simp only [Act.put, List.setIfInBounds_toArray, List.set_cons_zero, List.set_cons_succ]
            refine wpAnyH_ready (rs := [14]) (by kernel_rfl) (by simp) (AllReadyH.cons (o := ⟨_, _, _, _, _, _⟩) rfl (fun K hK => ?_) AllReadyH.nil)
            rewrite [if_pos (wanted_free rfl)]
            with_reducible refine wp_storeV 122 (.tmp 4) (.tmp 32) (by with_unfolding_all rfl) Wccc.heap.size (tgv ⟨#[]⟩ ⟨#[]⟩ 0) (tgv xn xi xs) (by with_unfolding_all rfl) (by with_unfolding_all rfl) (KpT.get HSWccca (List.mem_cons_self ..)) 3 Try.sizeTg (by with_unfolding_all rfl) (by with_unfolding_all rfl) (tgv_one _ _ _) ?_
            intro wf hAf hOf
            have HSf := KpT.put HSWccca (apartT HSWccc) hAf (tgv_ne _ _ _) hOf
            refine hK.out _ _ trivial (fun _ => ?_)
            clear hK K
            refine wpAnyH_done (by kernel_rfl) ?_ _
            have zGV := newGV HSWccc
            generalize Wccc.heap.size = GV at *
            clear HSW HSWc HSWcc HSWccc HSWccca
            obtain ⟨p0, p1, p2⟩ := (KpT.get HSf (List.mem_cons_self ..)).tg
            have q2 := (KpT.get HSf (List.mem_cons_of_mem _ (List.mem_cons_self ..))).cell (k := 2) rfl
            go_wp2_with (first
              | (with_reducible refine wpList_buildTg (w := wf) (by with_unfolding_all rfl) (.tmp 35) (by with_unfolding_all rfl) xn xi xs (by with_unfolding_all rfl) ?_; intro wi hAi hBi; have HSi := KpT.call HSf hBi; clear p0 p1 p2 q2)
              | (with_reducible refine wpList_appendTg3 (W := wi) (by with_unfolding_all rfl) (.tmp 34) (.tmp 36) (by with_unfolding_all rfl) w.heap.size val l1 ⟨xn, xi, xs⟩ (by with_unfolding_all rfl) HSi.out.own wf.heap.size (by with_unfolding_all rfl) hAi hl1000 (KpT.szH HSi) (i + 1) (lenT1 HLn _) ?_; intro a2 cc2 wa hOa hGa hba; have HSa := KpT.app HSi hOa hGa hba)
              | (with_reducible refine wpList_cellH (w := wa) (by with_unfolding_all rfl) 42 (.tmp 38) (.tmp 37) (by with_unfolding_all rfl) GA 2 (rtw v e val) (rtw v e (.slice a2 (i + 1) cc2)) (.slice a2 (i + 1) cc2) (by with_unfolding_all rfl) (by with_unfolding_all rfl) rfl Try.size1Tgs (KpT.get (KpT.tail HSa) (List.mem_cons_self ..)) (by simp [rtw]) (by with_unfolding_all rfl) ?_; intro wz hAz hBz hFz hSz; have HSz := KpT.put (KpT.tail HSa) (apartG zGA) hAz (rtw_ne _ _ _) (Only.set hBz hFz hSz)))
            go_roundw
            case rel => exact ⟨i + 1, c3, _, l1 ++ [⟨xn, xi, xs⟩], by go_num, by omega, hl4, by show _ = _; rw [List.length_append, HLn.out]; rfl, HWn, HRn, HSz⟩
            case measure => simp [intOf]; omega
          · as_aux_lemma =>
            rewrite [if_pos (wanted_free rfl)]
            with_reducible refine wp_allocV 122 (by with_unfolding_all rfl) (tgv ⟨#[]⟩ ⟨#[]⟩ 0) Try.infoTg ?_
            intro Wcca hAWcca hBWcca
            have HSWcca := KpT.new HSWcc hAWcca (tgv_ne _ _ _) hBWcca
            refine hK.out _ _ trivial (fun _ => ?_)
            clear hK K
            try simp only [Act.put, List.setIfInBounds_toArray, List.set_cons_zero, List.set_cons_succ]
            refine wpAnyH_ready (rs := [11]) (by kernel_rfl) (by simp) (AllReadyH.cons (o := ⟨_, _, _, _, _, _⟩) rfl (fun K hK => ?_) AllReadyH.nil)
            rewrite [if_pos (wanted_free rfl)]
            go_simp
            refine (numYes g c2 c3 t xs Wcca hs hn3 (KpT.rowH HSWcca)).mono ?_
            rintro e2 Wccac ⟨rfl, hRWccac, hOWccac⟩
            have HSWccac := KpT.read HSWcca hRWccac (cuv_ne _ _) hOWccac
            go_wp2_with fail
            refine hK.out _ _ trivial (fun _ => ?_)
            clear hK K
            try simp only [Act.put, List.setIfInBounds_toArray, List.set_cons_zero, List.set_cons_succ]
            refine wpAnyH_take (i := 12) (oi := ⟨_, _, _, _, _, _⟩) (v := .agg #[.string xn, .string xi, .int .i64 xs]) rfl (by kernel_rfl) (by kernel_rfl) (by kernel_rfl) (fun _ _ _ h => h) (Or.inl ⟨wanted_free rfl, fun w' hSw => ?_⟩) trivial ?_
            · go_simp
            try simp only [Act.put, List.setIfInBounds_toArray, List.set_cons_zero, List.set_cons_succ]
            refine wpAnyH_ready (rs := [14]) (by kernel_rfl) (by simp) (AllReadyH.cons (o := ⟨_, _, _, _, _, _⟩) rfl (fun K hK => ?_) AllReadyH.nil)
            rewrite [if_pos (wanted_free rfl)]
            with_reducible refine wp_storeV 122 (.tmp 4) (.tmp 32) (by with_unfolding_all rfl) Wcc.heap.size (tgv ⟨#[]⟩ ⟨#[]⟩ 0) (tgv xn xi xs) (by with_unfolding_all rfl) (by with_unfolding_all rfl) (KpT.get HSWccac (List.mem_cons_self ..)) 3 Try.sizeTg (by with_unfolding_all rfl) (by with_unfolding_all rfl) (tgv_one _ _ _) ?_
            intro wf hAf hOf
            have HSf := KpT.put HSWccac (apartT HSWcc) hAf (tgv_ne _ _ _) hOf
            refine hK.out _ _ trivial (fun _ => ?_)
            clear hK K
            refine wpAnyH_done (by kernel_rfl) ?_ _
            have zGV := newGV HSWcc
            generalize Wcc.heap.size = GV at *
            clear HSW HSWc HSWcc HSWcca HSWccac
            obtain ⟨p0, p1, p2⟩ := (KpT.get HSf (List.mem_cons_self ..)).tg
            have q2 := (KpT.get HSf (List.mem_cons_of_mem _ (List.mem_cons_self ..))).cell (k := 2) rfl
            go_wp2_with (first
              | (with_reducible refine wpList_buildTg (w := wf) (by with_unfolding_all rfl) (.tmp 35) (by with_unfolding_all rfl) xn xi xs (by with_unfolding_all rfl) ?_; intro wi hAi hBi; have HSi := KpT.call HSf hBi; clear p0 p1 p2 q2)
              | (with_reducible refine wpList_appendTg3 (W := wi) (by with_unfolding_all rfl) (.tmp 34) (.tmp 36) (by with_unfolding_all rfl) w.heap.size val l1 ⟨xn, xi, xs⟩ (by with_unfolding_all rfl) HSi.out.own wf.heap.size (by with_unfolding_all rfl) hAi hl1000 (KpT.szH HSi) (i + 1) (lenT1 HLn _) ?_; intro a2 cc2 wa hOa hGa hba; have HSa := KpT.app HSi hOa hGa hba)
              | (with_reducible refine wpList_cellH (w := wa) (by with_unfolding_all rfl) 42 (.tmp 38) (.tmp 37) (by with_unfolding_all rfl) GA 2 (rtw v e val) (rtw v e (.slice a2 (i + 1) cc2)) (.slice a2 (i + 1) cc2) (by with_unfolding_all rfl) (by with_unfolding_all rfl) rfl Try.size1Tgs (KpT.get (KpT.tail HSa) (List.mem_cons_self ..)) (by simp [rtw]) (by with_unfolding_all rfl) ?_; intro wz hAz hBz hFz hSz; have HSz := KpT.put (KpT.tail HSa) (apartG zGA) hAz (rtw_ne _ _ _) (Only.set hBz hFz hSz)))
            go_roundw
            case rel => exact ⟨i + 1, c3, _, l1 ++ [⟨xn, xi, xs⟩], by go_num, by omega, hl4, by show _ = _; rw [List.length_append, HLn.out]; rfl, HWn, HRn, HSz⟩
            case measure => simp [intOf]; omega
        · as_aux_lemma =>
          rewrite [if_pos (wanted_free rfl)]
          with_reducible refine wp_allocV 122 (by with_unfolding_all rfl) (tgv ⟨#[]⟩ ⟨#[]⟩ 0) Try.infoTg ?_
          intro Wca hAWca hBWca
          have HSWca := KpT.new HSWc hAWca (tgv_ne _ _ _) hBWca
          refine hK.out _ _ trivial (fun _ => ?_)
          clear hK K
          try simp only [Act.put, List.setIfInBounds_toArray, List.set_cons_zero, List.set_cons_succ]
          refine wpAnyH_ready (rs := [7]) (by kernel_rfl) (by simp) (AllReadyH.cons (o := ⟨_, _, _, _, _, _⟩) rfl (fun K hK => ?_) AllReadyH.nil)
          rewrite [if_pos (wanted_free rfl)]
          go_simp
          refine (hBy Wca (KpT.rowH HSWca)).mono ?_
          rintro e2 Wcac ⟨rfl, hRWcac, hOWcac⟩
          have HSWcac := KpT.read HSWca hRWcac (cuv_ne _ _) hOWcac
          go_wp2_with fail
          refine hK.out _ _ trivial (fun _ => ?_)
          clear hK K
          try simp only [Act.put, List.setIfInBounds_toArray, List.set_cons_zero, List.set_cons_succ]
          refine wpAnyH_ready (rs := [11]) (by kernel_rfl) (by simp) (AllReadyH.cons (o := ⟨_, _, _, _, _, _⟩) rfl (fun K hK => ?_) AllReadyH.nil)
          rewrite [if_pos (wanted_free rfl)]
          go_simp
          refine (numYes g c2 c3 t xs Wcac hs hn3 (KpT.rowH HSWcac)).mono ?_
          rintro e2 Wcacc ⟨rfl, hRWcacc, hOWcacc⟩
          have HSWcacc := KpT.read HSWcac hRWcacc (cuv_ne _ _) hOWcacc
          go_wp2_with fail
          refine hK.out _ _ trivial (fun _ => ?_)
          clear hK K
          try simp only [Act.put, List.setIfInBounds_toArray, List.set_cons_zero, List.set_cons_succ]
          refine wpAnyH_take (i := 12) (oi := ⟨_, _, _, _, _, _⟩) (v := .agg #[.string xn, .string xi, .int .i64 xs]) rfl (by kernel_rfl) (by kernel_rfl) (by kernel_rfl) (fun _ _ _ h => h) (Or.inl ⟨wanted_free rfl, fun w' hSw => ?_⟩) trivial ?_
          · go_simp
          try simp only [Act.put, List.setIfInBounds_toArray, List.set_cons_zero, List.set_cons_succ]
          refine wpAnyH_ready (rs := [14]) (by kernel_rfl) (by simp) (AllReadyH.cons (o := ⟨_, _, _, _, _, _⟩) rfl (fun K hK => ?_) AllReadyH.nil)
          rewrite [if_pos (wanted_free rfl)]
          with_reducible refine wp_storeV 122 (.tmp 4) (.tmp 32) (by with_unfolding_all rfl) Wc.heap.size (tgv ⟨#[]⟩ ⟨#[]⟩ 0) (tgv xn xi xs) (by with_unfolding_all rfl) (by with_unfolding_all rfl) (KpT.get HSWcacc (List.mem_cons_self ..)) 3 Try.sizeTg (by with_unfolding_all rfl) (by with_unfolding_all rfl) (tgv_one _ _ _) ?_
          intro wf hAf hOf
          have HSf := KpT.put HSWcacc (apartT HSWc) hAf (tgv_ne _ _ _) hOf
          refine hK.out _ _ trivial (fun _ => ?_)
          clear hK K
          refine wpAnyH_done (by kernel_rfl) ?_ _
          have zGV := newGV HSWc
          generalize Wc.heap.size = GV at *
          clear HSW HSWc HSWca HSWcac HSWcacc
          obtain ⟨p0, p1, p2⟩ := (KpT.get HSf (List.mem_cons_self ..)).tg
          have q2 := (KpT.get HSf (List.mem_cons_of_mem _ (List.mem_cons_self ..))).cell (k := 2) rfl
          go_wp2_with (first
            | (with_reducible refine wpList_buildTg (w := wf) (by with_unfolding_all rfl) (.tmp 35) (by with_unfolding_all rfl) xn xi xs (by with_unfolding_all rfl) ?_; intro wi hAi hBi; have HSi := KpT.call HSf hBi; clear p0 p1 p2 q2)
            | (with_reducible refine wpList_appendTg3 (W := wi) (by with_unfolding_all rfl) (.tmp 34) (.tmp 36) (by with_unfolding_all rfl) w.heap.size val l1 ⟨xn, xi, xs⟩ (by with_unfolding_all rfl) HSi.out.own wf.heap.size (by with_unfolding_all rfl) hAi hl1000 (KpT.szH HSi) (i + 1) (lenT1 HLn _) ?_; intro a2 cc2 wa hOa hGa hba; have HSa := KpT.app HSi hOa hGa hba)
            | (with_reducible refine wpList_cellH (w := wa) (by with_unfolding_all rfl) 42 (.tmp 38) (.tmp 37) (by with_unfolding_all rfl) GA 2 (rtw v e val) (rtw v e (.slice a2 (i + 1) cc2)) (.slice a2 (i + 1) cc2) (by with_unfolding_all rfl) (by with_unfolding_all rfl) rfl Try.size1Tgs (KpT.get (KpT.tail HSa) (List.mem_cons_self ..)) (by simp [rtw]) (by with_unfolding_all rfl) ?_; intro wz hAz hBz hFz hSz; have HSz := KpT.put (KpT.tail HSa) (apartG zGA) hAz (rtw_ne _ _ _) (Only.set hBz hFz hSz)))
          go_roundw
          case rel => exact ⟨i + 1, c3, _, l1 ++ [⟨xn, xi, xs⟩], by go_num, by omega, hl4, by show _ = _; rw [List.length_append, HLn.out]; rfl, HWn, HRn, HSz⟩
          case measure => simp [intOf]; omega
      · as_aux_lemma =>
        rewrite [if_pos (wanted_free rfl)]
        with_reducible refine wp_allocV 122 (by with_unfolding_all rfl) (tgv ⟨#[]⟩ ⟨#[]⟩ 0) Try.infoTg ?_
        intro Wa hAWa hBWa
        have HSWa := KpT.new HSW hAWa (tgv_ne _ _ _) hBWa
        refine hK.out _ _ trivial (fun _ => ?_)
        clear hK K
        try simp only [Act.put, List.setIfInBounds_toArray, List.set_cons_zero, List.set_cons_succ]
        refine wpAnyH_ready (rs := [3]) (by kernel_rfl) (by simp) (AllReadyH.cons (o := ⟨_, _, _, _, _, _⟩) rfl (fun K hK => ?_) AllReadyH.nil)
        rewrite [if_pos (wanted_free rfl)]
        go_simp
        refine (textYes g p' c1 t xn Wa hs hn1 (KpT.rowH HSWa)).mono ?_
        rintro e2 Wac ⟨rfl, hRWac, hOWac⟩
        have HSWac := KpT.read HSWa hRWac (cuv_ne _ _) hOWac
        go_wp2_with fail
        refine hK.out _ _ trivial (fun _ => ?_)
        clear hK K
        try simp only [Act.put, List.setIfInBounds_toArray, List.set_cons_zero, List.set_cons_succ]
        refine wpAnyH_ready (rs := [7]) (by kernel_rfl) (by simp) (AllReadyH.cons (o := ⟨_, _, _, _, _, _⟩) rfl (fun K hK => ?_) AllReadyH.nil)
        rewrite [if_pos (wanted_free rfl)]
        go_simp
        refine (hBy Wac (KpT.rowH HSWac)).mono ?_
        rintro e2 Wacc ⟨rfl, hRWacc, hOWacc⟩
        have HSWacc := KpT.read HSWac hRWacc (cuv_ne _ _) hOWacc
        go_wp2_with fail
        refine hK.out _ _ trivial (fun _ => ?_)
        clear hK K
        try simp only [Act.put, List.setIfInBounds_toArray, List.set_cons_zero, List.set_cons_succ]
        refine wpAnyH_ready (rs := [11]) (by kernel_rfl) (by simp) (AllReadyH.cons (o := ⟨_, _, _, _, _, _⟩) rfl (fun K hK => ?_) AllReadyH.nil)
        rewrite [if_pos (wanted_free rfl)]
        go_simp
        refine (numYes g c2 c3 t xs Wacc hs hn3 (KpT.rowH HSWacc)).mono ?_
        rintro e2 Waccc ⟨rfl, hRWaccc, hOWaccc⟩
        have HSWaccc := KpT.read HSWacc hRWaccc (cuv_ne _ _) hOWaccc
        go_wp2_with fail
        refine hK.out _ _ trivial (fun _ => ?_)
        clear hK K
        try simp only [Act.put, List.setIfInBounds_toArray, List.set_cons_zero, List.set_cons_succ]
        refine wpAnyH_take (i := 12) (oi := ⟨_, _, _, _, _, _⟩) (v := .agg #[.string xn, .string xi, .int .i64 xs]) rfl (by kernel_rfl) (by kernel_rfl) (by kernel_rfl) (fun _ _ _ h => h) (Or.inl ⟨wanted_free rfl, fun w' hSw => ?_⟩) trivial ?_
        · go_simp
        try simp only [Act.put, List.setIfInBounds_toArray, List.set_cons_zero, List.set_cons_succ]
        refine wpAnyH_ready (rs := [14]) (by kernel_rfl) (by simp) (AllReadyH.cons (o := ⟨_, _, _, _, _, _⟩) rfl (fun K hK => ?_) AllReadyH.nil)
        rewrite [if_pos (wanted_free rfl)]
        with_reducible refine wp_storeV 122 (.tmp 4) (.tmp 32) (by with_unfolding_all rfl) W.heap.size (tgv ⟨#[]⟩ ⟨#[]⟩ 0) (tgv xn xi xs) (by with_unfolding_all rfl) (by with_unfolding_all rfl) (KpT.get HSWaccc (List.mem_cons_self ..)) 3 Try.sizeTg (by with_unfolding_all rfl) (by with_unfolding_all rfl) (tgv_one _ _ _) ?_
        intro wf hAf hOf
        have HSf := KpT.put HSWaccc (apartT HSW) hAf (tgv_ne _ _ _) hOf
        refine hK.out _ _ trivial (fun _ => ?_)
        clear hK K
        refine wpAnyH_done (by kernel_rfl) ?_ _
        have zGV := newGV HSW
        generalize W.heap.size = GV at *
        clear HSW HSWa HSWac HSWacc HSWaccc
        obtain ⟨p0, p1, p2⟩ := (KpT.get HSf (List.mem_cons_self ..)).tg
        have q2 := (KpT.get HSf (List.mem_cons_of_mem _ (List.mem_cons_self ..))).cell (k := 2) rfl
        go_wp2_with (first
          | (with_reducible refine wpList_buildTg (w := wf) (by with_unfolding_all rfl) (.tmp 35) (by with_unfolding_all rfl) xn xi xs (by with_unfolding_all rfl) ?_; intro wi hAi hBi; have HSi := KpT.call HSf hBi; clear p0 p1 p2 q2)
          | (with_reducible refine wpList_appendTg3 (W := wi) (by with_unfolding_all rfl) (.tmp 34) (.tmp 36) (by with_unfolding_all rfl) w.heap.size val l1 ⟨xn, xi, xs⟩ (by with_unfolding_all rfl) HSi.out.own wf.heap.size (by with_unfolding_all rfl) hAi hl1000 (KpT.szH HSi) (i + 1) (lenT1 HLn _) ?_; intro a2 cc2 wa hOa hGa hba; have HSa := KpT.app HSi hOa hGa hba)
          | (with_reducible refine wpList_cellH (w := wa) (by with_unfolding_all rfl) 42 (.tmp 38) (.tmp 37) (by with_unfolding_all rfl) GA 2 (rtw v e val) (rtw v e (.slice a2 (i + 1) cc2)) (.slice a2 (i + 1) cc2) (by with_unfolding_all rfl) (by with_unfolding_all rfl) rfl Try.size1Tgs (KpT.get (KpT.tail HSa) (List.mem_cons_self ..)) (by simp [rtw]) (by with_unfolding_all rfl) ?_; intro wz hAz hBz hFz hSz; have HSz := KpT.put (KpT.tail HSa) (apartG zGA) hAz (rtw_ne _ _ _) (Only.set hBz hFz hSz)))
        go_roundw
        case rel => exact ⟨i + 1, c3, _, l1 ++ [⟨xn, xi, xs⟩], by go_num, by omega, hl4, by show _ = _; rw [List.length_append, HLn.out]; rfl, HWn, HRn, HSz⟩
        case measure => simp [intOf]; omega
    · as_aux_lemma =>
      rewrite [if_pos (wanted_free rfl)]
      with_reducible refine wp_allocV 44 (by with_unfolding_all rfl) (rtv 0 0 none 0 0) Try.infoTsz ?_
      intro Wca hAWca hBWca
      have HKWca := KpM.new HKWc hAWca rtv_ne0 hBWca
      refine hK.out _ _ trivial (fun _ => ?_)
      clear hK K
      try simp only [Act.put, List.setIfInBounds_toArray, List.set_cons_zero, List.set_cons_succ]
      refine wpAnyH_ready (rs := [7]) (by kernel_rfl) (by simp) (AllReadyH.cons (o := ⟨_, _, _, _, _, _⟩) rfl (fun K hK => ?_) AllReadyH.nil)
      rewrite [if_pos (wanted_free rfl)]
      go_simp
      refine (numYes g b1 b2 t e Wca hs hn2 (KpM.rowH HKWca)).mono ?_
      rintro e Wcac ⟨rfl, hRWcac, hOWcac⟩
      have HKWcac := KpM.read HKWca hRWcac (cuv_ne _ _) hOWcac
      go_wp2_with fail
      refine hK.out _ _ trivial (fun _ => ?_)
      clear hK K
      try simp only [Act.put, List.setIfInBounds_toArray, List.set_cons_zero, List.set_cons_succ]
      refine wpAnyH_take (i := 8) (oi := ⟨_, _, _, _, _, _⟩) (v := .agg #[.int .i64 v, .int .i64 e, .slice none 0 0]) rfl (by kernel_rfl) (by kernel_rfl) (by kernel_rfl) (fun _ _ _ h => h) (Or.inl ⟨wanted_free rfl, fun w' hSw => ?_⟩) trivial ?_
      · go_simp
      try simp only [Act.put, List.setIfInBounds_toArray, List.set_cons_zero, List.set_cons_succ]
      refine wpAnyH_ready (rs := [10]) (by kernel_rfl) (by simp) (AllReadyH.cons (o := ⟨_, _, _, _, _, _⟩) rfl (fun K hK => ?_) AllReadyH.nil)
      rewrite [if_pos (wanted_free rfl)]
      with_reducible refine wp_storeV 44 (.tmp 3) (.tmp 13) (by with_unfolding_all rfl) Wc.heap.size (rtv 0 0 none 0 0) (rtv v e none 0 0) (by with_unfolding_all rfl) (by with_unfolding_all rfl) (KpM.get HKWcac (List.mem_cons_self ..)) 3 Try.sizeTs (by with_unfolding_all rfl) (by with_unfolding_all rfl) (rtv_one _ _ _ _ _) ?_
      intro wf hAf hOf
      have HKf := KpM.put HKWcac (one_apart (KpM.apartN HKWc)) hAf rtv_neA hOf
      have zGA := KpM.apartN HKWc
      refine hK.out _ _ trivial (fun _ => ?_)
      clear hK K
      refine wpAnyH_done (by kernel_rfl) ?_ _
      generalize Wc.heap.size = GA at *
      clear HKW HKWc HKWca HKWcac
      have HS0 := KpT.start HKf
      clear HKf
      go_wp2_with (first
        | (go_at_call 77; refine (countYes g b2 b3 20 k t wf hs ⟨hc, hb2⟩ (KpT.rowH HS0)).mono ?_; rintro e2 wg ⟨rfl, hRg, hOg⟩; have HS1 := KpT.read HS0 hRg (cuv_ne _ _) hOg))
      clear HS0 hRg hOg
      go_loopw [18] (fun vi wr => ∃ (i p' : Nat) (val : Value) (l1 : List TarV), vi = .int .i64 (i : Int) ∧ i ≤ k ∧ p' ≤ t.size ∧ Hid (l1.length = i) ∧ Hid (∀ y ∈ l1, y.w) ∧ Hid (R = restT t v e l1 (k - i) p') ∧ Hid (KpT g (cuv t p') [(GA, rtw v e val), (w.heap.size, rtv 0 0 none 0 0)] val l1 w wr)) (fun vi _ => k - (intOf vi).toNat)
      case atStart => exact ⟨0, b3, .slice none 0 0, [], rfl, Nat.zero_le _, hb3, rfl, fun y hy => (by cases hy), HF, HS1⟩
      case round =>
      clear HS1
      obtain ⟨i, p', val, l1, rfl, hi, hpp, HLn, HWl, HRr, HS⟩ := hrel
      by_cases hlt : i < k
      case neg =>
        obtain rfl : i = k := by omega
        have HRe : Hid (R = if targetsB v e l1 then some (v, e, l1, p') else none) := by show _ = _; rw [HRr.out, Nat.sub_self, restT_end]
        have hat0 := OwnTg.form HS.out.own
        obtain ⟨a, c, rfl, hat⟩ := hat0
        have hatW : TgsAt wr.drew a l1 := hat
        have hTg : ∀ w0, TgsAt w0 a l1 → Calls Try.prog 96 #[.agg #[.int .i64 v, .int .i64 e, .slice a l1.length c]] w0 fun r w' => r = .returned (.bool (targetsB v e l1)) ∧ Below w0.heap.size w0 w' := fun w0 h0 => implTargetsR v e a c _ l1 w0 rfl h0 (by have := HLn.out; unfold maxLen; omega) HWl.out
        clear hat
        obtain ⟨n, hnn⟩ : ∃ n, l1.length = n := ⟨_, rfl⟩
        have HNn : Hid (l1.length = n) := hnn
        rw [hnn] at hTg HS
        clear hnn
        cases hb : targetsB v e l1 with
        | false =>
          as_aux_lemma =>
          have HNo : Hid (R = none) := by show _ = _; rw [HRe.out, hb]; rfl
          rw [hb] at hTg
          clear HRe HRr
          go_wp2_with fail
          refine wp_region_held_drew (S := fun w' => w'.cell? ⟨GA, 0, none⟩ = some (.int .i64 v) ∧ w'.cell? ⟨GA, 1, none⟩ = some (.int .i64 e) ∧ w'.cell? ⟨GA, 2, none⟩ = some (.slice a n c)) (by kernel_rfl) (celT (KpT.drew HS)) (fun hHeld => ?_)
          refine wpAnyH_take (i := 0) (oi := ⟨_, _, _, _, _, _⟩) (v := .pointer (some ⟨g, 0, none⟩)) rfl (by kernel_rfl) (by kernel_rfl) (by kernel_rfl) (fun _ _ _ h => h) (Or.inl ⟨wanted_free rfl, fun w' hSw => ?_⟩) hHeld ?_
          · obtain ⟨s0, s1, s2⟩ := hSw
            go_simp
          try simp only [Act.put, List.setIfInBounds_toArray, List.set_cons_zero, List.set_cons_succ]
          refine wpAnyH_take (i := 1) (oi := ⟨_, _, _, _, _, _⟩) (v := .pointer (some ⟨g, 0, none⟩)) rfl (by kernel_rfl) (by kernel_rfl) (by kernel_rfl) (fun _ _ _ h => h) (Or.inl ⟨wanted_free rfl, fun w' hSw => ?_⟩) hHeld ?_
          · obtain ⟨s0, s1, s2⟩ := hSw
            go_simp
          try simp only [Act.put, List.setIfInBounds_toArray, List.set_cons_zero, List.set_cons_succ]
          refine wpAnyH_take (i := 2) (oi := ⟨_, _, _, _, _, _⟩) (v := .pointer (some ⟨g, 0, none⟩)) rfl (by kernel_rfl) (by kernel_rfl) (by kernel_rfl) (fun _ _ _ h => h) (Or.inl ⟨wanted_free rfl, fun w' hSw => ?_⟩) hHeld ?_
          · obtain ⟨s0, s1, s2⟩ := hSw
            go_simp
          try simp only [Act.put, List.setIfInBounds_toArray, List.set_cons_zero, List.set_cons_succ]
          refine wpAnyH_take (i := 3) (oi := ⟨_, _, _, _, _, _⟩) (v := .agg #[.int .i64 v, .int .i64 e, .slice a n c]) rfl (by kernel_rfl) (by kernel_rfl) (by kernel_rfl) (fun _ _ _ h => h) (Or.inl ⟨wanted_free rfl, fun w' hSw => ?_⟩) hHeld ?_
          · obtain ⟨s0, s1, s2⟩ := hSw
            go_simp
          try simp only [Act.put, List.setIfInBounds_toArray, List.set_cons_zero, List.set_cons_succ]
          have HSW := KpT.drew HS
          generalize wr.drew = W at *
          clear HS
          refine wpAnyH_ready (rs := [4]) (by kernel_rfl) (by simp) (AllReadyH.cons (o := ⟨_, _, _, _, _, _⟩) rfl (fun K hK => ?_) AllReadyH.nil)
          rewrite [if_pos (wanted_free rfl)]
          go_simp
          refine (hTg W hatW).mono ?_
          rintro r wh ⟨rfl, hBh⟩
          have HSh := KpT.call HSW hBh
          go_wp2_with fail
          refine hK.out _ _ (celT HSh) (fun hHeld => ?_)
          clear hK K
          try simp only [Act.put, List.setIfInBounds_toArray, List.set_cons_zero, List.set_cons_succ]
          refine wpAnyH_ready (rs := [5]) (by kernel_rfl) (by simp) (AllReadyH.cons (o := ⟨_, _, _, _, _, _⟩) rfl (fun K hK => ?_) AllReadyH.nil)
          rewrite [if_pos (wanted_free rfl)]
          go_simp
          refine (mustNo _ wh).mono ?_
          rintro r w' ⟨rfl, rfl⟩
          exact ⟨rfl, Or.inr ⟨HNo.out, rfl, HSh.out.km.only⟩⟩
        | true =>
          as_aux_lemma =>
          have HYes : Hid (R = some (v, e, l1, p')) := by show _ = _; rw [HRe.out, hb]; rfl
          rw [hb] at hTg
          clear HRe HRr
          go_wp2_with fail
          refine wp_region_held_drew (S := fun w' => w'.cell? ⟨GA, 0, none⟩ = some (.int .i64 v) ∧ w'.cell? ⟨GA, 1, none⟩ = some (.int .i64 e) ∧ w'.cell? ⟨GA, 2, none⟩ = some (.slice a n c)) (by kernel_rfl) (celT (KpT.drew HS)) (fun hHeld => ?_)
          refine wpAnyH_take (i := 0) (oi := ⟨_, _, _, _, _, _⟩) (v := .pointer (some ⟨g, 0, none⟩)) rfl (by kernel_rfl) (by kernel_rfl) (by kernel_rfl) (fun _ _ _ h => h) (Or.inl ⟨wanted_free rfl, fun w' hSw => ?_⟩) hHeld ?_
          · obtain ⟨s0, s1, s2⟩ := hSw
            go_simp
          try simp only [Act.put, List.setIfInBounds_toArray, List.set_cons_zero, List.set_cons_succ]
          refine wpAnyH_take (i := 1) (oi := ⟨_, _, _, _, _, _⟩) (v := .pointer (some ⟨g, 0, none⟩)) rfl (by kernel_rfl) (by kernel_rfl) (by kernel_rfl) (fun _ _ _ h => h) (Or.inl ⟨wanted_free rfl, fun w' hSw => ?_⟩) hHeld ?_
          · obtain ⟨s0, s1, s2⟩ := hSw
            go_simp
          try simp only [Act.put, List.setIfInBounds_toArray, List.set_cons_zero, List.set_cons_succ]
          refine wpAnyH_take (i := 2) (oi := ⟨_, _, _, _, _, _⟩) (v := .pointer (some ⟨g, 0, none⟩)) rfl (by kernel_rfl) (by kernel_rfl) (by kernel_rfl) (fun _ _ _ h => h) (Or.inl ⟨wanted_free rfl, fun w' hSw => ?_⟩) hHeld ?_
          · obtain ⟨s0, s1, s2⟩ := hSw
            go_simp
          try simp only [Act.put, List.setIfInBounds_toArray, List.set_cons_zero, List.set_cons_succ]
          refine wpAnyH_take (i := 3) (oi := ⟨_, _, _, _, _, _⟩) (v := .agg #[.int .i64 v, .int .i64 e, .slice a n c]) rfl (by kernel_rfl) (by kernel_rfl) (by kernel_rfl) (fun _ _ _ h => h) (Or.inl ⟨wanted_free rfl, fun w' hSw => ?_⟩) hHeld ?_
          · obtain ⟨s0, s1, s2⟩ := hSw
            go_simp
          try simp only [Act.put, List.setIfInBounds_toArray, List.set_cons_zero, List.set_cons_succ]
          have HSW := KpT.drew HS
          generalize wr.drew = W at *
          clear HS
          refine wpAnyH_ready (rs := [4]) (by kernel_rfl) (by simp) (AllReadyH.cons (o := ⟨_, _, _, _, _, _⟩) rfl (fun K hK => ?_) AllReadyH.nil)
          rewrite [if_pos (wanted_free rfl)]
          go_simp
          refine (hTg W hatW).mono ?_
          rintro r wh ⟨rfl, hBh⟩
          have HSh := KpT.call HSW hBh
          go_wp2_with fail
          refine hK.out _ _ (celT HSh) (fun hHeld => ?_)
          clear hK K
          try simp only [Act.put, List.setIfInBounds_toArray, List.set_cons_zero, List.set_cons_succ]
          refine wpAnyH_ready (rs := [5]) (by kernel_rfl) (by simp) (AllReadyH.cons (o := ⟨_, _, _, _, _, _⟩) rfl (fun K hK => ?_) AllReadyH.nil)
          rewrite [if_pos (wanted_free rfl)]
          go_simp
          refine (mustYes _ wh).mono ?_
          rintro r w' ⟨rfl, rfl⟩
          go_wp2_with fail
          refine hK.out _ _ (celT HSh) (fun hHeld => ?_)
          clear hK K
          try simp only [Act.put, List.setIfInBounds_toArray, List.set_cons_zero, List.set_cons_succ]
          refine wpAnyH_done (by kernel_rfl) ?_ _
          clear hHeld HSW
          have R3 : RowV wh GA (rtv v e a n c) := KpT.get HSh (List.mem_cons_self ..)
          have R2 : RowV wh w.heap.size (rtv 0 0 none 0 0) := KpT.get HSh (List.mem_cons_of_mem _ (List.mem_cons_self ..))
          go_wp2_with (first
            | (with_reducible refine wpList_loadV (w := wh) (by with_unfolding_all rfl) 44 (.tmp 3) (by with_unfolding_all rfl) GA (rtv v e a n c) (by with_unfolding_all rfl) R3 Try.undTs 3 Try.sizeTs (by with_unfolding_all rfl) ?_)
            | (with_reducible refine wpList_storeH (w := wh) (by with_unfolding_all rfl) 44 (.tmp 2) (.tmp 46) (by with_unfolding_all rfl) w.heap.size (rtv 0 0 none 0 0) (rtv v e a n c) (by with_unfolding_all rfl) (by with_unfolding_all rfl) R2 3 Try.sizeTs (by with_unfolding_all rfl) (by with_unfolding_all rfl) (rtv_one _ _ _ _ _) ?_; intro wz hAz hBz hFz hSz; have HE := KpT.done HSh (Only.set hBz hFz hSz)))
          exact bodyPost_ret (results_V (t := 44) rfl _ w.heap.size _ rfl hAz Try.undTs 3 Try.sizeTs rfl) rfl (Or.inl ⟨v, e, l1, p', .slice a n c, HYes.out, rfl, HE.1, HE.2.1, HE.2.2⟩)
      obtain ⟨m, hm⟩ : ∃ m, k - i = m + 1 := ⟨k - i - 1, by omega⟩
      have hm2 : k - (i + 1) = m := by omega
      have hl1000 : l1.length ≤ 1000 := by have := HLn.out; omega
      have li : (i : Int) < k := by omega
      cases hq1 : textO t p' with
      | none =>
        as_aux_lemma =>
        have hn1 := hq1
        have hl1 := hpp
        have HNo : Hid (R = none) := by show _ = _; rw [HRr.out, hm, restT_no1 hq1]
        clear hq1 HRr
        go_wp2_with fail
        refine wp_region_held_drew (S := fun _ => True) (by kernel_rfl) trivial (fun _ => ?_)
        refine wpAnyH_take (i := 0) (oi := ⟨_, _, _, _, _, _⟩) (v := .pointer (some ⟨g, 0, none⟩)) rfl (by kernel_rfl) (by kernel_rfl) (by kernel_rfl) (fun _ _ _ h => h) (Or.inl ⟨wanted_free rfl, fun w' hSw => ?_⟩) trivial ?_
        · go_simp
        try simp only [Act.put, List.setIfInBounds_toArray, List.set_cons_zero, List.set_cons_succ]
        refine wpAnyH_take (i := 1) (oi := ⟨_, _, _, _, _, _⟩) (v := .pointer (some ⟨g, 0, none⟩)) rfl (by kernel_rfl) (by kernel_rfl) (by kernel_rfl) (fun _ _ _ h => h) (Or.inl ⟨wanted_free rfl, fun w' hSw => ?_⟩) trivial ?_
        · go_simp
        try simp only [Act.put, List.setIfInBounds_toArray, List.set_cons_zero, List.set_cons_succ]
        refine wpAnyH_take (i := 2) (oi := ⟨_, _, _, _, _, _⟩) (v := .pointer (some ⟨g, 0, none⟩)) rfl (by kernel_rfl) (by kernel_rfl) (by kernel_rfl) (fun _ _ _ h => h) (Or.inl ⟨wanted_free rfl, fun w' hSw => ?_⟩) trivial ?_
        · go_simp
        try simp only [Act.put, List.setIfInBounds_toArray, List.set_cons_zero, List.set_cons_succ]
        refine wpAnyH_take (i := 4) (oi := ⟨_, _, _, _, _, _⟩) (v := .pointer (some ⟨g, 0, none⟩)) rfl (by kernel_rfl) (by kernel_rfl) (by kernel_rfl) (fun _ _ _ h => h) (Or.inl ⟨wanted_free rfl, fun w' hSw => ?_⟩) trivial ?_
        · go_simp
        try simp only [Act.put, List.setIfInBounds_toArray, List.set_cons_zero, List.set_cons_succ]
        refine wpAnyH_take (i := 5) (oi := ⟨_, _, _, _, _, _⟩) (v := .pointer (some ⟨g, 0, none⟩)) rfl (by kernel_rfl) (by kernel_rfl) (by kernel_rfl) (fun _ _ _ h => h) (Or.inl ⟨wanted_free rfl, fun w' hSw => ?_⟩) trivial ?_
        · go_simp
        try simp only [Act.put, List.setIfInBounds_toArray, List.set_cons_zero, List.set_cons_succ]
        refine wpAnyH_take (i := 6) (oi := ⟨_, _, _, _, _, _⟩) (v := .pointer (some ⟨g, 0, none⟩)) rfl (by kernel_rfl) (by kernel_rfl) (by kernel_rfl) (fun _ _ _ h => h) (Or.inl ⟨wanted_free rfl, fun w' hSw => ?_⟩) trivial ?_
        · go_simp
        try simp only [Act.put, List.setIfInBounds_toArray, List.set_cons_zero, List.set_cons_succ]
        refine wpAnyH_take (i := 8) (oi := ⟨_, _, _, _, _, _⟩) (v := .pointer (some ⟨g, 0, none⟩)) rfl (by kernel_rfl) (by kernel_rfl) (by kernel_rfl) (fun _ _ _ h => h) (Or.inl ⟨wanted_free rfl, fun w' hSw => ?_⟩) trivial ?_
        · go_simp
        try simp only [Act.put, List.setIfInBounds_toArray, List.set_cons_zero, List.set_cons_succ]
        refine wpAnyH_take (i := 9) (oi := ⟨_, _, _, _, _, _⟩) (v := .pointer (some ⟨g, 0, none⟩)) rfl (by kernel_rfl) (by kernel_rfl) (by kernel_rfl) (fun _ _ _ h => h) (Or.inl ⟨wanted_free rfl, fun w' hSw => ?_⟩) trivial ?_
        · go_simp
        try simp only [Act.put, List.setIfInBounds_toArray, List.set_cons_zero, List.set_cons_succ]
        refine wpAnyH_take (i := 10) (oi := ⟨_, _, _, _, _, _⟩) (v := .pointer (some ⟨g, 0, none⟩)) rfl (by kernel_rfl) (by kernel_rfl) (by kernel_rfl) (fun _ _ _ h => h) (Or.inl ⟨wanted_free rfl, fun w' hSw => ?_⟩) trivial ?_
        · go_simp
        try simp only [Act.put, List.setIfInBounds_toArray, List.set_cons_zero, List.set_cons_succ]
        have HSW := KpT.drew HS
        generalize wr.drew = W at *
        clear HS
        refine wpAnyH_ready (rs := [3, 13]) (by kernel_rfl) (by simp) (AllReadyH.cons (o := ⟨_, _, _, _, _, _⟩) rfl (fun K hK => ?_) (AllReadyH.cons (o := ⟨_, _, _, _, _, _⟩) rfl (fun K hK => ?_) AllReadyH.nil))
        · as_aux_lemma =>
          rewrite [if_pos (wanted_free rfl)]
          go_simp
          refine (textNo g p' t W hs hn1 hl1 (KpT.rowH HSW)).mono ?_
          rintro e2 Wc ⟨rfl, hOWc⟩
          exact ⟨rfl, Or.inr ⟨HNo.out, rfl, HSW.out.km.only.trans hOWc⟩⟩
        · as_aux_lemma =>
          rewrite [if_pos (wanted_free rfl)]
          with_reducible refine wp_allocV 122 (by with_unfolding_all rfl) (tgv ⟨#[]⟩ ⟨#[]⟩ 0) Try.infoTg ?_
          intro Wa hAWa hBWa
          have HSWa := KpT.new HSW hAWa (tgv_ne _ _ _) hBWa
          refine hK.out _ _ trivial (fun _ => ?_)
          clear hK K
          try simp only [Act.put, List.setIfInBounds_toArray, List.set_cons_zero, List.set_cons_succ]
          refine wpAnyH_ready (rs := [3]) (by kernel_rfl) (by simp) (AllReadyH.cons (o := ⟨_, _, _, _, _, _⟩) rfl (fun K hK => ?_) AllReadyH.nil)
          rewrite [if_pos (wanted_free rfl)]
          go_simp
          refine (textNo g p' t Wa hs hn1 hl1 (KpT.rowH HSWa)).mono ?_
          rintro e2 Wac ⟨rfl, hOWac⟩
          exact ⟨rfl, Or.inr ⟨HNo.out, rfl, HSWa.out.km.only.trans hOWac⟩⟩
      | some y1 =>
      obtain ⟨xn, c1⟩ := y1
      have hl2 : c1 ≤ t.size := (textO_some hq1).2.1
      have hn1 : textO t p' = some (xn, c1) ∧ p' ≤ t.size := ⟨hq1, hpp⟩
      cases hq2 : bytesO t c1 32 with
      | none =>
        as_aux_lemma =>
        have hn2 : t.size < c1 + 32 := bytesO_no hq2
        have HNo : Hid (R = none) := by show _ = _; rw [HRr.out, hm, restT_no2 hq1 hq2]
        clear hq1 hq2 HRr
        go_wp2_with fail
        refine wp_region_held_drew (S := fun _ => True) (by kernel_rfl) trivial (fun _ => ?_)
        refine wpAnyH_take (i := 0) (oi := ⟨_, _, _, _, _, _⟩) (v := .pointer (some ⟨g, 0, none⟩)) rfl (by kernel_rfl) (by kernel_rfl) (by kernel_rfl) (fun _ _ _ h => h) (Or.inl ⟨wanted_free rfl, fun w' hSw => ?_⟩) trivial ?_
        · go_simp
        try simp only [Act.put, List.setIfInBounds_toArray, List.set_cons_zero, List.set_cons_succ]
        refine wpAnyH_take (i := 1) (oi := ⟨_, _, _, _, _, _⟩) (v := .pointer (some ⟨g, 0, none⟩)) rfl (by kernel_rfl) (by kernel_rfl) (by kernel_rfl) (fun _ _ _ h => h) (Or.inl ⟨wanted_free rfl, fun w' hSw => ?_⟩) trivial ?_
        · go_simp
        try simp only [Act.put, List.setIfInBounds_toArray, List.set_cons_zero, List.set_cons_succ]
        refine wpAnyH_take (i := 2) (oi := ⟨_, _, _, _, _, _⟩) (v := .pointer (some ⟨g, 0, none⟩)) rfl (by kernel_rfl) (by kernel_rfl) (by kernel_rfl) (fun _ _ _ h => h) (Or.inl ⟨wanted_free rfl, fun w' hSw => ?_⟩) trivial ?_
        · go_simp
        try simp only [Act.put, List.setIfInBounds_toArray, List.set_cons_zero, List.set_cons_succ]
        refine wpAnyH_take (i := 4) (oi := ⟨_, _, _, _, _, _⟩) (v := .pointer (some ⟨g, 0, none⟩)) rfl (by kernel_rfl) (by kernel_rfl) (by kernel_rfl) (fun _ _ _ h => h) (Or.inl ⟨wanted_free rfl, fun w' hSw => ?_⟩) trivial ?_
        · go_simp
        try simp only [Act.put, List.setIfInBounds_toArray, List.set_cons_zero, List.set_cons_succ]
        refine wpAnyH_take (i := 5) (oi := ⟨_, _, _, _, _, _⟩) (v := .pointer (some ⟨g, 0, none⟩)) rfl (by kernel_rfl) (by kernel_rfl) (by kernel_rfl) (fun _ _ _ h => h) (Or.inl ⟨wanted_free rfl, fun w' hSw => ?_⟩) trivial ?_
        · go_simp
        try simp only [Act.put, List.setIfInBounds_toArray, List.set_cons_zero, List.set_cons_succ]
        refine wpAnyH_take (i := 6) (oi := ⟨_, _, _, _, _, _⟩) (v := .pointer (some ⟨g, 0, none⟩)) rfl (by kernel_rfl) (by kernel_rfl) (by kernel_rfl) (fun _ _ _ h => h) (Or.inl ⟨wanted_free rfl, fun w' hSw => ?_⟩) trivial ?_
        · go_simp
        try simp only [Act.put, List.setIfInBounds_toArray, List.set_cons_zero, List.set_cons_succ]
        refine wpAnyH_take (i := 8) (oi := ⟨_, _, _, _, _, _⟩) (v := .pointer (some ⟨g, 0, none⟩)) rfl (by kernel_rfl) (by kernel_rfl) (by kernel_rfl) (fun _ _ _ h => h) (Or.inl ⟨wanted_free rfl, fun w' hSw => ?_⟩) trivial ?_
        · go_simp
        try simp only [Act.put, List.setIfInBounds_toArray, List.set_cons_zero, List.set_cons_succ]
        refine wpAnyH_take (i := 9) (oi := ⟨_, _, _, _, _, _⟩) (v := .pointer (some ⟨g, 0, none⟩)) rfl (by kernel_rfl) (by kernel_rfl) (by kernel_rfl) (fun _ _ _ h => h) (Or.inl ⟨wanted_free rfl, fun w' hSw => ?_⟩) trivial ?_
        · go_simp
        try simp only [Act.put, List.setIfInBounds_toArray, List.set_cons_zero, List.set_cons_succ]
        refine wpAnyH_take (i := 10) (oi := ⟨_, _, _, _, _, _⟩) (v := .pointer (some ⟨g, 0, none⟩)) rfl (by kernel_rfl) (by kernel_rfl) (by kernel_rfl) (fun _ _ _ h => h) (Or.inl ⟨wanted_free rfl, fun w' hSw => ?_⟩) trivial ?_
        · go_simp
        try simp only [Act.put, List.setIfInBounds_toArray, List.set_cons_zero, List.set_cons_succ]
        have HSW := KpT.drew HS
        generalize wr.drew = W at *
        clear HS
        refine wpAnyH_ready (rs := [3, 13]) (by kernel_rfl) (by simp) (AllReadyH.cons (o := ⟨_, _, _, _, _, _⟩) rfl (fun K hK => ?_) (AllReadyH.cons (o := ⟨_, _, _, _, _, _⟩) rfl (fun K hK => ?_) AllReadyH.nil))
        · as_aux_lemma =>
          rewrite [if_pos (wanted_free rfl)]
          go_simp
          refine (textYes g p' c1 t xn W hs hn1 (KpT.rowH HSW)).mono ?_
          rintro e2 Wc ⟨rfl, hRWc, hOWc⟩
          have HSWc := KpT.read HSW hRWc (cuv_ne _ _) hOWc
          go_wp2_with fail
          refine hK.out _ _ trivial (fun _ => ?_)
          clear hK K
          try simp only [Act.put, List.setIfInBounds_toArray, List.set_cons_zero, List.set_cons_succ]
          refine wpAnyH_ready (rs := [7, 13]) (by kernel_rfl) (by simp) (AllReadyH.cons (o := ⟨_, _, _, _, _, _⟩) rfl (fun K hK => ?_) (AllReadyH.cons (o := ⟨_, _, _, _, _, _⟩) rfl (fun K hK => ?_) AllReadyH.nil))
          · as_aux_lemma =>
            rewrite [if_pos (wanted_free rfl)]
            go_simp
            refine (bytesNo g c1 32 t Wc hs (by omega) hl2 hn2 (KpT.rowH HSWc)).mono ?_
            rintro e2 Wcc ⟨rfl, hOWcc⟩
            exact ⟨rfl, Or.inr ⟨HNo.out, rfl, HSWc.out.km.only.trans hOWcc⟩⟩
          · as_aux_lemma =>
            rewrite [if_pos (wanted_free rfl)]
            with_reducible refine wp_allocV 122 (by with_unfolding_all rfl) (tgv ⟨#[]⟩ ⟨#[]⟩ 0) Try.infoTg ?_
            intro Wca hAWca hBWca
            have HSWca := KpT.new HSWc hAWca (tgv_ne _ _ _) hBWca
            refine hK.out _ _ trivial (fun _ => ?_)
            clear hK K
            try simp only [Act.put, List.setIfInBounds_toArray, List.set_cons_zero, List.set_cons_succ]
            refine wpAnyH_ready (rs := [7]) (by kernel_rfl) (by simp) (AllReadyH.cons (o := ⟨_, _, _, _, _, _⟩) rfl (fun K hK => ?_) AllReadyH.nil)
            rewrite [if_pos (wanted_free rfl)]
            go_simp
            refine (bytesNo g c1 32 t Wca hs (by omega) hl2 hn2 (KpT.rowH HSWca)).mono ?_
            rintro e2 Wcac ⟨rfl, hOWcac⟩
            exact ⟨rfl, Or.inr ⟨HNo.out, rfl, HSWca.out.km.only.trans hOWcac⟩⟩
        · as_aux_lemma =>
          rewrite [if_pos (wanted_free rfl)]
          with_reducible refine wp_allocV 122 (by with_unfolding_all rfl) (tgv ⟨#[]⟩ ⟨#[]⟩ 0) Try.infoTg ?_
          intro Wa hAWa hBWa
          have HSWa := KpT.new HSW hAWa (tgv_ne _ _ _) hBWa
          refine hK.out _ _ trivial (fun _ => ?_)
          clear hK K
          try simp only [Act.put, List.setIfInBounds_toArray, List.set_cons_zero, List.set_cons_succ]
          refine wpAnyH_ready (rs := [3]) (by kernel_rfl) (by simp) (AllReadyH.cons (o := ⟨_, _, _, _, _, _⟩) rfl (fun K hK => ?_) AllReadyH.nil)
          rewrite [if_pos (wanted_free rfl)]
          go_simp
          refine (textYes g p' c1 t xn Wa hs hn1 (KpT.rowH HSWa)).mono ?_
          rintro e2 Wac ⟨rfl, hRWac, hOWac⟩
          have HSWac := KpT.read HSWa hRWac (cuv_ne _ _) hOWac
          go_wp2_with fail
          refine hK.out _ _ trivial (fun _ => ?_)
          clear hK K
          try simp only [Act.put, List.setIfInBounds_toArray, List.set_cons_zero, List.set_cons_succ]
          refine wpAnyH_ready (rs := [7]) (by kernel_rfl) (by simp) (AllReadyH.cons (o := ⟨_, _, _, _, _, _⟩) rfl (fun K hK => ?_) AllReadyH.nil)
          rewrite [if_pos (wanted_free rfl)]
          go_simp
          refine (bytesNo g c1 32 t Wac hs (by omega) hl2 hn2 (KpT.rowH HSWac)).mono ?_
          rintro e2 Wacc ⟨rfl, hOWacc⟩
          exact ⟨rfl, Or.inr ⟨HNo.out, rfl, HSWac.out.km.only.trans hOWacc⟩⟩
      | some y2 =>
      obtain ⟨xi, c2⟩ := y2
      obtain ⟨hxi, hc2, hl3⟩ := bytesO_yes hq2
      have hBy : ∀ w0, RowV w0 g (cuv t c1) → Calls Try.prog 95 #[.pointer (some ⟨g, 0, none⟩), .int .i64 32] w0 fun e w' => e = .returned (.string xi) ∧ RowV w' g (cuv t c2) ∧ Only g w0 w' := fun w0 h0 => by rw [hxi]; exact bytesYes g c1 32 c2 t w0 hs hc2 hl3 h0
      cases hq3 : numO t c2 with
      | none =>
        as_aux_lemma =>
        have hn3 := hq3
        have HNo : Hid (R = none) := by show _ = _; rw [HRr.out, hm, restT_no3 hq1 hq2 hq3]
        clear hq1 hq2 hq3 HRr hxi
        go_wp2_with fail
        refine wp_region_held_drew (S := fun _ => True) (by kernel_rfl) trivial (fun _ => ?_)
        refine wpAnyH_take (i := 0) (oi := ⟨_, _, _, _, _, _⟩) (v := .pointer (some ⟨g, 0, none⟩)) rfl (by kernel_rfl) (by kernel_rfl) (by kernel_rfl) (fun _ _ _ h => h) (Or.inl ⟨wanted_free rfl, fun w' hSw => ?_⟩) trivial ?_
        · go_simp
        try simp only [Act.put, List.setIfInBounds_toArray, List.set_cons_zero, List.set_cons_succ]
        refine wpAnyH_take (i := 1) (oi := ⟨_, _, _, _, _, _⟩) (v := .pointer (some ⟨g, 0, none⟩)) rfl (by kernel_rfl) (by kernel_rfl) (by kernel_rfl) (fun _ _ _ h => h) (Or.inl ⟨wanted_free rfl, fun w' hSw => ?_⟩) trivial ?_
        · go_simp
        try simp only [Act.put, List.setIfInBounds_toArray, List.set_cons_zero, List.set_cons_succ]
        refine wpAnyH_take (i := 2) (oi := ⟨_, _, _, _, _, _⟩) (v := .pointer (some ⟨g, 0, none⟩)) rfl (by kernel_rfl) (by kernel_rfl) (by kernel_rfl) (fun _ _ _ h => h) (Or.inl ⟨wanted_free rfl, fun w' hSw => ?_⟩) trivial ?_
        · go_simp
        try simp only [Act.put, List.setIfInBounds_toArray, List.set_cons_zero, List.set_cons_succ]
        refine wpAnyH_take (i := 4) (oi := ⟨_, _, _, _, _, _⟩) (v := .pointer (some ⟨g, 0, none⟩)) rfl (by kernel_rfl) (by kernel_rfl) (by kernel_rfl) (fun _ _ _ h => h) (Or.inl ⟨wanted_free rfl, fun w' hSw => ?_⟩) trivial ?_
        · go_simp
        try simp only [Act.put, List.setIfInBounds_toArray, List.set_cons_zero, List.set_cons_succ]
        refine wpAnyH_take (i := 5) (oi := ⟨_, _, _, _, _, _⟩) (v := .pointer (some ⟨g, 0, none⟩)) rfl (by kernel_rfl) (by kernel_rfl) (by kernel_rfl) (fun _ _ _ h => h) (Or.inl ⟨wanted_free rfl, fun w' hSw => ?_⟩) trivial ?_
        · go_simp
        try simp only [Act.put, List.setIfInBounds_toArray, List.set_cons_zero, List.set_cons_succ]
        refine wpAnyH_take (i := 6) (oi := ⟨_, _, _, _, _, _⟩) (v := .pointer (some ⟨g, 0, none⟩)) rfl (by kernel_rfl) (by kernel_rfl) (by kernel_rfl) (fun _ _ _ h => h) (Or.inl ⟨wanted_free rfl, fun w' hSw => ?_⟩) trivial ?_
        · go_simp
        try simp only [Act.put, List.setIfInBounds_toArray, List.set_cons_zero, List.set_cons_succ]
        refine wpAnyH_take (i := 8) (oi := ⟨_, _, _, _, _, _⟩) (v := .pointer (some ⟨g, 0, none⟩)) rfl (by kernel_rfl) (by kernel_rfl) (by kernel_rfl) (fun _ _ _ h => h) (Or.inl ⟨wanted_free rfl, fun w' hSw => ?_⟩) trivial ?_
        · go_simp
        try simp only [Act.put, List.setIfInBounds_toArray, List.set_cons_zero, List.set_cons_succ]
        refine wpAnyH_take (i := 9) (oi := ⟨_, _, _, _, _, _⟩) (v := .pointer (some ⟨g, 0, none⟩)) rfl (by kernel_rfl) (by kernel_rfl) (by kernel_rfl) (fun _ _ _ h => h) (Or.inl ⟨wanted_free rfl, fun w' hSw => ?_⟩) trivial ?_
        · go_simp
        try simp only [Act.put, List.setIfInBounds_toArray, List.set_cons_zero, List.set_cons_succ]
        refine wpAnyH_take (i := 10) (oi := ⟨_, _, _, _, _, _⟩) (v := .pointer (some ⟨g, 0, none⟩)) rfl (by kernel_rfl) (by kernel_rfl) (by kernel_rfl) (fun _ _ _ h => h) (Or.inl ⟨wanted_free rfl, fun w' hSw => ?_⟩) trivial ?_
        · go_simp
        try simp only [Act.put, List.setIfInBounds_toArray, List.set_cons_zero, List.set_cons_succ]
        have HSW := KpT.drew HS
        generalize wr.drew = W at *
        clear HS
        refine wpAnyH_ready (rs := [3, 13]) (by kernel_rfl) (by simp) (AllReadyH.cons (o := ⟨_, _, _, _, _, _⟩) rfl (fun K hK => ?_) (AllReadyH.cons (o := ⟨_, _, _, _, _, _⟩) rfl (fun K hK => ?_) AllReadyH.nil))
        · as_aux_lemma =>
          rewrite [if_pos (wanted_free rfl)]
          go_simp
          refine (textYes g p' c1 t xn W hs hn1 (KpT.rowH HSW)).mono ?_
          rintro e2 Wc ⟨rfl, hRWc, hOWc⟩
          have HSWc := KpT.read HSW hRWc (cuv_ne _ _) hOWc
          go_wp2_with fail
          refine hK.out _ _ trivial (fun _ => ?_)
          clear hK K
          try simp only [Act.put, List.setIfInBounds_toArray, List.set_cons_zero, List.set_cons_succ]
          refine wpAnyH_ready (rs := [7, 13]) (by kernel_rfl) (by simp) (AllReadyH.cons (o := ⟨_, _, _, _, _, _⟩) rfl (fun K hK => ?_) (AllReadyH.cons (o := ⟨_, _, _, _, _, _⟩) rfl (fun K hK => ?_) AllReadyH.nil))
          · as_aux_lemma =>
            rewrite [if_pos (wanted_free rfl)]
            go_simp
            refine (hBy Wc (KpT.rowH HSWc)).mono ?_
            rintro e2 Wcc ⟨rfl, hRWcc, hOWcc⟩
            have HSWcc := KpT.read HSWc hRWcc (cuv_ne _ _) hOWcc
            go_wp2_with fail
            refine hK.out _ _ trivial (fun _ => ?_)
            clear hK K
            try simp only [Act.put, List.setIfInBounds_toArray, List.set_cons_zero, List.set_cons_succ]
            refine wpAnyH_ready (rs := [11, 13]) (by kernel_rfl) (by simp) (AllReadyH.cons (o := ⟨_, _, _, _, _, _⟩) rfl (fun K hK => ?_) (AllReadyH.cons (o := ⟨_, _, _, _, _, _⟩) rfl (fun K hK => ?_) AllReadyH.nil))
            · as_aux_lemma =>
              rewrite [if_pos (wanted_free rfl)]
              go_simp
              refine (numNo g c2 t Wcc hs hn3 hl3 (KpT.rowH HSWcc)).mono ?_
              rintro e2 Wccc ⟨rfl, hOWccc⟩
              exact ⟨rfl, Or.inr ⟨HNo.out, rfl, HSWcc.out.km.only.trans hOWccc⟩⟩
            · as_aux_lemma =>
              rewrite [if_pos (wanted_free rfl)]
              with_reducible refine wp_allocV 122 (by with_unfolding_all rfl) (tgv ⟨#[]⟩ ⟨#[]⟩ 0) Try.infoTg ?_
              intro Wcca hAWcca hBWcca
              have HSWcca := KpT.new HSWcc hAWcca (tgv_ne _ _ _) hBWcca
              refine hK.out _ _ trivial (fun _ => ?_)
              clear hK K
              try simp only [Act.put, List.setIfInBounds_toArray, List.set_cons_zero, List.set_cons_succ]
              refine wpAnyH_ready (rs := [11]) (by kernel_rfl) (by simp) (AllReadyH.cons (o := ⟨_, _, _, _, _, _⟩) rfl (fun K hK => ?_) AllReadyH.nil)
              rewrite [if_pos (wanted_free rfl)]
              go_simp
              refine (numNo g c2 t Wcca hs hn3 hl3 (KpT.rowH HSWcca)).mono ?_
              rintro e2 Wccac ⟨rfl, hOWccac⟩
              exact ⟨rfl, Or.inr ⟨HNo.out, rfl, HSWcca.out.km.only.trans hOWccac⟩⟩
          · as_aux_lemma =>
            rewrite [if_pos (wanted_free rfl)]
            with_reducible refine wp_allocV 122 (by with_unfolding_all rfl) (tgv ⟨#[]⟩ ⟨#[]⟩ 0) Try.infoTg ?_
            intro Wca hAWca hBWca
            have HSWca := KpT.new HSWc hAWca (tgv_ne _ _ _) hBWca
            refine hK.out _ _ trivial (fun _ => ?_)
            clear hK K
            try simp only [Act.put, List.setIfInBounds_toArray, List.set_cons_zero, List.set_cons_succ]
            refine wpAnyH_ready (rs := [7]) (by kernel_rfl) (by simp) (AllReadyH.cons (o := ⟨_, _, _, _, _, _⟩) rfl (fun K hK => ?_) AllReadyH.nil)
            rewrite [if_pos (wanted_free rfl)]
            go_simp
            refine (hBy Wca (KpT.rowH HSWca)).mono ?_
            rintro e2 Wcac ⟨rfl, hRWcac, hOWcac⟩
            have HSWcac := KpT.read HSWca hRWcac (cuv_ne _ _) hOWcac
            go_wp2_with fail
            refine hK.out _ _ trivial (fun _ => ?_)
            clear hK K
            try simp only [Act.put, List.setIfInBounds_toArray, List.set_cons_zero, List.set_cons_succ]
            refine wpAnyH_ready (rs := [11]) (by kernel_rfl) (by simp) (AllReadyH.cons (o := ⟨_, _, _, _, _, _⟩) rfl (fun K hK => ?_) AllReadyH.nil)
            rewrite [if_pos (wanted_free rfl)]
            go_simp
            refine (numNo g c2 t Wcac hs hn3 hl3 (KpT.rowH HSWcac)).mono ?_
            rintro e2 Wcacc ⟨rfl, hOWcacc⟩
            exact ⟨rfl, Or.inr ⟨HNo.out, rfl, HSWcac.out.km.only.trans hOWcacc⟩⟩
        · as_aux_lemma =>
          rewrite [if_pos (wanted_free rfl)]
          with_reducible refine wp_allocV 122 (by with_unfolding_all rfl) (tgv ⟨#[]⟩ ⟨#[]⟩ 0) Try.infoTg ?_
          intro Wa hAWa hBWa
          have HSWa := KpT.new HSW hAWa (tgv_ne _ _ _) hBWa
          refine hK.out _ _ trivial (fun _ => ?_)
          clear hK K
          try simp only [Act.put, List.setIfInBounds_toArray, List.set_cons_zero, List.set_cons_succ]
          refine wpAnyH_ready (rs := [3]) (by kernel_rfl) (by simp) (AllReadyH.cons (o := ⟨_, _, _, _, _, _⟩) rfl (fun K hK => ?_) AllReadyH.nil)
          rewrite [if_pos (wanted_free rfl)]
          go_simp
          refine (textYes g p' c1 t xn Wa hs hn1 (KpT.rowH HSWa)).mono ?_
          rintro e2 Wac ⟨rfl, hRWac, hOWac⟩
          have HSWac := KpT.read HSWa hRWac (cuv_ne _ _) hOWac
          go_wp2_with fail
          refine hK.out _ _ trivial (fun _ => ?_)
          clear hK K
          try simp only [Act.put, List.setIfInBounds_toArray, List.set_cons_zero, List.set_cons_succ]
          refine wpAnyH_ready (rs := [7]) (by kernel_rfl) (by simp) (AllReadyH.cons (o := ⟨_, _, _, _, _, _⟩) rfl (fun K hK => ?_) AllReadyH.nil)
          rewrite [if_pos (wanted_free rfl)]
          go_simp
          refine (hBy Wac (KpT.rowH HSWac)).mono ?_
          rintro e2 Wacc ⟨rfl, hRWacc, hOWacc⟩
          have HSWacc := KpT.read HSWac hRWacc (cuv_ne _ _) hOWacc
          go_wp2_with fail
          refine hK.out _ _ trivial (fun _ => ?_)
          clear hK K
          try simp only [Act.put, List.setIfInBounds_toArray, List.set_cons_zero, List.set_cons_succ]
          refine wpAnyH_ready (rs := [11]) (by kernel_rfl) (by simp) (AllReadyH.cons (o := ⟨_, _, _, _, _, _⟩) rfl (fun K hK => ?_) AllReadyH.nil)
          rewrite [if_pos (wanted_free rfl)]
          go_simp
          refine (numNo g c2 t Wacc hs hn3 hl3 (KpT.rowH HSWacc)).mono ?_
          rintro e2 Waccc ⟨rfl, hOWaccc⟩
          exact ⟨rfl, Or.inr ⟨HNo.out, rfl, HSWacc.out.km.only.trans hOWaccc⟩⟩
      | some y3 =>
      as_aux_lemma =>
      obtain ⟨xs, c3⟩ := y3
      have hn3 : numO t c2 = some (xs, c3) ∧ c2 ≤ t.size := ⟨hq3, hl3⟩
      have HRn : Hid (R = restT t v e (l1 ++ [⟨xn, xi, xs⟩]) (k - (i + 1)) c3) := by show _ = _; rw [HRr.out, hm, restT_step hq1 hq2 hq3, hm2]
      have HWn : Hid (∀ y ∈ l1 ++ [⟨xn, xi, xs⟩], TarV.w y) := fun y hy => by
        rcases List.mem_append.1 hy with hy | hy
        · exact HWl.out y hy
        · obtain rfl := List.mem_singleton.1 hy
          exact tarW hs hq1 hq2 hq3
      have hl4 : c3 ≤ t.size := (numO_some hq3).2.1
      clear hq1 hq2 hq3 HRr HWl hxi
      go_wp2_with fail
      refine wp_region_held_drew (S := fun _ => True) (by kernel_rfl) trivial (fun _ => ?_)
      refine wpAnyH_take (i := 0) (oi := ⟨_, _, _, _, _, _⟩) (v := .pointer (some ⟨g, 0, none⟩)) rfl (by kernel_rfl) (by kernel_rfl) (by kernel_rfl) (fun _ _ _ h => h) (Or.inl ⟨wanted_free rfl, fun w' hSw => ?_⟩) trivial ?_
      · go_simp
      try simp only [Act.put, List.setIfInBounds_toArray, List.set_cons_zero, List.set_cons_succ]
      refine wpAnyH_take (i := 1) (oi := ⟨_, _, _, _, _, _⟩) (v := .pointer (some ⟨g, 0, none⟩)) rfl (by kernel_rfl) (by kernel_rfl) (by kernel_rfl) (fun _ _ _ h => h) (Or.inl ⟨wanted_free rfl, fun w' hSw => ?_⟩) trivial ?_
      · go_simp
      try simp only [Act.put, List.setIfInBounds_toArray, List.set_cons_zero, List.set_cons_succ]
      refine wpAnyH_take (i := 2) (oi := ⟨_, _, _, _, _, _⟩) (v := .pointer (some ⟨g, 0, none⟩)) rfl (by kernel_rfl) (by kernel_rfl) (by kernel_rfl) (fun _ _ _ h => h) (Or.inl ⟨wanted_free rfl, fun w' hSw => ?_⟩) trivial ?_
      · go_simp
      try simp only [Act.put, List.setIfInBounds_toArray, List.set_cons_zero, List.set_cons_succ]
      refine wpAnyH_take (i := 4) (oi := ⟨_, _, _, _, _, _⟩) (v := .pointer (some ⟨g, 0, none⟩)) rfl (by kernel_rfl) (by kernel_rfl) (by kernel_rfl) (fun _ _ _ h => h) (Or.inl ⟨wanted_free rfl, fun w' hSw => ?_⟩) trivial ?_
      · go_simp
      try simp only [Act.put, List.setIfInBounds_toArray, List.set_cons_zero, List.set_cons_succ]
      refine wpAnyH_take (i := 5) (oi := ⟨_, _, _, _, _, _⟩) (v := .pointer (some ⟨g, 0, none⟩)) rfl (by kernel_rfl) (by kernel_rfl) (by kernel_rfl) (fun _ _ _ h => h) (Or.inl ⟨wanted_free rfl, fun w' hSw => ?_⟩) trivial ?_
      · go_simp
      try simp only [Act.put, List.setIfInBounds_toArray, List.set_cons_zero, List.set_cons_succ]
      refine wpAnyH_take (i := 6) (oi := ⟨_, _, _, _, _, _⟩) (v := .pointer (some ⟨g, 0, none⟩)) rfl (by kernel_rfl) (by kernel_rfl) (by kernel_rfl) (fun _ _ _ h => h) (Or.inl ⟨wanted_free rfl, fun w' hSw => ?_⟩) trivial ?_
      · go_simp
      try simp only [Act.put, List.setIfInBounds_toArray, List.set_cons_zero, List.set_cons_succ]
      refine wpAnyH_take (i := 8) (oi := ⟨_, _, _, _, _, _⟩) (v := .pointer (some ⟨g, 0, none⟩)) rfl (by kernel_rfl) (by kernel_rfl) (by kernel_rfl) (fun _ _ _ h => h) (Or.inl ⟨wanted_free rfl, fun w' hSw => ?_⟩) trivial ?_
      · go_simp
      try simp only [Act.put, List.setIfInBounds_toArray, List.set_cons_zero, List.set_cons_succ]
      refine wpAnyH_take (i := 9) (oi := ⟨_, _, _, _, _, _⟩) (v := .pointer (some ⟨g, 0, none⟩)) rfl (by kernel_rfl) (by kernel_rfl) (by kernel_rfl) (fun _ _ _ h => h) (Or.inl ⟨wanted_free rfl, fun w' hSw => ?_⟩) trivial ?_
      · go_simp
      try simp only [Act.put, List.setIfInBounds_toArray, List.set_cons_zero, List.set_cons_succ]
      refine wpAnyH_take (i := 10) (oi := ⟨_, _, _, _, _, _⟩) (v := .pointer (some ⟨g, 0, none⟩)) rfl (by kernel_rfl) (by kernel_rfl) (by kernel_rfl) (fun _ _ _ h => h) (Or.inl ⟨wanted_free rfl, fun w' hSw => ?_⟩) trivial ?_
      · go_simp
      try simp only [Act.put, List.setIfInBounds_toArray, List.set_cons_zero, List.set_cons_succ]
      have HSW := KpT.drew HS
      generalize wr.drew = W at *
      clear HS
      refine wpAnyH_ready (rs := [3, 13]) (by kernel_rfl) (by simp) (AllReadyH.cons (o := ⟨_, _, _, _, _, _⟩) rfl (fun K hK => ?_) (AllReadyH.cons (o := ⟨_, _, _, _, _, _⟩) rfl (fun K hK => ?_) AllReadyH.nil))
      · as_aux_lemma =>
        rewrite [if_pos (wanted_free rfl)]
        go_simp
        refine (textYes g p' c1 t xn W hs hn1 (KpT.rowH HSW)).mono ?_
        rintro e2 Wc ⟨rfl, hRWc, hOWc⟩
        have HSWc := KpT.read HSW hRWc (cuv_ne _ _) hOWc
        go_wp2_with fail
        refine hK.out _ _ trivial (fun _ => ?_)
        clear hK K
        try simp only [Act.put, List.setIfInBounds_toArray, List.set_cons_zero, List.set_cons_succ]
        refine wpAnyH_ready (rs := [7, 13]) (by kernel_rfl) (by simp) (AllReadyH.cons (o := ⟨_, _, _, _, _, _⟩) rfl (fun K hK => ?_) (AllReadyH.cons (o := ⟨_, _, _, _, _, _⟩) rfl (fun K hK => ?_) AllReadyH.nil))
        · as_aux_lemma =>
          rewrite [if_pos (wanted_free rfl)]
          go_simp
          refine (hBy Wc (KpT.rowH HSWc)).mono ?_
          rintro e2 Wcc ⟨rfl, hRWcc, hOWcc⟩
          have HSWcc := KpT.read HSWc hRWcc (cuv_ne _ _) hOWcc
          go_wp2_with fail
          refine hK.out _ _ trivial (fun _ => ?_)
          clear hK K
          try simp only [Act.put, List.setIfInBounds_toArray, List.set_cons_zero, List.set_cons_succ]
          refine wpAnyH_ready (rs := [11, 13]) (by kernel_rfl) (by simp) (AllReadyH.cons (o := ⟨_, _, _, _, _, _⟩) rfl (fun K hK => ?_) (AllReadyH.cons (o := ⟨_, _, _, _, _, _⟩) rfl (fun K hK => ?_) AllReadyH.nil))
          · as_aux_lemma =>
            rewrite [if_pos (wanted_free rfl)]
            go_simp
            refine (numYes g c2 c3 t xs Wcc hs hn3 (KpT.rowH HSWcc)).mono ?_
            rintro e2 Wccc ⟨rfl, hRWccc, hOWccc⟩
            have HSWccc := KpT.read HSWcc hRWccc (cuv_ne _ _) hOWccc
            go_wp2_with fail
            refine hK.out _ _ trivial (fun _ => ?_)
            clear hK K
            try simp only [Act.put, List.setIfInBounds_toArray, List.set_cons_zero, List.set_cons_succ]
            refine wpAnyH_take (i := 12) (oi := ⟨_, _, _, _, _, _⟩) (v := .agg #[.string xn, .string xi, .int .i64 xs]) rfl (by kernel_rfl) (by kernel_rfl) (by kernel_rfl) (fun _ _ _ h => h) (Or.inl ⟨wanted_free rfl, fun w' hSw => ?_⟩) trivial ?_
            · go_simp
            try simp only [Act.put, List.setIfInBounds_toArray, List.set_cons_zero, List.set_cons_succ]
            refine wpAnyH_ready (rs := [13]) (by kernel_rfl) (by simp) (AllReadyH.cons (o := ⟨_, _, _, _, _, _⟩) rfl (fun K hK => ?_) AllReadyH.nil)
            rewrite [if_pos (wanted_free rfl)]
            with_reducible refine wp_allocV 122 (by with_unfolding_all rfl) (tgv ⟨#[]⟩ ⟨#[]⟩ 0) Try.infoTg ?_
            intro Wccca hAWccca hBWccca
            have HSWccca := KpT.new HSWccc hAWccca (tgv_ne _ _ _) hBWccca
            refine hK.out _ _ trivial (fun _ => ?_)
            clear hK K
            try simp only [Act.put, List.setIfInBounds_toArray, List.set_cons_zero, List.set_cons_succ]
            refine wpAnyH_ready (rs := [14]) (by kernel_rfl) (by simp) (AllReadyH.cons (o := ⟨_, _, _, _, _, _⟩) rfl (fun K hK => ?_) AllReadyH.nil)
            rewrite [if_pos (wanted_free rfl)]
            with_reducible refine wp_storeV 122 (.tmp 4) (.tmp 32) (by with_unfolding_all rfl) Wccc.heap.size (tgv ⟨#[]⟩ ⟨#[]⟩ 0) (tgv xn xi xs) (by with_unfolding_all rfl) (by with_unfolding_all rfl) (KpT.get HSWccca (List.mem_cons_self ..)) 3 Try.sizeTg (by with_unfolding_all rfl) (by with_unfolding_all rfl) (tgv_one _ _ _) ?_
            intro wf hAf hOf
            have HSf := KpT.put HSWccca (apartT HSWccc) hAf (tgv_ne _ _ _) hOf
            refine hK.out _ _ trivial (fun _ => ?_)
            clear hK K
            refine wpAnyH_done (by kernel_rfl) ?_ _
            have zGV := newGV HSWccc
            generalize Wccc.heap.size = GV at *
            clear HSW HSWc HSWcc HSWccc HSWccca
            obtain ⟨p0, p1, p2⟩ := (KpT.get HSf (List.mem_cons_self ..)).tg
            have q2 := (KpT.get HSf (List.mem_cons_of_mem _ (List.mem_cons_self ..))).cell (k := 2) rfl
            go_wp2_with (first
              | (with_reducible refine wpList_buildTg (w := wf) (by with_unfolding_all rfl) (.tmp 35) (by with_unfolding_all rfl) xn xi xs (by with_unfolding_all rfl) ?_; intro wi hAi hBi; have HSi := KpT.call HSf hBi; clear p0 p1 p2 q2)
              | (with_reducible refine wpList_appendTg3 (W := wi) (by with_unfolding_all rfl) (.tmp 34) (.tmp 36) (by with_unfolding_all rfl) w.heap.size val l1 ⟨xn, xi, xs⟩ (by with_unfolding_all rfl) HSi.out.own wf.heap.size (by with_unfolding_all rfl) hAi hl1000 (KpT.szH HSi) (i + 1) (lenT1 HLn _) ?_; intro a2 cc2 wa hOa hGa hba; have HSa := KpT.app HSi hOa hGa hba)
              | (with_reducible refine wpList_cellH (w := wa) (by with_unfolding_all rfl) 42 (.tmp 38) (.tmp 37) (by with_unfolding_all rfl) GA 2 (rtw v e val) (rtw v e (.slice a2 (i + 1) cc2)) (.slice a2 (i + 1) cc2) (by with_unfolding_all rfl) (by with_unfolding_all rfl) rfl Try.size1Tgs (KpT.get (KpT.tail HSa) (List.mem_cons_self ..)) (by simp [rtw]) (by with_unfolding_all rfl) ?_; intro wz hAz hBz hFz hSz; have HSz := KpT.put (KpT.tail HSa) (apartG zGA) hAz (rtw_ne _ _ _) (Only.set hBz hFz hSz)))
            go_roundw
            case rel => exact ⟨i + 1, c3, _, l1 ++ [⟨xn, xi, xs⟩], by go_num, by omega, hl4, by show _ = _; rw [List.length_append, HLn.out]; rfl, HWn, HRn, HSz⟩
            case measure => simp [intOf]; omega
          · as_aux_lemma =>
            rewrite [if_pos (wanted_free rfl)]
            with_reducible refine wp_allocV 122 (by with_unfolding_all rfl) (tgv ⟨#[]⟩ ⟨#[]⟩ 0) Try.infoTg ?_
            intro Wcca hAWcca hBWcca
            have HSWcca := KpT.new HSWcc hAWcca (tgv_ne _ _ _) hBWcca
            refine hK.out _ _ trivial (fun _ => ?_)
            clear hK K
            try simp only [Act.put, List.setIfInBounds_toArray, List.set_cons_zero, List.set_cons_succ]
            refine wpAnyH_ready (rs := [11]) (by kernel_rfl) (by simp) (AllReadyH.cons (o := ⟨_, _, _, _, _, _⟩) rfl (fun K hK => ?_) AllReadyH.nil)
            rewrite [if_pos (wanted_free rfl)]
            go_simp
            refine (numYes g c2 c3 t xs Wcca hs hn3 (KpT.rowH HSWcca)).mono ?_
            rintro e2 Wccac ⟨rfl, hRWccac, hOWccac⟩
            have HSWccac := KpT.read HSWcca hRWccac (cuv_ne _ _) hOWccac
            go_wp2_with fail
            refine hK.out _ _ trivial (fun _ => ?_)
            clear hK K
            try simp only [Act.put, List.setIfInBounds_toArray, List.set_cons_zero, List.set_cons_succ]
            refine wpAnyH_take (i := 12) (oi := ⟨_, _, _, _, _, _⟩) (v := .agg #[.string xn, .string xi, .int .i64 xs]) rfl (by kernel_rfl) (by kernel_rfl) (by kernel_rfl) (fun _ _ _ h => h) (Or.inl ⟨wanted_free rfl, fun w' hSw => ?_⟩) trivial ?_
            · go_simp
            try simp only [Act.put, List.setIfInBounds_toArray, List.set_cons_zero, List.set_cons_succ]
            refine wpAnyH_ready (rs := [14]) (by kernel_rfl) (by simp) (AllReadyH.cons (o := ⟨_, _, _, _, _, _⟩) rfl (fun K hK => ?_) AllReadyH.nil)
            rewrite [if_pos (wanted_free rfl)]
            with_reducible refine wp_storeV 122 (.tmp 4) (.tmp 32) (by with_unfolding_all rfl) Wcc.heap.size (tgv ⟨#[]⟩ ⟨#[]⟩ 0) (tgv xn xi xs) (by with_unfolding_all rfl) (by with_unfolding_all rfl) (KpT.get HSWccac (List.mem_cons_self ..)) 3 Try.sizeTg (by with_unfolding_all rfl) (by with_unfolding_all rfl) (tgv_one _ _ _) ?_
            intro wf hAf hOf
            have HSf := KpT.put HSWccac (apartT HSWcc) hAf (tgv_ne _ _ _) hOf
            refine hK.out _ _ trivial (fun _ => ?_)
            clear hK K
            refine wpAnyH_done (by kernel_rfl) ?_ _
            have zGV := newGV HSWcc
            generalize Wcc.heap.size = GV at *
            clear HSW HSWc HSWcc HSWcca HSWccac
            obtain ⟨p0, p1, p2⟩ := (KpT.get HSf (List.mem_cons_self ..)).tg
            have q2 := (KpT.get HSf (List.mem_cons_of_mem _ (List.mem_cons_self ..))).cell (k := 2) rfl
            go_wp2_with (first
              | (with_reducible refine wpList_buildTg (w := wf) (by with_unfolding_all rfl) (.tmp 35) (by with_unfolding_all rfl) xn xi xs (by with_unfolding_all rfl) ?_; intro wi hAi hBi; have HSi := KpT.call HSf hBi; clear p0 p1 p2 q2)
              | (with_reducible refine wpList_appendTg3 (W := wi) (by with_unfolding_all rfl) (.tmp 34) (.tmp 36) (by with_unfolding_all rfl) w.heap.size val l1 ⟨xn, xi, xs⟩ (by with_unfolding_all rfl) HSi.out.own wf.heap.size (by with_unfolding_all rfl) hAi hl1000 (KpT.szH HSi) (i + 1) (lenT1 HLn _) ?_; intro a2 cc2 wa hOa hGa hba; have HSa := KpT.app HSi hOa hGa hba)
              | (with_reducible refine wpList_cellH (w := wa) (by with_unfolding_all rfl) 42 (.tmp 38) (.tmp 37) (by with_unfolding_all rfl) GA 2 (rtw v e val) (rtw v e (.slice a2 (i + 1) cc2)) (.slice a2 (i + 1) cc2) (by with_unfolding_all rfl) (by with_unfolding_all rfl) rfl Try.size1Tgs (KpT.get (KpT.tail HSa) (List.mem_cons_self ..)) (by simp [rtw]) (by with_unfolding_all rfl) ?_; intro wz hAz hBz hFz hSz; have HSz := KpT.put (KpT.tail HSa) (apartG zGA) hAz (rtw_ne _ _ _) (Only.set hBz hFz hSz)))
            go_roundw
            case rel => exact ⟨i + 1, c3, _, l1 ++ [⟨xn, xi, xs⟩], by go_num, by omega, hl4, by show _ = _; rw [List.length_append, HLn.out]; rfl, HWn, HRn, HSz⟩
            case measure => simp [intOf]; omega
        · as_aux_lemma =>
          rewrite [if_pos (wanted_free rfl)]
          with_reducible refine wp_allocV 122 (by with_unfolding_all rfl) (tgv ⟨#[]⟩ ⟨#[]⟩ 0) Try.infoTg ?_
          intro Wca hAWca hBWca
          have HSWca := KpT.new HSWc hAWca (tgv_ne _ _ _) hBWca
          refine hK.out _ _ trivial (fun _ => ?_)
          clear hK K
          try simp only [Act.put, List.setIfInBounds_toArray, List.set_cons_zero, List.set_cons_succ]
          refine wpAnyH_ready (rs := [7]) (by kernel_rfl) (by simp) (AllReadyH.cons (o := ⟨_, _, _, _, _, _⟩) rfl (fun K hK => ?_) AllReadyH.nil)
          rewrite [if_pos (wanted_free rfl)]
          go_simp
          refine (hBy Wca (KpT.rowH HSWca)).mono ?_
          rintro e2 Wcac ⟨rfl, hRWcac, hOWcac⟩
          have HSWcac := KpT.read HSWca hRWcac (cuv_ne _ _) hOWcac
          go_wp2_with fail
          refine hK.out _ _ trivial (fun _ => ?_)
          clear hK K
          try simp only [Act.put, List.setIfInBounds_toArray, List.set_cons_zero, List.set_cons_succ]
          refine wpAnyH_ready (rs := [11]) (by kernel_rfl) (by simp) (AllReadyH.cons (o := ⟨_, _, _, _, _, _⟩) rfl (fun K hK => ?_) AllReadyH.nil)
          rewrite [if_pos (wanted_free rfl)]
          go_simp
          refine (numYes g c2 c3 t xs Wcac hs hn3 (KpT.rowH HSWcac)).mono ?_
          rintro e2 Wcacc ⟨rfl, hRWcacc, hOWcacc⟩
          have HSWcacc := KpT.read HSWcac hRWcacc (cuv_ne _ _) hOWcacc
          go_wp2_with fail
          refine hK.out _ _ trivial (fun _ => ?_)
          clear hK K
          try simp only [Act.put, List.setIfInBounds_toArray, List.set_cons_zero, List.set_cons_succ]
          refine wpAnyH_take (i := 12) (oi := ⟨_, _, _, _, _, _⟩) (v := .agg #[.string xn, .string xi, .int .i64 xs]) rfl (by kernel_rfl) (by kernel_rfl) (by kernel_rfl) (fun _ _ _ h => h) (Or.inl ⟨wanted_free rfl, fun w' hSw => ?_⟩) trivial ?_
          · go_simp
          try simp only [Act.put, List.setIfInBounds_toArray, List.set_cons_zero, List.set_cons_succ]
          refine wpAnyH_ready (rs := [14]) (by kernel_rfl) (by simp) (AllReadyH.cons (o := ⟨_, _, _, _, _, _⟩) rfl (fun K hK => ?_) AllReadyH.nil)
          rewrite [if_pos (wanted_free rfl)]
          with_reducible refine wp_storeV 122 (.tmp 4) (.tmp 32) (by with_unfolding_all rfl) Wc.heap.size (tgv ⟨#[]⟩ ⟨#[]⟩ 0) (tgv xn xi xs) (by with_unfolding_all rfl) (by with_unfolding_all rfl) (KpT.get HSWcacc (List.mem_cons_self ..)) 3 Try.sizeTg (by with_unfolding_all rfl) (by with_unfolding_all rfl) (tgv_one _ _ _) ?_
          intro wf hAf hOf
          have HSf := KpT.put HSWcacc (apartT HSWc) hAf (tgv_ne _ _ _) hOf
          refine hK.out _ _ trivial (fun _ => ?_)
          clear hK K
          refine wpAnyH_done (by kernel_rfl) ?_ _
          have zGV := newGV HSWc
          generalize Wc.heap.size = GV at *
          clear HSW HSWc HSWca HSWcac HSWcacc
          obtain ⟨p0, p1, p2⟩ := (KpT.get HSf (List.mem_cons_self ..)).tg
          have q2 := (KpT.get HSf (List.mem_cons_of_mem _ (List.mem_cons_self ..))).cell (k := 2) rfl
          go_wp2_with (first
            | (with_reducible refine wpList_buildTg (w := wf) (by with_unfolding_all rfl) (.tmp 35) (by with_unfolding_all rfl) xn xi xs (by with_unfolding_all rfl) ?_; intro wi hAi hBi; have HSi := KpT.call HSf hBi; clear p0 p1 p2 q2)
            | (with_reducible refine wpList_appendTg3 (W := wi) (by with_unfolding_all rfl) (.tmp 34) (.tmp 36) (by with_unfolding_all rfl) w.heap.size val l1 ⟨xn, xi, xs⟩ (by with_unfolding_all rfl) HSi.out.own wf.heap.size (by with_unfolding_all rfl) hAi hl1000 (KpT.szH HSi) (i + 1) (lenT1 HLn _) ?_; intro a2 cc2 wa hOa hGa hba; have HSa := KpT.app HSi hOa hGa hba)
            | (with_reducible refine wpList_cellH (w := wa) (by with_unfolding_all rfl) 42 (.tmp 38) (.tmp 37) (by with_unfolding_all rfl) GA 2 (rtw v e val) (rtw v e (.slice a2 (i + 1) cc2)) (.slice a2 (i + 1) cc2) (by with_unfolding_all rfl) (by with_unfolding_all rfl) rfl Try.size1Tgs (KpT.get (KpT.tail HSa) (List.mem_cons_self ..)) (by simp [rtw]) (by with_unfolding_all rfl) ?_; intro wz hAz hBz hFz hSz; have HSz := KpT.put (KpT.tail HSa) (apartG zGA) hAz (rtw_ne _ _ _) (Only.set hBz hFz hSz)))
          go_roundw
          case rel => exact ⟨i + 1, c3, _, l1 ++ [⟨xn, xi, xs⟩], by go_num, by omega, hl4, by show _ = _; rw [List.length_append, HLn.out]; rfl, HWn, HRn, HSz⟩
          case measure => simp [intOf]; omega
      · as_aux_lemma =>
        rewrite [if_pos (wanted_free rfl)]
        with_reducible refine wp_allocV 122 (by with_unfolding_all rfl) (tgv ⟨#[]⟩ ⟨#[]⟩ 0) Try.infoTg ?_
        intro Wa hAWa hBWa
        have HSWa := KpT.new HSW hAWa (tgv_ne _ _ _) hBWa
        refine hK.out _ _ trivial (fun _ => ?_)
        clear hK K
        try simp only [Act.put, List.setIfInBounds_toArray, List.set_cons_zero, List.set_cons_succ]
        refine wpAnyH_ready (rs := [3]) (by kernel_rfl) (by simp) (AllReadyH.cons (o := ⟨_, _, _, _, _, _⟩) rfl (fun K hK => ?_) AllReadyH.nil)
        rewrite [if_pos (wanted_free rfl)]
        go_simp
        refine (textYes g p' c1 t xn Wa hs hn1 (KpT.rowH HSWa)).mono ?_
        rintro e2 Wac ⟨rfl, hRWac, hOWac⟩
        have HSWac := KpT.read HSWa hRWac (cuv_ne _ _) hOWac
        go_wp2_with fail
        refine hK.out _ _ trivial (fun _ => ?_)
        clear hK K
        try simp only [Act.put, List.setIfInBounds_toArray, List.set_cons_zero, List.set_cons_succ]
        refine wpAnyH_ready (rs := [7]) (by kernel_rfl) (by simp) (AllReadyH.cons (o := ⟨_, _, _, _, _, _⟩) rfl (fun K hK => ?_) AllReadyH.nil)
        rewrite [if_pos (wanted_free rfl)]
        go_simp
        refine (hBy Wac (KpT.rowH HSWac)).mono ?_
        rintro e2 Wacc ⟨rfl, hRWacc, hOWacc⟩
        have HSWacc := KpT.read HSWac hRWacc (cuv_ne _ _) hOWacc
        go_wp2_with fail
        refine hK.out _ _ trivial (fun _ => ?_)
        clear hK K
        try simp only [Act.put, List.setIfInBounds_toArray, List.set_cons_zero, List.set_cons_succ]
        refine wpAnyH_ready (rs := [11]) (by kernel_rfl) (by simp) (AllReadyH.cons (o := ⟨_, _, _, _, _, _⟩) rfl (fun K hK => ?_) AllReadyH.nil)
        rewrite [if_pos (wanted_free rfl)]
        go_simp
        refine (numYes g c2 c3 t xs Wacc hs hn3 (KpT.rowH HSWacc)).mono ?_
        rintro e2 Waccc ⟨rfl, hRWaccc, hOWaccc⟩
        have HSWaccc := KpT.read HSWacc hRWaccc (cuv_ne _ _) hOWaccc
        go_wp2_with fail
        refine hK.out _ _ trivial (fun _ => ?_)
        clear hK K
        try simp only [Act.put, List.setIfInBounds_toArray, List.set_cons_zero, List.set_cons_succ]
        refine wpAnyH_take (i := 12) (oi := ⟨_, _, _, _, _, _⟩) (v := .agg #[.string xn, .string xi, .int .i64 xs]) rfl (by kernel_rfl) (by kernel_rfl) (by kernel_rfl) (fun _ _ _ h => h) (Or.inl ⟨wanted_free rfl, fun w' hSw => ?_⟩) trivial ?_
        · go_simp
        try simp only [Act.put, List.setIfInBounds_toArray, List.set_cons_zero, List.set_cons_succ]
        refine wpAnyH_ready (rs := [14]) (by kernel_rfl) (by simp) (AllReadyH.cons (o := ⟨_, _, _, _, _, _⟩) rfl (fun K hK => ?_) AllReadyH.nil)
        rewrite [if_pos (wanted_free rfl)]
        with_reducible refine wp_storeV 122 (.tmp 4) (.tmp 32) (by with_unfolding_all rfl) W.heap.size (tgv ⟨#[]⟩ ⟨#[]⟩ 0) (tgv xn xi xs) (by with_unfolding_all rfl) (by with_unfolding_all rfl) (KpT.get HSWaccc (List.mem_cons_self ..)) 3 Try.sizeTg (by with_unfolding_all rfl) (by with_unfolding_all rfl) (tgv_one _ _ _) ?_
        intro wf hAf hOf
        have HSf := KpT.put HSWaccc (apartT HSW) hAf (tgv_ne _ _ _) hOf
        refine hK.out _ _ trivial (fun _ => ?_)
        clear hK K
        refine wpAnyH_done (by kernel_rfl) ?_ _
        have zGV := newGV HSW
        generalize W.heap.size = GV at *
        clear HSW HSWa HSWac HSWacc HSWaccc
        obtain ⟨p0, p1, p2⟩ := (KpT.get HSf (List.mem_cons_self ..)).tg
        have q2 := (KpT.get HSf (List.mem_cons_of_mem _ (List.mem_cons_self ..))).cell (k := 2) rfl
        go_wp2_with (first
          | (with_reducible refine wpList_buildTg (w := wf) (by with_unfolding_all rfl) (.tmp 35) (by with_unfolding_all rfl) xn xi xs (by with_unfolding_all rfl) ?_; intro wi hAi hBi; have HSi := KpT.call HSf hBi; clear p0 p1 p2 q2)
          | (with_reducible refine wpList_appendTg3 (W := wi) (by with_unfolding_all rfl) (.tmp 34) (.tmp 36) (by with_unfolding_all rfl) w.heap.size val l1 ⟨xn, xi, xs⟩ (by with_unfolding_all rfl) HSi.out.own wf.heap.size (by with_unfolding_all rfl) hAi hl1000 (KpT.szH HSi) (i + 1) (lenT1 HLn _) ?_; intro a2 cc2 wa hOa hGa hba; have HSa := KpT.app HSi hOa hGa hba)
          | (with_reducible refine wpList_cellH (w := wa) (by with_unfolding_all rfl) 42 (.tmp 38) (.tmp 37) (by with_unfolding_all rfl) GA 2 (rtw v e val) (rtw v e (.slice a2 (i + 1) cc2)) (.slice a2 (i + 1) cc2) (by with_unfolding_all rfl) (by with_unfolding_all rfl) rfl Try.size1Tgs (KpT.get (KpT.tail HSa) (List.mem_cons_self ..)) (by simp [rtw]) (by with_unfolding_all rfl) ?_; intro wz hAz hBz hFz hSz; have HSz := KpT.put (KpT.tail HSa) (apartG zGA) hAz (rtw_ne _ _ _) (Only.set hBz hFz hSz)))
        go_roundw
        case rel => exact ⟨i + 1, c3, _, l1 ++ [⟨xn, xi, xs⟩], by go_num, by omega, hl4, by show _ = _; rw [List.length_append, HLn.out]; rfl, HWn, HRn, HSz⟩
        case measure => simp [intOf]; omega
  · as_aux_lemma =>
    rewrite [if_pos (wanted_free rfl)]
    with_reducible refine wp_allocV 44 (by with_unfolding_all rfl) (rtv 0 0 none 0 0) Try.infoTsz ?_
    intro Wa hAWa hBWa
    have HKWa := KpM.new HKW hAWa rtv_ne0 hBWa
    refine hK.out _ _ trivial (fun _ => ?_)
    clear hK K
    try simp only [Act.put, List.setIfInBounds_toArray, List.set_cons_zero, List.set_cons_succ]
    refine wpAnyH_ready (rs := [3]) (by kernel_rfl) (by simp) (AllReadyH.cons (o := ⟨_, _, _, _, _, _⟩) rfl (fun K hK => ?_) AllReadyH.nil)
    rewrite [if_pos (wanted_free rfl)]
    go_simp
    refine (numYes g p b1 t v Wa hs hn1 (KpM.rowH HKWa)).mono ?_
    rintro e Wac ⟨rfl, hRWac, hOWac⟩
    have HKWac := KpM.read HKWa hRWac (cuv_ne _ _) hOWac
    go_wp2_with fail
    refine hK.out _ _ trivial (fun _ => ?_)
    clear hK K
    try simp only [Act.put, List.setIfInBounds_toArray, List.set_cons_zero, List.set_cons_succ]
    refine wpAnyH_ready (rs := [7]) (by kernel_rfl) (by simp) (AllReadyH.cons (o := ⟨_, _, _, _, _, _⟩) rfl (fun K hK => ?_) AllReadyH.nil)
    rewrite [if_pos (wanted_free rfl)]
    go_simp
    refine (numYes g b1 b2 t e Wac hs hn2 (KpM.rowH HKWac)).mono ?_
    rintro e Wacc ⟨rfl, hRWacc, hOWacc⟩
    have HKWacc := KpM.read HKWac hRWacc (cuv_ne _ _) hOWacc
    go_wp2_with fail
    refine hK.out _ _ trivial (fun _ => ?_)
    clear hK K
    try simp only [Act.put, List.setIfInBounds_toArray, List.set_cons_zero, List.set_cons_succ]
    refine wpAnyH_take (i := 8) (oi := ⟨_, _, _, _, _, _⟩) (v := .agg #[.int .i64 v, .int .i64 e, .slice none 0 0]) rfl (by kernel_rfl) (by kernel_rfl) (by kernel_rfl) (fun _ _ _ h => h) (Or.inl ⟨wanted_free rfl, fun w' hSw => ?_⟩) trivial ?_
    · go_simp
    try simp only [Act.put, List.setIfInBounds_toArray, List.set_cons_zero, List.set_cons_succ]
    refine wpAnyH_ready (rs := [10]) (by kernel_rfl) (by simp) (AllReadyH.cons (o := ⟨_, _, _, _, _, _⟩) rfl (fun K hK => ?_) AllReadyH.nil)
    rewrite [if_pos (wanted_free rfl)]
    with_reducible refine wp_storeV 44 (.tmp 3) (.tmp 13) (by with_unfolding_all rfl) W.heap.size (rtv 0 0 none 0 0) (rtv v e none 0 0) (by with_unfolding_all rfl) (by with_unfolding_all rfl) (KpM.get HKWacc (List.mem_cons_self ..)) 3 Try.sizeTs (by with_unfolding_all rfl) (by with_unfolding_all rfl) (rtv_one _ _ _ _ _) ?_
    intro wf hAf hOf
    have HKf := KpM.put HKWacc (one_apart (KpM.apartN HKW)) hAf rtv_neA hOf
    have zGA := KpM.apartN HKW
    refine hK.out _ _ trivial (fun _ => ?_)
    clear hK K
    refine wpAnyH_done (by kernel_rfl) ?_ _
    generalize W.heap.size = GA at *
    clear HKW HKWa HKWac HKWacc
    have HS0 := KpT.start HKf
    clear HKf
    go_wp2_with (first
      | (go_at_call 77; refine (countYes g b2 b3 20 k t wf hs ⟨hc, hb2⟩ (KpT.rowH HS0)).mono ?_; rintro e2 wg ⟨rfl, hRg, hOg⟩; have HS1 := KpT.read HS0 hRg (cuv_ne _ _) hOg))
    clear HS0 hRg hOg
    go_loopw [18] (fun vi wr => ∃ (i p' : Nat) (val : Value) (l1 : List TarV), vi = .int .i64 (i : Int) ∧ i ≤ k ∧ p' ≤ t.size ∧ Hid (l1.length = i) ∧ Hid (∀ y ∈ l1, y.w) ∧ Hid (R = restT t v e l1 (k - i) p') ∧ Hid (KpT g (cuv t p') [(GA, rtw v e val), (w.heap.size, rtv 0 0 none 0 0)] val l1 w wr)) (fun vi _ => k - (intOf vi).toNat)
    case atStart => exact ⟨0, b3, .slice none 0 0, [], rfl, Nat.zero_le _, hb3, rfl, fun y hy => (by cases hy), HF, HS1⟩
    case round =>
    clear HS1
    obtain ⟨i, p', val, l1, rfl, hi, hpp, HLn, HWl, HRr, HS⟩ := hrel
    by_cases hlt : i < k
    case neg =>
      obtain rfl : i = k := by omega
      have HRe : Hid (R = if targetsB v e l1 then some (v, e, l1, p') else none) := by show _ = _; rw [HRr.out, Nat.sub_self, restT_end]
      have hat0 := OwnTg.form HS.out.own
      obtain ⟨a, c, rfl, hat⟩ := hat0
      have hatW : TgsAt wr.drew a l1 := hat
      have hTg : ∀ w0, TgsAt w0 a l1 → Calls Try.prog 96 #[.agg #[.int .i64 v, .int .i64 e, .slice a l1.length c]] w0 fun r w' => r = .returned (.bool (targetsB v e l1)) ∧ Below w0.heap.size w0 w' := fun w0 h0 => implTargetsR v e a c _ l1 w0 rfl h0 (by have := HLn.out; unfold maxLen; omega) HWl.out
      clear hat
      obtain ⟨n, hnn⟩ : ∃ n, l1.length = n := ⟨_, rfl⟩
      have HNn : Hid (l1.length = n) := hnn
      rw [hnn] at hTg HS
      clear hnn
      cases hb : targetsB v e l1 with
      | false =>
        as_aux_lemma =>
        have HNo : Hid (R = none) := by show _ = _; rw [HRe.out, hb]; rfl
        rw [hb] at hTg
        clear HRe HRr
        go_wp2_with fail
        refine wp_region_held_drew (S := fun w' => w'.cell? ⟨GA, 0, none⟩ = some (.int .i64 v) ∧ w'.cell? ⟨GA, 1, none⟩ = some (.int .i64 e) ∧ w'.cell? ⟨GA, 2, none⟩ = some (.slice a n c)) (by kernel_rfl) (celT (KpT.drew HS)) (fun hHeld => ?_)
        refine wpAnyH_take (i := 0) (oi := ⟨_, _, _, _, _, _⟩) (v := .pointer (some ⟨g, 0, none⟩)) rfl (by kernel_rfl) (by kernel_rfl) (by kernel_rfl) (fun _ _ _ h => h) (Or.inl ⟨wanted_free rfl, fun w' hSw => ?_⟩) hHeld ?_
        · obtain ⟨s0, s1, s2⟩ := hSw
          go_simp
        try simp only [Act.put, List.setIfInBounds_toArray, List.set_cons_zero, List.set_cons_succ]
        refine wpAnyH_take (i := 1) (oi := ⟨_, _, _, _, _, _⟩) (v := .pointer (some ⟨g, 0, none⟩)) rfl (by kernel_rfl) (by kernel_rfl) (by kernel_rfl) (fun _ _ _ h => h) (Or.inl ⟨wanted_free rfl, fun w' hSw => ?_⟩) hHeld ?_
        · obtain ⟨s0, s1, s2⟩ := hSw
          go_simp
        try simp only [Act.put, List.setIfInBounds_toArray, List.set_cons_zero, List.set_cons_succ]
        refine wpAnyH_take (i := 2) (oi := ⟨_, _, _, _, _, _⟩) (v := .pointer (some ⟨g, 0, none⟩)) rfl (by kernel_rfl) (by kernel_rfl) (by kernel_rfl) (fun _ _ _ h => h) (Or.inl ⟨wanted_free rfl, fun w' hSw => ?_⟩) hHeld ?_
        · obtain ⟨s0, s1, s2⟩ := hSw
          go_simp
        try simp only [Act.put, List.setIfInBounds_toArray, List.set_cons_zero, List.set_cons_succ]
        refine wpAnyH_take (i := 3) (oi := ⟨_, _, _, _, _, _⟩) (v := .agg #[.int .i64 v, .int .i64 e, .slice a n c]) rfl (by kernel_rfl) (by kernel_rfl) (by kernel_rfl) (fun _ _ _ h => h) (Or.inl ⟨wanted_free rfl, fun w' hSw => ?_⟩) hHeld ?_
        · obtain ⟨s0, s1, s2⟩ := hSw
          go_simp
        try simp only [Act.put, List.setIfInBounds_toArray, List.set_cons_zero, List.set_cons_succ]
        have HSW := KpT.drew HS
        generalize wr.drew = W at *
        clear HS
        refine wpAnyH_ready (rs := [4]) (by kernel_rfl) (by simp) (AllReadyH.cons (o := ⟨_, _, _, _, _, _⟩) rfl (fun K hK => ?_) AllReadyH.nil)
        rewrite [if_pos (wanted_free rfl)]
        go_simp
        refine (hTg W hatW).mono ?_
        rintro r wh ⟨rfl, hBh⟩
        have HSh := KpT.call HSW hBh
        go_wp2_with fail
        refine hK.out _ _ (celT HSh) (fun hHeld => ?_)
        clear hK K
        try simp only [Act.put, List.setIfInBounds_toArray, List.set_cons_zero, List.set_cons_succ]
        refine wpAnyH_ready (rs := [5]) (by kernel_rfl) (by simp) (AllReadyH.cons (o := ⟨_, _, _, _, _, _⟩) rfl (fun K hK => ?_) AllReadyH.nil)
        rewrite [if_pos (wanted_free rfl)]
        go_simp
        refine (mustNo _ wh).mono ?_
        rintro r w' ⟨rfl, rfl⟩
        exact ⟨rfl, Or.inr ⟨HNo.out, rfl, HSh.out.km.only⟩⟩
      | true =>
        as_aux_lemma =>
        have HYes : Hid (R = some (v, e, l1, p')) := by show _ = _; rw [HRe.out, hb]; rfl
        rw [hb] at hTg
        clear HRe HRr
        go_wp2_with fail
        refine wp_region_held_drew (S := fun w' => w'.cell? ⟨GA, 0, none⟩ = some (.int .i64 v) ∧ w'.cell? ⟨GA, 1, none⟩ = some (.int .i64 e) ∧ w'.cell? ⟨GA, 2, none⟩ = some (.slice a n c)) (by kernel_rfl) (celT (KpT.drew HS)) (fun hHeld => ?_)
        refine wpAnyH_take (i := 0) (oi := ⟨_, _, _, _, _, _⟩) (v := .pointer (some ⟨g, 0, none⟩)) rfl (by kernel_rfl) (by kernel_rfl) (by kernel_rfl) (fun _ _ _ h => h) (Or.inl ⟨wanted_free rfl, fun w' hSw => ?_⟩) hHeld ?_
        · obtain ⟨s0, s1, s2⟩ := hSw
          go_simp
        try simp only [Act.put, List.setIfInBounds_toArray, List.set_cons_zero, List.set_cons_succ]
        refine wpAnyH_take (i := 1) (oi := ⟨_, _, _, _, _, _⟩) (v := .pointer (some ⟨g, 0, none⟩)) rfl (by kernel_rfl) (by kernel_rfl) (by kernel_rfl) (fun _ _ _ h => h) (Or.inl ⟨wanted_free rfl, fun w' hSw => ?_⟩) hHeld ?_
        · obtain ⟨s0, s1, s2⟩ := hSw
          go_simp
        try simp only [Act.put, List.setIfInBounds_toArray, List.set_cons_zero, List.set_cons_succ]
        refine wpAnyH_take (i := 2) (oi := ⟨_, _, _, _, _, _⟩) (v := .pointer (some ⟨g, 0, none⟩)) rfl (by kernel_rfl) (by kernel_rfl) (by kernel_rfl) (fun _ _ _ h => h) (Or.inl ⟨wanted_free rfl, fun w' hSw => ?_⟩) hHeld ?_
        · obtain ⟨s0, s1, s2⟩ := hSw
          go_simp
        try simp only [Act.put, List.setIfInBounds_toArray, List.set_cons_zero, List.set_cons_succ]
        refine wpAnyH_take (i := 3) (oi := ⟨_, _, _, _, _, _⟩) (v := .agg #[.int .i64 v, .int .i64 e, .slice a n c]) rfl (by kernel_rfl) (by kernel_rfl) (by kernel_rfl) (fun _ _ _ h => h) (Or.inl ⟨wanted_free rfl, fun w' hSw => ?_⟩) hHeld ?_
        · obtain ⟨s0, s1, s2⟩ := hSw
          go_simp
        try simp only [Act.put, List.setIfInBounds_toArray, List.set_cons_zero, List.set_cons_succ]
        have HSW := KpT.drew HS
        generalize wr.drew = W at *
        clear HS
        refine wpAnyH_ready (rs := [4]) (by kernel_rfl) (by simp) (AllReadyH.cons (o := ⟨_, _, _, _, _, _⟩) rfl (fun K hK => ?_) AllReadyH.nil)
        rewrite [if_pos (wanted_free rfl)]
        go_simp
        refine (hTg W hatW).mono ?_
        rintro r wh ⟨rfl, hBh⟩
        have HSh := KpT.call HSW hBh
        go_wp2_with fail
        refine hK.out _ _ (celT HSh) (fun hHeld => ?_)
        clear hK K
        try simp only [Act.put, List.setIfInBounds_toArray, List.set_cons_zero, List.set_cons_succ]
        refine wpAnyH_ready (rs := [5]) (by kernel_rfl) (by simp) (AllReadyH.cons (o := ⟨_, _, _, _, _, _⟩) rfl (fun K hK => ?_) AllReadyH.nil)
        rewrite [if_pos (wanted_free rfl)]
        go_simp
        refine (mustYes _ wh).mono ?_
        rintro r w' ⟨rfl, rfl⟩
        go_wp2_with fail
        refine hK.out _ _ (celT HSh) (fun hHeld => ?_)
        clear hK K
        try simp only [Act.put, List.setIfInBounds_toArray, List.set_cons_zero, List.set_cons_succ]
        refine wpAnyH_done (by kernel_rfl) ?_ _
        clear hHeld HSW
        have R3 : RowV wh GA (rtv v e a n c) := KpT.get HSh (List.mem_cons_self ..)
        have R2 : RowV wh w.heap.size (rtv 0 0 none 0 0) := KpT.get HSh (List.mem_cons_of_mem _ (List.mem_cons_self ..))
        go_wp2_with (first
          | (with_reducible refine wpList_loadV (w := wh) (by with_unfolding_all rfl) 44 (.tmp 3) (by with_unfolding_all rfl) GA (rtv v e a n c) (by with_unfolding_all rfl) R3 Try.undTs 3 Try.sizeTs (by with_unfolding_all rfl) ?_)
          | (with_reducible refine wpList_storeH (w := wh) (by with_unfolding_all rfl) 44 (.tmp 2) (.tmp 46) (by with_unfolding_all rfl) w.heap.size (rtv 0 0 none 0 0) (rtv v e a n c) (by with_unfolding_all rfl) (by with_unfolding_all rfl) R2 3 Try.sizeTs (by with_unfolding_all rfl) (by with_unfolding_all rfl) (rtv_one _ _ _ _ _) ?_; intro wz hAz hBz hFz hSz; have HE := KpT.done HSh (Only.set hBz hFz hSz)))
        exact bodyPost_ret (results_V (t := 44) rfl _ w.heap.size _ rfl hAz Try.undTs 3 Try.sizeTs rfl) rfl (Or.inl ⟨v, e, l1, p', .slice a n c, HYes.out, rfl, HE.1, HE.2.1, HE.2.2⟩)
    obtain ⟨m, hm⟩ : ∃ m, k - i = m + 1 := ⟨k - i - 1, by omega⟩
    have hm2 : k - (i + 1) = m := by omega
    have hl1000 : l1.length ≤ 1000 := by have := HLn.out; omega
    have li : (i : Int) < k := by omega
    cases hq1 : textO t p' with
    | none =>
      as_aux_lemma =>
      have hn1 := hq1
      have hl1 := hpp
      have HNo : Hid (R = none) := by show _ = _; rw [HRr.out, hm, restT_no1 hq1]
      clear hq1 HRr
      go_wp2_with fail
      refine wp_region_held_drew (S := fun _ => True) (by kernel_rfl) trivial (fun _ => ?_)
      refine wpAnyH_take (i := 0) (oi := ⟨_, _, _, _, _, _⟩) (v := .pointer (some ⟨g, 0, none⟩)) rfl (by kernel_rfl) (by kernel_rfl) (by kernel_rfl) (fun _ _ _ h => h) (Or.inl ⟨wanted_free rfl, fun w' hSw => ?_⟩) trivial ?_
      · go_simp
      try simp only [Act.put, List.setIfInBounds_toArray, List.set_cons_zero, List.set_cons_succ]
      refine wpAnyH_take (i := 1) (oi := ⟨_, _, _, _, _, _⟩) (v := .pointer (some ⟨g, 0, none⟩)) rfl (by kernel_rfl) (by kernel_rfl) (by kernel_rfl) (fun _ _ _ h => h) (Or.inl ⟨wanted_free rfl, fun w' hSw => ?_⟩) trivial ?_
      · go_simp
      try simp only [Act.put, List.setIfInBounds_toArray, List.set_cons_zero, List.set_cons_succ]
      refine wpAnyH_take (i := 2) (oi := ⟨_, _, _, _, _, _⟩) (v := .pointer (some ⟨g, 0, none⟩)) rfl (by kernel_rfl) (by kernel_rfl) (by kernel_rfl) (fun _ _ _ h => h) (Or.inl ⟨wanted_free rfl, fun w' hSw => ?_⟩) trivial ?_
      · go_simp
      try simp only [Act.put, List.setIfInBounds_toArray, List.set_cons_zero, List.set_cons_succ]
      refine wpAnyH_take (i := 4) (oi := ⟨_, _, _, _, _, _⟩) (v := .pointer (some ⟨g, 0, none⟩)) rfl (by kernel_rfl) (by kernel_rfl) (by kernel_rfl) (fun _ _ _ h => h) (Or.inl ⟨wanted_free rfl, fun w' hSw => ?_⟩) trivial ?_
      · go_simp
      try simp only [Act.put, List.setIfInBounds_toArray, List.set_cons_zero, List.set_cons_succ]
      refine wpAnyH_take (i := 5) (oi := ⟨_, _, _, _, _, _⟩) (v := .pointer (some ⟨g, 0, none⟩)) rfl (by kernel_rfl) (by kernel_rfl) (by kernel_rfl) (fun _ _ _ h => h) (Or.inl ⟨wanted_free rfl, fun w' hSw => ?_⟩) trivial ?_
      · go_simp
      try simp only [Act.put, List.setIfInBounds_toArray, List.set_cons_zero, List.set_cons_succ]
      refine wpAnyH_take (i := 6) (oi := ⟨_, _, _, _, _, _⟩) (v := .pointer (some ⟨g, 0, none⟩)) rfl (by kernel_rfl) (by kernel_rfl) (by kernel_rfl) (fun _ _ _ h => h) (Or.inl ⟨wanted_free rfl, fun w' hSw => ?_⟩) trivial ?_
      · go_simp
      try simp only [Act.put, List.setIfInBounds_toArray, List.set_cons_zero, List.set_cons_succ]
      refine wpAnyH_take (i := 8) (oi := ⟨_, _, _, _, _, _⟩) (v := .pointer (some ⟨g, 0, none⟩)) rfl (by kernel_rfl) (by kernel_rfl) (by kernel_rfl) (fun _ _ _ h => h) (Or.inl ⟨wanted_free rfl, fun w' hSw => ?_⟩) trivial ?_
      · go_simp
      try simp only [Act.put, List.setIfInBounds_toArray, List.set_cons_zero, List.set_cons_succ]
      refine wpAnyH_take (i := 9) (oi := ⟨_, _, _, _, _, _⟩) (v := .pointer (some ⟨g, 0, none⟩)) rfl (by kernel_rfl) (by kernel_rfl) (by kernel_rfl) (fun _ _ _ h => h) (Or.inl ⟨wanted_free rfl, fun w' hSw => ?_⟩) trivial ?_
      · go_simp
      try simp only [Act.put, List.setIfInBounds_toArray, List.set_cons_zero, List.set_cons_succ]
      refine wpAnyH_take (i := 10) (oi := ⟨_, _, _, _, _, _⟩) (v := .pointer (some ⟨g, 0, none⟩)) rfl (by kernel_rfl) (by kernel_rfl) (by kernel_rfl) (fun _ _ _ h => h) (Or.inl ⟨wanted_free rfl, fun w' hSw => ?_⟩) trivial ?_
      · go_simp
      try simp only [Act.put, List.setIfInBounds_toArray, List.set_cons_zero, List.set_cons_succ]
      have HSW := KpT.drew HS
      generalize wr.drew = W at *
      clear HS
      refine wpAnyH_ready (rs := [3, 13]) (by kernel_rfl) (by simp) (AllReadyH.cons (o := ⟨_, _, _, _, _, _⟩) rfl (fun K hK => ?_) (AllReadyH.cons (o := ⟨_, _, _, _, _, _⟩) rfl (fun K hK => ?_) AllReadyH.nil))
      · as_aux_lemma =>
        rewrite [if_pos (wanted_free rfl)]
        go_simp
        refine (textNo g p' t W hs hn1 hl1 (KpT.rowH HSW)).mono ?_
        rintro e2 Wc ⟨rfl, hOWc⟩
        exact ⟨rfl, Or.inr ⟨HNo.out, rfl, HSW.out.km.only.trans hOWc⟩⟩
      · as_aux_lemma =>
        rewrite [if_pos (wanted_free rfl)]
        with_reducible refine wp_allocV 122 (by with_unfolding_all rfl) (tgv ⟨#[]⟩ ⟨#[]⟩ 0) Try.infoTg ?_
        intro Wa hAWa hBWa
        have HSWa := KpT.new HSW hAWa (tgv_ne _ _ _) hBWa
        refine hK.out _ _ trivial (fun _ => ?_)
        clear hK K
        try simp only [Act.put, List.setIfInBounds_toArray, List.set_cons_zero, List.set_cons_succ]
        refine wpAnyH_ready (rs := [3]) (by kernel_rfl) (by simp) (AllReadyH.cons (o := ⟨_, _, _, _, _, _⟩) rfl (fun K hK => ?_) AllReadyH.nil)
        rewrite [if_pos (wanted_free rfl)]
        go_simp
        refine (textNo g p' t Wa hs hn1 hl1 (KpT.rowH HSWa)).mono ?_
        rintro e2 Wac ⟨rfl, hOWac⟩
        exact ⟨rfl, Or.inr ⟨HNo.out, rfl, HSWa.out.km.only.trans hOWac⟩⟩
    | some y1 =>
    obtain ⟨xn, c1⟩ := y1
    have hl2 : c1 ≤ t.size := (textO_some hq1).2.1
    have hn1 : textO t p' = some (xn, c1) ∧ p' ≤ t.size := ⟨hq1, hpp⟩
    cases hq2 : bytesO t c1 32 with
    | none =>
      as_aux_lemma =>
      have hn2 : t.size < c1 + 32 := bytesO_no hq2
      have HNo : Hid (R = none) := by show _ = _; rw [HRr.out, hm, restT_no2 hq1 hq2]
      clear hq1 hq2 HRr
      go_wp2_with fail
      refine wp_region_held_drew (S := fun _ => True) (by kernel_rfl) trivial (fun _ => ?_)
      refine wpAnyH_take (i := 0) (oi := ⟨_, _, _, _, _, _⟩) (v := .pointer (some ⟨g, 0, none⟩)) rfl (by kernel_rfl) (by kernel_rfl) (by kernel_rfl) (fun _ _ _ h => h) (Or.inl ⟨wanted_free rfl, fun w' hSw => ?_⟩) trivial ?_
      · go_simp
      try simp only [Act.put, List.setIfInBounds_toArray, List.set_cons_zero, List.set_cons_succ]
      refine wpAnyH_take (i := 1) (oi := ⟨_, _, _, _, _, _⟩) (v := .pointer (some ⟨g, 0, none⟩)) rfl (by kernel_rfl) (by kernel_rfl) (by kernel_rfl) (fun _ _ _ h => h) (Or.inl ⟨wanted_free rfl, fun w' hSw => ?_⟩) trivial ?_
      · go_simp
      try simp only [Act.put, List.setIfInBounds_toArray, List.set_cons_zero, List.set_cons_succ]
      refine wpAnyH_take (i := 2) (oi := ⟨_, _, _, _, _, _⟩) (v := .pointer (some ⟨g, 0, none⟩)) rfl (by kernel_rfl) (by kernel_rfl) (by kernel_rfl) (fun _ _ _ h => h) (Or.inl ⟨wanted_free rfl, fun w' hSw => ?_⟩) trivial ?_
      · go_simp
      try simp only [Act.put, List.setIfInBounds_toArray, List.set_cons_zero, List.set_cons_succ]
      refine wpAnyH_take (i := 4) (oi := ⟨_, _, _, _, _, _⟩) (v := .pointer (some ⟨g, 0, none⟩)) rfl (by kernel_rfl) (by kernel_rfl) (by kernel_rfl) (fun _ _ _ h => h) (Or.inl ⟨wanted_free rfl, fun w' hSw => ?_⟩) trivial ?_
      · go_simp
      try simp only [Act.put, List.setIfInBounds_toArray, List.set_cons_zero, List.set_cons_succ]
      refine wpAnyH_take (i := 5) (oi := ⟨_, _, _, _, _, _⟩) (v := .pointer (some ⟨g, 0, none⟩)) rfl (by kernel_rfl) (by kernel_rfl) (by kernel_rfl) (fun _ _ _ h => h) (Or.inl ⟨wanted_free rfl, fun w' hSw => ?_⟩) trivial ?_
      · go_simp
      try simp only [Act.put, List.setIfInBounds_toArray, List.set_cons_zero, List.set_cons_succ]
      refine wpAnyH_take (i := 6) (oi := ⟨_, _, _, _, _, _⟩) (v := .pointer (some ⟨g, 0, none⟩)) rfl (by kernel_rfl) (by kernel_rfl) (by kernel_rfl) (fun _ _ _ h => h) (Or.inl ⟨wanted_free rfl, fun w' hSw => ?_⟩) trivial ?_
      · go_simp
      try simp only [Act.put, List.setIfInBounds_toArray, List.set_cons_zero, List.set_cons_succ]
      refine wpAnyH_take (i := 8) (oi := ⟨_, _, _, _, _, _⟩) (v := .pointer (some ⟨g, 0, none⟩)) rfl (by kernel_rfl) (by kernel_rfl) (by kernel_rfl) (fun _ _ _ h => h) (Or.inl ⟨wanted_free rfl, fun w' hSw => ?_⟩) trivial ?_
      · go_simp
      try simp only [Act.put, List.setIfInBounds_toArray, List.set_cons_zero, List.set_cons_succ]
      refine wpAnyH_take (i := 9) (oi := ⟨_, _, _, _, _, _⟩) (v := .pointer (some ⟨g, 0, none⟩)) rfl (by kernel_rfl) (by kernel_rfl) (by kernel_rfl) (fun _ _ _ h => h) (Or.inl ⟨wanted_free rfl, fun w' hSw => ?_⟩) trivial ?_
      · go_simp
      try simp only [Act.put, List.setIfInBounds_toArray, List.set_cons_zero, List.set_cons_succ]
      refine wpAnyH_take (i := 10) (oi := ⟨_, _, _, _, _, _⟩) (v := .pointer (some ⟨g, 0, none⟩)) rfl (by kernel_rfl) (by kernel_rfl) (by kernel_rfl) (fun _ _ _ h => h) (Or.inl ⟨wanted_free rfl, fun w' hSw => ?_⟩) trivial ?_
      · go_simp
      try simp only [Act.put, List.setIfInBounds_toArray, List.set_cons_zero, List.set_cons_succ]
      have HSW := KpT.drew HS
      generalize wr.drew = W at *
      clear HS
      refine wpAnyH_ready (rs := [3, 13]) (by kernel_rfl) (by simp) (AllReadyH.cons (o := ⟨_, _, _, _, _, _⟩) rfl (fun K hK => ?_) (AllReadyH.cons (o := ⟨_, _, _, _, _, _⟩) rfl (fun K hK => ?_) AllReadyH.nil))
      · as_aux_lemma =>
        rewrite [if_pos (wanted_free rfl)]
        go_simp
        refine (textYes g p' c1 t xn W hs hn1 (KpT.rowH HSW)).mono ?_
        rintro e2 Wc ⟨rfl, hRWc, hOWc⟩
        have HSWc := KpT.read HSW hRWc (cuv_ne _ _) hOWc
        go_wp2_with fail
        refine hK.out _ _ trivial (fun _ => ?_)
        clear hK K
        try simp only [Act.put, List.setIfInBounds_toArray, List.set_cons_zero, List.set_cons_succ]
        refine wpAnyH_ready (rs := [7, 13]) (by kernel_rfl) (by simp) (AllReadyH.cons (o := ⟨_, _, _, _, _, _⟩) rfl (fun K hK => ?_) (AllReadyH.cons (o := ⟨_, _, _, _, _, _⟩) rfl (fun K hK => ?_) AllReadyH.nil))
        · as_aux_lemma =>
          rewrite [if_pos (wanted_free rfl)]
          go_simp
          refine (bytesNo g c1 32 t Wc hs (by omega) hl2 hn2 (KpT.rowH HSWc)).mono ?_
          rintro e2 Wcc ⟨rfl, hOWcc⟩
          exact ⟨rfl, Or.inr ⟨HNo.out, rfl, HSWc.out.km.only.trans hOWcc⟩⟩
        · as_aux_lemma =>
          rewrite [if_pos (wanted_free rfl)]
          with_reducible refine wp_allocV 122 (by with_unfolding_all rfl) (tgv ⟨#[]⟩ ⟨#[]⟩ 0) Try.infoTg ?_
          intro Wca hAWca hBWca
          have HSWca := KpT.new HSWc hAWca (tgv_ne _ _ _) hBWca
          refine hK.out _ _ trivial (fun _ => ?_)
          clear hK K
          try simp only [Act.put, List.setIfInBounds_toArray, List.set_cons_zero, List.set_cons_succ]
          refine wpAnyH_ready (rs := [7]) (by kernel_rfl) (by simp) (AllReadyH.cons (o := ⟨_, _, _, _, _, _⟩) rfl (fun K hK => ?_) AllReadyH.nil)
          rewrite [if_pos (wanted_free rfl)]
          go_simp
          refine (bytesNo g c1 32 t Wca hs (by omega) hl2 hn2 (KpT.rowH HSWca)).mono ?_
          rintro e2 Wcac ⟨rfl, hOWcac⟩
          exact ⟨rfl, Or.inr ⟨HNo.out, rfl, HSWca.out.km.only.trans hOWcac⟩⟩
      · as_aux_lemma =>
        rewrite [if_pos (wanted_free rfl)]
        with_reducible refine wp_allocV 122 (by with_unfolding_all rfl) (tgv ⟨#[]⟩ ⟨#[]⟩ 0) Try.infoTg ?_
        intro Wa hAWa hBWa
        have HSWa := KpT.new HSW hAWa (tgv_ne _ _ _) hBWa
        refine hK.out _ _ trivial (fun _ => ?_)
        clear hK K
        try simp only [Act.put, List.setIfInBounds_toArray, List.set_cons_zero, List.set_cons_succ]
        refine wpAnyH_ready (rs := [3]) (by kernel_rfl) (by simp) (AllReadyH.cons (o := ⟨_, _, _, _, _, _⟩) rfl (fun K hK => ?_) AllReadyH.nil)
        rewrite [if_pos (wanted_free rfl)]
        go_simp
        refine (textYes g p' c1 t xn Wa hs hn1 (KpT.rowH HSWa)).mono ?_
        rintro e2 Wac ⟨rfl, hRWac, hOWac⟩
        have HSWac := KpT.read HSWa hRWac (cuv_ne _ _) hOWac
        go_wp2_with fail
        refine hK.out _ _ trivial (fun _ => ?_)
        clear hK K
        try simp only [Act.put, List.setIfInBounds_toArray, List.set_cons_zero, List.set_cons_succ]
        refine wpAnyH_ready (rs := [7]) (by kernel_rfl) (by simp) (AllReadyH.cons (o := ⟨_, _, _, _, _, _⟩) rfl (fun K hK => ?_) AllReadyH.nil)
        rewrite [if_pos (wanted_free rfl)]
        go_simp
        refine (bytesNo g c1 32 t Wac hs (by omega) hl2 hn2 (KpT.rowH HSWac)).mono ?_
        rintro e2 Wacc ⟨rfl, hOWacc⟩
        exact ⟨rfl, Or.inr ⟨HNo.out, rfl, HSWac.out.km.only.trans hOWacc⟩⟩
    | some y2 =>
    obtain ⟨xi, c2⟩ := y2
    obtain ⟨hxi, hc2, hl3⟩ := bytesO_yes hq2
    have hBy : ∀ w0, RowV w0 g (cuv t c1) → Calls Try.prog 95 #[.pointer (some ⟨g, 0, none⟩), .int .i64 32] w0 fun e w' => e = .returned (.string xi) ∧ RowV w' g (cuv t c2) ∧ Only g w0 w' := fun w0 h0 => by rw [hxi]; exact bytesYes g c1 32 c2 t w0 hs hc2 hl3 h0
    cases hq3 : numO t c2 with
    | none =>
      as_aux_lemma =>
      have hn3 := hq3
      have HNo : Hid (R = none) := by show _ = _; rw [HRr.out, hm, restT_no3 hq1 hq2 hq3]
      clear hq1 hq2 hq3 HRr hxi
      go_wp2_with fail
      refine wp_region_held_drew (S := fun _ => True) (by kernel_rfl) trivial (fun _ => ?_)
      refine wpAnyH_take (i := 0) (oi := ⟨_, _, _, _, _, _⟩) (v := .pointer (some ⟨g, 0, none⟩)) rfl (by kernel_rfl) (by kernel_rfl) (by kernel_rfl) (fun _ _ _ h => h) (Or.inl ⟨wanted_free rfl, fun w' hSw => ?_⟩) trivial ?_
      · go_simp
      try simp only [Act.put, List.setIfInBounds_toArray, List.set_cons_zero, List.set_cons_succ]
      refine wpAnyH_take (i := 1) (oi := ⟨_, _, _, _, _, _⟩) (v := .pointer (some ⟨g, 0, none⟩)) rfl (by kernel_rfl) (by kernel_rfl) (by kernel_rfl) (fun _ _ _ h => h) (Or.inl ⟨wanted_free rfl, fun w' hSw => ?_⟩) trivial ?_
      · go_simp
      try simp only [Act.put, List.setIfInBounds_toArray, List.set_cons_zero, List.set_cons_succ]
      refine wpAnyH_take (i := 2) (oi := ⟨_, _, _, _, _, _⟩) (v := .pointer (some ⟨g, 0, none⟩)) rfl (by kernel_rfl) (by kernel_rfl) (by kernel_rfl) (fun _ _ _ h => h) (Or.inl ⟨wanted_free rfl, fun w' hSw => ?_⟩) trivial ?_
      · go_simp
      try simp only [Act.put, List.setIfInBounds_toArray, List.set_cons_zero, List.set_cons_succ]
      refine wpAnyH_take (i := 4) (oi := ⟨_, _, _, _, _, _⟩) (v := .pointer (some ⟨g, 0, none⟩)) rfl (by kernel_rfl) (by kernel_rfl) (by kernel_rfl) (fun _ _ _ h => h) (Or.inl ⟨wanted_free rfl, fun w' hSw => ?_⟩) trivial ?_
      · go_simp
      try simp only [Act.put, List.setIfInBounds_toArray, List.set_cons_zero, List.set_cons_succ]
      refine wpAnyH_take (i := 5) (oi := ⟨_, _, _, _, _, _⟩) (v := .pointer (some ⟨g, 0, none⟩)) rfl (by kernel_rfl) (by kernel_rfl) (by kernel_rfl) (fun _ _ _ h => h) (Or.inl ⟨wanted_free rfl, fun w' hSw => ?_⟩) trivial ?_
      · go_simp
      try simp only [Act.put, List.setIfInBounds_toArray, List.set_cons_zero, List.set_cons_succ]
      refine wpAnyH_take (i := 6) (oi := ⟨_, _, _, _, _, _⟩) (v := .pointer (some ⟨g, 0, none⟩)) rfl (by kernel_rfl) (by kernel_rfl) (by kernel_rfl) (fun _ _ _ h => h) (Or.inl ⟨wanted_free rfl, fun w' hSw => ?_⟩) trivial ?_
      · go_simp
      try simp only [Act.put, List.setIfInBounds_toArray, List.set_cons_zero, List.set_cons_succ]
      refine wpAnyH_take (i := 8) (oi := ⟨_, _, _, _, _, _⟩) (v := .pointer (some ⟨g, 0, none⟩)) rfl (by kernel_rfl) (by kernel_rfl) (by kernel_rfl) (fun _ _ _ h => h) (Or.inl ⟨wanted_free rfl, fun w' hSw => ?_⟩) trivial ?_
      · go_simp
      try simp only [Act.put, List.setIfInBounds_toArray, List.set_cons_zero, List.set_cons_succ]
      refine wpAnyH_take (i := 9) (oi := ⟨_, _, _, _, _, _⟩) (v := .pointer (some ⟨g, 0, none⟩)) rfl (by kernel_rfl) (by kernel_rfl) (by kernel_rfl) (fun _ _ _ h => h) (Or.inl ⟨wanted_free rfl, fun w' hSw => ?_⟩) trivial ?_
      · go_simp
      try simp only [Act.put, List.setIfInBounds_toArray, List.set_cons_zero, List.set_cons_succ]
      refine wpAnyH_take (i := 10) (oi := ⟨_, _, _, _, _, _⟩) (v := .pointer (some ⟨g, 0, none⟩)) rfl (by kernel_rfl) (by kernel_rfl) (by kernel_rfl) (fun _ _ _ h => h) (Or.inl ⟨wanted_free rfl, fun w' hSw => ?_⟩) trivial ?_
      · go_simp
      try simp only [Act.put, List.setIfInBounds_toArray, List.set_cons_zero, List.set_cons_succ]
      have HSW := KpT.drew HS
      generalize wr.drew = W at *
      clear HS
      refine wpAnyH_ready (rs := [3, 13]) (by kernel_rfl) (by simp) (AllReadyH.cons (o := ⟨_, _, _, _, _, _⟩) rfl (fun K hK => ?_) (AllReadyH.cons (o := ⟨_, _, _, _, _, _⟩) rfl (fun K hK => ?_) AllReadyH.nil))
      · as_aux_lemma =>
        rewrite [if_pos (wanted_free rfl)]
        go_simp
        refine (textYes g p' c1 t xn W hs hn1 (KpT.rowH HSW)).mono ?_
        rintro e2 Wc ⟨rfl, hRWc, hOWc⟩
        have HSWc := KpT.read HSW hRWc (cuv_ne _ _) hOWc
        go_wp2_with fail
        refine hK.out _ _ trivial (fun _ => ?_)
        clear hK K
        try simp only [Act.put, List.setIfInBounds_toArray, List.set_cons_zero, List.set_cons_succ]
        refine wpAnyH_ready (rs := [7, 13]) (by kernel_rfl) (by simp) (AllReadyH.cons (o := ⟨_, _, _, _, _, _⟩) rfl (fun K hK => ?_) (AllReadyH.cons (o := ⟨_, _, _, _, _, _⟩) rfl (fun K hK => ?_) AllReadyH.nil))
        · as_aux_lemma =>
          rewrite [if_pos (wanted_free rfl)]
          go_simp
          refine (hBy Wc (KpT.rowH HSWc)).mono ?_
          rintro e2 Wcc ⟨rfl, hRWcc, hOWcc⟩
          have HSWcc := KpT.read HSWc hRWcc (cuv_ne _ _) hOWcc
          go_wp2_with fail
          refine hK.out _ _ trivial (fun _ => ?_)
          clear hK K
          try simp only [Act.put, List.setIfInBounds_toArray, List.set_cons_zero, List.set_cons_succ]
          refine wpAnyH_ready (rs := [11, 13]) (by kernel_rfl) (by simp) (AllReadyH.cons (o := ⟨_, _, _, _, _, _⟩) rfl (fun K hK => ?_) (AllReadyH.cons (o := ⟨_, _, _, _, _, _⟩) rfl (fun K hK => ?_) AllReadyH.nil))
          · as_aux_lemma =>
            rewrite [if_pos (wanted_free rfl)]
            go_simp
            refine (numNo g c2 t Wcc hs hn3 hl3 (KpT.rowH HSWcc)).mono ?_
            rintro e2 Wccc ⟨rfl, hOWccc⟩
            exact ⟨rfl, Or.inr ⟨HNo.out, rfl, HSWcc.out.km.only.trans hOWccc⟩⟩
          · as_aux_lemma =>
            rewrite [if_pos (wanted_free rfl)]
            with_reducible refine wp_allocV 122 (by with_unfolding_all rfl) (tgv ⟨#[]⟩ ⟨#[]⟩ 0) Try.infoTg ?_
            intro Wcca hAWcca hBWcca
            have HSWcca := KpT.new HSWcc hAWcca (tgv_ne _ _ _) hBWcca
            refine hK.out _ _ trivial (fun _ => ?_)
            clear hK K
            try simp only [Act.put, List.setIfInBounds_toArray, List.set_cons_zero, List.set_cons_succ]
            refine wpAnyH_ready (rs := [11]) (by kernel_rfl) (by simp) (AllReadyH.cons (o := ⟨_, _, _, _, _, _⟩) rfl (fun K hK => ?_) AllReadyH.nil)
            rewrite [if_pos (wanted_free rfl)]
            go_simp
            refine (numNo g c2 t Wcca hs hn3 hl3 (KpT.rowH HSWcca)).mono ?_
            rintro e2 Wccac ⟨rfl, hOWccac⟩
            exact ⟨rfl, Or.inr ⟨HNo.out, rfl, HSWcca.out.km.only.trans hOWccac⟩⟩
        · as_aux_lemma =>
          rewrite [if_pos (wanted_free rfl)]
          with_reducible refine wp_allocV 122 (by with_unfolding_all rfl) (tgv ⟨#[]⟩ ⟨#[]⟩ 0) Try.infoTg ?_
          intro Wca hAWca hBWca
          have HSWca := KpT.new HSWc hAWca (tgv_ne _ _ _) hBWca
          refine hK.out _ _ trivial (fun _ => ?_)
          clear hK K
          try simp only [Act.put, List.setIfInBounds_toArray, List.set_cons_zero, List.set_cons_succ]
          refine wpAnyH_ready (rs := [7]) (by kernel_rfl) (by simp) (AllReadyH.cons (o := ⟨_, _, _, _, _, _⟩) rfl (fun K hK => ?_) AllReadyH.nil)
          rewrite [if_pos (wanted_free rfl)]
          go_simp
          refine (hBy Wca (KpT.rowH HSWca)).mono ?_
          rintro e2 Wcac ⟨rfl, hRWcac, hOWcac⟩
          have HSWcac := KpT.read HSWca hRWcac (cuv_ne _ _) hOWcac
          go_wp2_with fail
          refine hK.out _ _ trivial (fun _ => ?_)
          clear hK K
          try simp only [Act.put, List.setIfInBounds_toArray, List.set_cons_zero, List.set_cons_succ]
          refine wpAnyH_ready (rs := [11]) (by kernel_rfl) (by simp) (AllReadyH.cons (o := ⟨_, _, _, _, _, _⟩) rfl (fun K hK => ?_) AllReadyH.nil)
          rewrite [if_pos (wanted_free rfl)]
          go_simp
          refine (numNo g c2 t Wcac hs hn3 hl3 (KpT.rowH HSWcac)).mono ?_
          rintro e2 Wcacc ⟨rfl, hOWcacc⟩
          exact ⟨rfl, Or.inr ⟨HNo.out, rfl, HSWcac.out.km.only.trans hOWcacc⟩⟩
      · as_aux_lemma =>
        rewrite [if_pos (wanted_free rfl)]
        with_reducible refine wp_allocV 122 (by with_unfolding_all rfl) (tgv ⟨#[]⟩ ⟨#[]⟩ 0) Try.infoTg ?_
        intro Wa hAWa hBWa
        have HSWa := KpT.new HSW hAWa (tgv_ne _ _ _) hBWa
        refine hK.out _ _ trivial (fun _ => ?_)
        clear hK K
        try simp only [Act.put, List.setIfInBounds_toArray, List.set_cons_zero, List.set_cons_succ]
        refine wpAnyH_ready (rs := [3]) (by kernel_rfl) (by simp) (AllReadyH.cons (o := ⟨_, _, _, _, _, _⟩) rfl (fun K hK => ?_) AllReadyH.nil)
        rewrite [if_pos (wanted_free rfl)]
        go_simp
        refine (textYes g p' c1 t xn Wa hs hn1 (KpT.rowH HSWa)).mono ?_
        rintro e2 Wac ⟨rfl, hRWac, hOWac⟩
        have HSWac := KpT.read HSWa hRWac (cuv_ne _ _) hOWac
        go_wp2_with fail
        refine hK.out _ _ trivial (fun _ => ?_)
        clear hK K
        try simp only [Act.put, List.setIfInBounds_toArray, List.set_cons_zero, List.set_cons_succ]
        refine wpAnyH_ready (rs := [7]) (by kernel_rfl) (by simp) (AllReadyH.cons (o := ⟨_, _, _, _, _, _⟩) rfl (fun K hK => ?_) AllReadyH.nil)
        rewrite [if_pos (wanted_free rfl)]
        go_simp
        refine (hBy Wac (KpT.rowH HSWac)).mono ?_
        rintro e2 Wacc ⟨rfl, hRWacc, hOWacc⟩
        have HSWacc := KpT.read HSWac hRWacc (cuv_ne _ _) hOWacc
        go_wp2_with fail
        refine hK.out _ _ trivial (fun _ => ?_)
        clear hK K
        try simp only [Act.put, List.setIfInBounds_toArray, List.set_cons_zero, List.set_cons_succ]
        refine wpAnyH_ready (rs := [11]) (by kernel_rfl) (by simp) (AllReadyH.cons (o := ⟨_, _, _, _, _, _⟩) rfl (fun K hK => ?_) AllReadyH.nil)
        rewrite [if_pos (wanted_free rfl)]
        go_simp
        refine (numNo g c2 t Wacc hs hn3 hl3 (KpT.rowH HSWacc)).mono ?_
        rintro e2 Waccc ⟨rfl, hOWaccc⟩
        exact ⟨rfl, Or.inr ⟨HNo.out, rfl, HSWacc.out.km.only.trans hOWaccc⟩⟩
    | some y3 =>
    as_aux_lemma =>
    obtain ⟨xs, c3⟩ := y3
    have hn3 : numO t c2 = some (xs, c3) ∧ c2 ≤ t.size := ⟨hq3, hl3⟩
    have HRn : Hid (R = restT t v e (l1 ++ [⟨xn, xi, xs⟩]) (k - (i + 1)) c3) := by show _ = _; rw [HRr.out, hm, restT_step hq1 hq2 hq3, hm2]
    have HWn : Hid (∀ y ∈ l1 ++ [⟨xn, xi, xs⟩], TarV.w y) := fun y hy => by
      rcases List.mem_append.1 hy with hy | hy
      · exact HWl.out y hy
      · obtain rfl := List.mem_singleton.1 hy
        exact tarW hs hq1 hq2 hq3
    have hl4 : c3 ≤ t.size := (numO_some hq3).2.1
    clear hq1 hq2 hq3 HRr HWl hxi
    go_wp2_with fail
    refine wp_region_held_drew (S := fun _ => True) (by kernel_rfl) trivial (fun _ => ?_)
    refine wpAnyH_take (i := 0) (oi := ⟨_, _, _, _, _, _⟩) (v := .pointer (some ⟨g, 0, none⟩)) rfl (by kernel_rfl) (by kernel_rfl) (by kernel_rfl) (fun _ _ _ h => h) (Or.inl ⟨wanted_free rfl, fun w' hSw => ?_⟩) trivial ?_
    · go_simp
    try simp only [Act.put, List.setIfInBounds_toArray, List.set_cons_zero, List.set_cons_succ]
    refine wpAnyH_take (i := 1) (oi := ⟨_, _, _, _, _, _⟩) (v := .pointer (some ⟨g, 0, none⟩)) rfl (by kernel_rfl) (by kernel_rfl) (by kernel_rfl) (fun _ _ _ h => h) (Or.inl ⟨wanted_free rfl, fun w' hSw => ?_⟩) trivial ?_
    · go_simp
    try simp only [Act.put, List.setIfInBounds_toArray, List.set_cons_zero, List.set_cons_succ]
    refine wpAnyH_take (i := 2) (oi := ⟨_, _, _, _, _, _⟩) (v := .pointer (some ⟨g, 0, none⟩)) rfl (by kernel_rfl) (by kernel_rfl) (by kernel_rfl) (fun _ _ _ h => h) (Or.inl ⟨wanted_free rfl, fun w' hSw => ?_⟩) trivial ?_
    · go_simp
    try simp only [Act.put, List.setIfInBounds_toArray, List.set_cons_zero, List.set_cons_succ]
    refine wpAnyH_take (i := 4) (oi := ⟨_, _, _, _, _, _⟩) (v := .pointer (some ⟨g, 0, none⟩)) rfl (by kernel_rfl) (by kernel_rfl) (by kernel_rfl) (fun _ _ _ h => h) (Or.inl ⟨wanted_free rfl, fun w' hSw => ?_⟩) trivial ?_
    · go_simp
    try simp only [Act.put, List.setIfInBounds_toArray, List.set_cons_zero, List.set_cons_succ]
    refine wpAnyH_take (i := 5) (oi := ⟨_, _, _, _, _, _⟩) (v := .pointer (some ⟨g, 0, none⟩)) rfl (by kernel_rfl) (by kernel_rfl) (by kernel_rfl) (fun _ _ _ h => h) (Or.inl ⟨wanted_free rfl, fun w' hSw => ?_⟩) trivial ?_
    · go_simp
    try simp only [Act.put, List.setIfInBounds_toArray, List.set_cons_zero, List.set_cons_succ]
    refine wpAnyH_take (i := 6) (oi := ⟨_, _, _, _, _, _⟩) (v := .pointer (some ⟨g, 0, none⟩)) rfl (by kernel_rfl) (by kernel_rfl) (by kernel_rfl) (fun _ _ _ h => h) (Or.inl ⟨wanted_free rfl, fun w' hSw => ?_⟩) trivial ?_
    · go_simp
    try simp only [Act.put, List.setIfInBounds_toArray, List.set_cons_zero, List.set_cons_succ]
    refine wpAnyH_take (i := 8) (oi := ⟨_, _, _, _, _, _⟩) (v := .pointer (some ⟨g, 0, none⟩)) rfl (by kernel_rfl) (by kernel_rfl) (by kernel_rfl) (fun _ _ _ h => h) (Or.inl ⟨wanted_free rfl, fun w' hSw => ?_⟩) trivial ?_
    · go_simp
    try simp only [Act.put, List.setIfInBounds_toArray, List.set_cons_zero, List.set_cons_succ]
    refine wpAnyH_take (i := 9) (oi := ⟨_, _, _, _, _, _⟩) (v := .pointer (some ⟨g, 0, none⟩)) rfl (by kernel_rfl) (by kernel_rfl) (by kernel_rfl) (fun _ _ _ h => h) (Or.inl ⟨wanted_free rfl, fun w' hSw => ?_⟩) trivial ?_
    · go_simp
    try simp only [Act.put, List.setIfInBounds_toArray, List.set_cons_zero, List.set_cons_succ]
    refine wpAnyH_take (i := 10) (oi := ⟨_, _, _, _, _, _⟩) (v := .pointer (some ⟨g, 0, none⟩)) rfl (by kernel_rfl) (by kernel_rfl) (by kernel_rfl) (fun _ _ _ h => h) (Or.inl ⟨wanted_free rfl, fun w' hSw => ?_⟩) trivial ?_
    · go_simp
    try simp only [Act.put, List.setIfInBounds_toArray, List.set_cons_zero, List.set_cons_succ]
    have HSW := KpT.drew HS
    generalize wr.drew = W at *
    clear HS
    refine wpAnyH_ready (rs := [3, 13]) (by kernel_rfl) (by simp) (AllReadyH.cons (o := ⟨_, _, _, _, _, _⟩) rfl (fun K hK => ?_) (AllReadyH.cons (o := ⟨_, _, _, _, _, _⟩) rfl (fun K hK => ?_) AllReadyH.nil))
    · as_aux_lemma =>
      rewrite [if_pos (wanted_free rfl)]
      go_simp
      refine (textYes g p' c1 t xn W hs hn1 (KpT.rowH HSW)).mono ?_
      rintro e2 Wc ⟨rfl, hRWc, hOWc⟩
      have HSWc := KpT.read HSW hRWc (cuv_ne _ _) hOWc
      go_wp2_with fail
      refine hK.out _ _ trivial (fun _ => ?_)
      clear hK K
      try simp only [Act.put, List.setIfInBounds_toArray, List.set_cons_zero, List.set_cons_succ]
      refine wpAnyH_ready (rs := [7, 13]) (by kernel_rfl) (by simp) (AllReadyH.cons (o := ⟨_, _, _, _, _, _⟩) rfl (fun K hK => ?_) (AllReadyH.cons (o := ⟨_, _, _, _, _, _⟩) rfl (fun K hK => ?_) AllReadyH.nil))
      · as_aux_lemma =>
        rewrite [if_pos (wanted_free rfl)]
        go_simp
        refine (hBy Wc (KpT.rowH HSWc)).mono ?_
        rintro e2 Wcc ⟨rfl, hRWcc, hOWcc⟩
        have HSWcc := KpT.read HSWc hRWcc (cuv_ne _ _) hOWcc
        go_wp2_with fail
        refine hK.out _ _ trivial (fun _ => ?_)
        clear hK K
        try simp only [Act.put, List.setIfInBounds_toArray, List.set_cons_zero, List.set_cons_succ]
        refine wpAnyH_ready (rs := [11, 13]) (by kernel_rfl) (by simp) (AllReadyH.cons (o := ⟨_, _, _, _, _, _⟩) rfl (fun K hK => ?_) (AllReadyH.cons (o := ⟨_, _, _, _, _, _⟩) rfl (fun K hK => ?_) AllReadyH.nil))
        · as_aux_lemma =>
          rewrite [if_pos (wanted_free rfl)]
          go_simp
          refine (numYes g c2 c3 t xs Wcc hs hn3 (KpT.rowH HSWcc)).mono ?_
          rintro e2 Wccc ⟨rfl, hRWccc, hOWccc⟩
          have HSWccc := KpT.read HSWcc hRWccc (cuv_ne _ _) hOWccc
          go_wp2_with fail
          refine hK.out _ _ trivial (fun _ => ?_)
          clear hK K
          try simp only [Act.put, List.setIfInBounds_toArray, List.set_cons_zero, List.set_cons_succ]
          refine wpAnyH_take (i := 12) (oi := ⟨_, _, _, _, _, _⟩) (v := .agg #[.string xn, .string xi, .int .i64 xs]) rfl (by kernel_rfl) (by kernel_rfl) (by kernel_rfl) (fun _ _ _ h => h) (Or.inl ⟨wanted_free rfl, fun w' hSw => ?_⟩) trivial ?_
          · go_simp
          try simp only [Act.put, List.setIfInBounds_toArray, List.set_cons_zero, List.set_cons_succ]
          refine wpAnyH_ready (rs := [13]) (by kernel_rfl) (by simp) (AllReadyH.cons (o := ⟨_, _, _, _, _, _⟩) rfl (fun K hK => ?_) AllReadyH.nil)
          rewrite [if_pos (wanted_free rfl)]
          with_reducible refine wp_allocV 122 (by with_unfolding_all rfl) (tgv ⟨#[]⟩ ⟨#[]⟩ 0) Try.infoTg ?_
          intro Wccca hAWccca hBWccca
          have HSWccca := KpT.new HSWccc hAWccca (tgv_ne _ _ _) hBWccca
          refine hK.out _ _ trivial (fun _ => ?_)
          clear hK K
          try simp only [Act.put, List.setIfInBounds_toArray, List.set_cons_zero, List.set_cons_succ]
          refine wpAnyH_ready (rs := [14]) (by kernel_rfl) (by simp) (AllReadyH.cons (o := ⟨_, _, _, _, _, _⟩) rfl (fun K hK => ?_) AllReadyH.nil)
          rewrite [if_pos (wanted_free rfl)]
          with_reducible refine wp_storeV 122 (.tmp 4) (.tmp 32) (by with_unfolding_all rfl) Wccc.heap.size (tgv ⟨#[]⟩ ⟨#[]⟩ 0) (tgv xn xi xs) (by with_unfolding_all rfl) (by with_unfolding_all rfl) (KpT.get HSWccca (List.mem_cons_self ..)) 3 Try.sizeTg (by with_unfolding_all rfl) (by with_unfolding_all rfl) (tgv_one _ _ _) ?_
          intro wf hAf hOf
          have HSf := KpT.put HSWccca (apartT HSWccc) hAf (tgv_ne _ _ _) hOf
          refine hK.out _ _ trivial (fun _ => ?_)
          clear hK K
          refine wpAnyH_done (by kernel_rfl) ?_ _
          have zGV := newGV HSWccc
          generalize Wccc.heap.size = GV at *
          clear HSW HSWc HSWcc HSWccc HSWccca
          obtain ⟨p0, p1, p2⟩ := (KpT.get HSf (List.mem_cons_self ..)).tg
          have q2 := (KpT.get HSf (List.mem_cons_of_mem _ (List.mem_cons_self ..))).cell (k := 2) rfl
          go_wp2_with (first
            | (with_reducible refine wpList_buildTg (w := wf) (by with_unfolding_all rfl) (.tmp 35) (by with_unfolding_all rfl) xn xi xs (by with_unfolding_all rfl) ?_; intro wi hAi hBi; have HSi := KpT.call HSf hBi; clear p0 p1 p2 q2)
            | (with_reducible refine wpList_appendTg3 (W := wi) (by with_unfolding_all rfl) (.tmp 34) (.tmp 36) (by with_unfolding_all rfl) w.heap.size val l1 ⟨xn, xi, xs⟩ (by with_unfolding_all rfl) HSi.out.own wf.heap.size (by with_unfolding_all rfl) hAi hl1000 (KpT.szH HSi) (i + 1) (lenT1 HLn _) ?_; intro a2 cc2 wa hOa hGa hba; have HSa := KpT.app HSi hOa hGa hba)
            | (with_reducible refine wpList_cellH (w := wa) (by with_unfolding_all rfl) 42 (.tmp 38) (.tmp 37) (by with_unfolding_all rfl) GA 2 (rtw v e val) (rtw v e (.slice a2 (i + 1) cc2)) (.slice a2 (i + 1) cc2) (by with_unfolding_all rfl) (by with_unfolding_all rfl) rfl Try.size1Tgs (KpT.get (KpT.tail HSa) (List.mem_cons_self ..)) (by simp [rtw]) (by with_unfolding_all rfl) ?_; intro wz hAz hBz hFz hSz; have HSz := KpT.put (KpT.tail HSa) (apartG zGA) hAz (rtw_ne _ _ _) (Only.set hBz hFz hSz)))
          go_roundw
          case rel => exact ⟨i + 1, c3, _, l1 ++ [⟨xn, xi, xs⟩], by go_num, by omega, hl4, by show _ = _; rw [List.length_append, HLn.out]; rfl, HWn, HRn, HSz⟩
          case measure => simp [intOf]; omega
        · as_aux_lemma =>
          rewrite [if_pos (wanted_free rfl)]
          with_reducible refine wp_allocV 122 (by with_unfolding_all rfl) (tgv ⟨#[]⟩ ⟨#[]⟩ 0) Try.infoTg ?_
          intro Wcca hAWcca hBWcca
          have HSWcca := KpT.new HSWcc hAWcca (tgv_ne _ _ _) hBWcca
          refine hK.out _ _ trivial (fun _ => ?_)
          clear hK K
          try simp only [Act.put, List.setIfInBounds_toArray, List.set_cons_zero, List.set_cons_succ]
          refine wpAnyH_ready (rs := [11]) (by kernel_rfl) (by simp) (AllReadyH.cons (o := ⟨_, _, _, _, _, _⟩) rfl (fun K hK => ?_) AllReadyH.nil)
          rewrite [if_pos (wanted_free rfl)]
          go_simp
          refine (numYes g c2 c3 t xs Wcca hs hn3 (KpT.rowH HSWcca)).mono ?_
          rintro e2 Wccac ⟨rfl, hRWccac, hOWccac⟩
          have HSWccac := KpT.read HSWcca hRWccac (cuv_ne _ _) hOWccac
          go_wp2_with fail
          refine hK.out _ _ trivial (fun _ => ?_)
          clear hK K
          try simp only [Act.put, List.setIfInBounds_toArray, List.set_cons_zero, List.set_cons_succ]
          refine wpAnyH_take (i := 12) (oi := ⟨_, _, _, _, _, _⟩) (v := .agg #[.string xn, .string xi, .int .i64 xs]) rfl (by kernel_rfl) (by kernel_rfl) (by kernel_rfl) (fun _ _ _ h => h) (Or.inl ⟨wanted_free rfl, fun w' hSw => ?_⟩) trivial ?_
          · go_simp
          try simp only [Act.put, List.setIfInBounds_toArray, List.set_cons_zero, List.set_cons_succ]
          refine wpAnyH_ready (rs := [14]) (by kernel_rfl) (by simp) (AllReadyH.cons (o := ⟨_, _, _, _, _, _⟩) rfl (fun K hK => ?_) AllReadyH.nil)
          rewrite [if_pos (wanted_free rfl)]
          with_reducible refine wp_storeV 122 (.tmp 4) (.tmp 32) (by with_unfolding_all rfl) Wcc.heap.size (tgv ⟨#[]⟩ ⟨#[]⟩ 0) (tgv xn xi xs) (by with_unfolding_all rfl) (by with_unfolding_all rfl) (KpT.get HSWccac (List.mem_cons_self ..)) 3 Try.sizeTg (by with_unfolding_all rfl) (by with_unfolding_all rfl) (tgv_one _ _ _) ?_
          intro wf hAf hOf
          have HSf := KpT.put HSWccac (apartT HSWcc) hAf (tgv_ne _ _ _) hOf
          refine hK.out _ _ trivial (fun _ => ?_)
          clear hK K
          refine wpAnyH_done (by kernel_rfl) ?_ _
          have zGV := newGV HSWcc
          generalize Wcc.heap.size = GV at *
          clear HSW HSWc HSWcc HSWcca HSWccac
          obtain ⟨p0, p1, p2⟩ := (KpT.get HSf (List.mem_cons_self ..)).tg
          have q2 := (KpT.get HSf (List.mem_cons_of_mem _ (List.mem_cons_self ..))).cell (k := 2) rfl
          go_wp2_with (first
            | (with_reducible refine wpList_buildTg (w := wf) (by with_unfolding_all rfl) (.tmp 35) (by with_unfolding_all rfl) xn xi xs (by with_unfolding_all rfl) ?_; intro wi hAi hBi; have HSi := KpT.call HSf hBi; clear p0 p1 p2 q2)
            | (with_reducible refine wpList_appendTg3 (W := wi) (by with_unfolding_all rfl) (.tmp 34) (.tmp 36) (by with_unfolding_all rfl) w.heap.size val l1 ⟨xn, xi, xs⟩ (by with_unfolding_all rfl) HSi.out.own wf.heap.size (by with_unfolding_all rfl) hAi hl1000 (KpT.szH HSi) (i + 1) (lenT1 HLn _) ?_; intro a2 cc2 wa hOa hGa hba; have HSa := KpT.app HSi hOa hGa hba)
            | (with_reducible refine wpList_cellH (w := wa) (by with_unfolding_all rfl) 42 (.tmp 38) (.tmp 37) (by with_unfolding_all rfl) GA 2 (rtw v e val) (rtw v e (.slice a2 (i + 1) cc2)) (.slice a2 (i + 1) cc2) (by with_unfolding_all rfl) (by with_unfolding_all rfl) rfl Try.size1Tgs (KpT.get (KpT.tail HSa) (List.mem_cons_self ..)) (by simp [rtw]) (by with_unfolding_all rfl) ?_; intro wz hAz hBz hFz hSz; have HSz := KpT.put (KpT.tail HSa) (apartG zGA) hAz (rtw_ne _ _ _) (Only.set hBz hFz hSz)))
          go_roundw
          case rel => exact ⟨i + 1, c3, _, l1 ++ [⟨xn, xi, xs⟩], by go_num, by omega, hl4, by show _ = _; rw [List.length_append, HLn.out]; rfl, HWn, HRn, HSz⟩
          case measure => simp [intOf]; omega
      · as_aux_lemma =>
        rewrite [if_pos (wanted_free rfl)]
        with_reducible refine wp_allocV 122 (by with_unfolding_all rfl) (tgv ⟨#[]⟩ ⟨#[]⟩ 0) Try.infoTg ?_
        intro Wca hAWca hBWca
        have HSWca := KpT.new HSWc hAWca (tgv_ne _ _ _) hBWca
        refine hK.out _ _ trivial (fun _ => ?_)
        clear hK K
        try simp only [Act.put, List.setIfInBounds_toArray, List.set_cons_zero, List.set_cons_succ]
        refine wpAnyH_ready (rs := [7]) (by kernel_rfl) (by simp) (AllReadyH.cons (o := ⟨_, _, _, _, _, _⟩) rfl (fun K hK => ?_) AllReadyH.nil)
        rewrite [if_pos (wanted_free rfl)]
        go_simp
        refine (hBy Wca (KpT.rowH HSWca)).mono ?_
        rintro e2 Wcac ⟨rfl, hRWcac, hOWcac⟩
        have HSWcac := KpT.read HSWca hRWcac (cuv_ne _ _) hOWcac
        go_wp2_with fail
        refine hK.out _ _ trivial (fun _ => ?_)
        clear hK K
        try simp only [Act.put, List.setIfInBounds_toArray, List.set_cons_zero, List.set_cons_succ]
        refine wpAnyH_ready (rs := [11]) (by kernel_rfl) (by simp) (AllReadyH.cons (o := ⟨_, _, _, _, _, _⟩) rfl (fun K hK => ?_) AllReadyH.nil)
        rewrite [if_pos (wanted_free rfl)]
        go_simp
        refine (numYes g c2 c3 t xs Wcac hs hn3 (KpT.rowH HSWcac)).mono ?_
        rintro e2 Wcacc ⟨rfl, hRWcacc, hOWcacc⟩
        have HSWcacc := KpT.read HSWcac hRWcacc (cuv_ne _ _) hOWcacc
        go_wp2_with fail
        refine hK.out _ _ trivial (fun _ => ?_)
        clear hK K
        try simp only [Act.put, List.setIfInBounds_toArray, List.set_cons_zero, List.set_cons_succ]
        refine wpAnyH_take (i := 12) (oi := ⟨_, _, _, _, _, _⟩) (v := .agg #[.string xn, .string xi, .int .i64 xs]) rfl (by kernel_rfl) (by kernel_rfl) (by kernel_rfl) (fun _ _ _ h => h) (Or.inl ⟨wanted_free rfl, fun w' hSw => ?_⟩) trivial ?_
        · go_simp
        try simp only [Act.put, List.setIfInBounds_toArray, List.set_cons_zero, List.set_cons_succ]
        refine wpAnyH_ready (rs := [14]) (by kernel_rfl) (by simp) (AllReadyH.cons (o := ⟨_, _, _, _, _, _⟩) rfl (fun K hK => ?_) AllReadyH.nil)
        rewrite [if_pos (wanted_free rfl)]
        with_reducible refine wp_storeV 122 (.tmp 4) (.tmp 32) (by with_unfolding_all rfl) Wc.heap.size (tgv ⟨#[]⟩ ⟨#[]⟩ 0) (tgv xn xi xs) (by with_unfolding_all rfl) (by with_unfolding_all rfl) (KpT.get HSWcacc (List.mem_cons_self ..)) 3 Try.sizeTg (by with_unfolding_all rfl) (by with_unfolding_all rfl) (tgv_one _ _ _) ?_
        intro wf hAf hOf
        have HSf := KpT.put HSWcacc (apartT HSWc) hAf (tgv_ne _ _ _) hOf
        refine hK.out _ _ trivial (fun _ => ?_)
        clear hK K
        refine wpAnyH_done (by kernel_rfl) ?_ _
        have zGV := newGV HSWc
        generalize Wc.heap.size = GV at *
        clear HSW HSWc HSWca HSWcac HSWcacc
        obtain ⟨p0, p1, p2⟩ := (KpT.get HSf (List.mem_cons_self ..)).tg
        have q2 := (KpT.get HSf (List.mem_cons_of_mem _ (List.mem_cons_self ..))).cell (k := 2) rfl
        go_wp2_with (first
          | (with_reducible refine wpList_buildTg (w := wf) (by with_unfolding_all rfl) (.tmp 35) (by with_unfolding_all rfl) xn xi xs (by with_unfolding_all rfl) ?_; intro wi hAi hBi; have HSi := KpT.call HSf hBi; clear p0 p1 p2 q2)
          | (with_reducible refine wpList_appendTg3 (W := wi) (by with_unfolding_all rfl) (.tmp 34) (.tmp 36) (by with_unfolding_all rfl) w.heap.size val l1 ⟨xn, xi, xs⟩ (by with_unfolding_all rfl) HSi.out.own wf.heap.size (by with_unfolding_all rfl) hAi hl1000 (KpT.szH HSi) (i + 1) (lenT1 HLn _) ?_; intro a2 cc2 wa hOa hGa hba; have HSa := KpT.app HSi hOa hGa hba)
          | (with_reducible refine wpList_cellH (w := wa) (by with_unfolding_all rfl) 42 (.tmp 38) (.tmp 37) (by with_unfolding_all rfl) GA 2 (rtw v e val) (rtw v e (.slice a2 (i + 1) cc2)) (.slice a2 (i + 1) cc2) (by with_unfolding_all rfl) (by with_unfolding_all rfl) rfl Try.size1Tgs (KpT.get (KpT.tail HSa) (List.mem_cons_self ..)) (by simp [rtw]) (by with_unfolding_all rfl) ?_; intro wz hAz hBz hFz hSz; have HSz := KpT.put (KpT.tail HSa) (apartG zGA) hAz (rtw_ne _ _ _) (Only.set hBz hFz hSz)))
        go_roundw
        case rel => exact ⟨i + 1, c3, _, l1 ++ [⟨xn, xi, xs⟩], by go_num, by omega, hl4, by show _ = _; rw [List.length_append, HLn.out]; rfl, HWn, HRn, HSz⟩
        case measure => simp [intOf]; omega
    · as_aux_lemma =>
      rewrite [if_pos (wanted_free rfl)]
      with_reducible refine wp_allocV 122 (by with_unfolding_all rfl) (tgv ⟨#[]⟩ ⟨#[]⟩ 0) Try.infoTg ?_
      intro Wa hAWa hBWa
      have HSWa := KpT.new HSW hAWa (tgv_ne _ _ _) hBWa
      refine hK.out _ _ trivial (fun _ => ?_)
      clear hK K
      try simp only [Act.put, List.setIfInBounds_toArray, List.set_cons_zero, List.set_cons_succ]
      refine wpAnyH_ready (rs := [3]) (by kernel_rfl) (by simp) (AllReadyH.cons (o := ⟨_, _, _, _, _, _⟩) rfl (fun K hK => ?_) AllReadyH.nil)
      rewrite [if_pos (wanted_free rfl)]
      go_simp
      refine (textYes g p' c1 t xn Wa hs hn1 (KpT.rowH HSWa)).mono ?_
      rintro e2 Wac ⟨rfl, hRWac, hOWac⟩
      have HSWac := KpT.read HSWa hRWac (cuv_ne _ _) hOWac
      go_wp2_with fail
      refine hK.out _ _ trivial (fun _ => ?_)
      clear hK K
      try simp only [Act.put, List.setIfInBounds_toArray, List.set_cons_zero, List.set_cons_succ]
      refine wpAnyH_ready (rs := [7]) (by kernel_rfl) (by simp) (AllReadyH.cons (o := ⟨_, _, _, _, _, _⟩) rfl (fun K hK => ?_) AllReadyH.nil)
      rewrite [if_pos (wanted_free rfl)]
      go_simp
      refine (hBy Wac (KpT.rowH HSWac)).mono ?_
      rintro e2 Wacc ⟨rfl, hRWacc, hOWacc⟩
      have HSWacc := KpT.read HSWac hRWacc (cuv_ne _ _) hOWacc
      go_wp2_with fail
      refine hK.out _ _ trivial (fun _ => ?_)
      clear hK K
      try simp only [Act.put, List.setIfInBounds_toArray, List.set_cons_zero, List.set_cons_succ]
      refine wpAnyH_ready (rs := [11]) (by kernel_rfl) (by simp) (AllReadyH.cons (o := ⟨_, _, _, _, _, _⟩) rfl (fun K hK => ?_) AllReadyH.nil)
      rewrite [if_pos (wanted_free rfl)]
      go_simp
      refine (numYes g c2 c3 t xs Wacc hs hn3 (KpT.rowH HSWacc)).mono ?_
      rintro e2 Waccc ⟨rfl, hRWaccc, hOWaccc⟩
      have HSWaccc := KpT.read HSWacc hRWaccc (cuv_ne _ _) hOWaccc
      go_wp2_with fail
      refine hK.out _ _ trivial (fun _ => ?_)
      clear hK K
      try simp only [Act.put, List.setIfInBounds_toArray, List.set_cons_zero, List.set_cons_succ]
      refine wpAnyH_take (i := 12) (oi := ⟨_, _, _, _, _, _⟩) (v := .agg #[.string xn, .string xi, .int .i64 xs]) rfl (by kernel_rfl) (by kernel_rfl) (by kernel_rfl) (fun _ _ _ h => h) (Or.inl ⟨wanted_free rfl, fun w' hSw => ?_⟩) trivial ?_
      · go_simp
      try simp only [Act.put, List.setIfInBounds_toArray, List.set_cons_zero, List.set_cons_succ]
      refine wpAnyH_ready (rs := [14]) (by kernel_rfl) (by simp) (AllReadyH.cons (o := ⟨_, _, _, _, _, _⟩) rfl (fun K hK => ?_) AllReadyH.nil)
      rewrite [if_pos (wanted_free rfl)]
      with_reducible refine wp_storeV 122 (.tmp 4) (.tmp 32) (by with_unfolding_all rfl) W.heap.size (tgv ⟨#[]⟩ ⟨#[]⟩ 0) (tgv xn xi xs) (by with_unfolding_all rfl) (by with_unfolding_all rfl) (KpT.get HSWaccc (List.mem_cons_self ..)) 3 Try.sizeTg (by with_unfolding_all rfl) (by with_unfolding_all rfl) (tgv_one _ _ _) ?_
      intro wf hAf hOf
      have HSf := KpT.put HSWaccc (apartT HSW) hAf (tgv_ne _ _ _) hOf
      refine hK.out _ _ trivial (fun _ => ?_)
      clear hK K
      refine wpAnyH_done (by kernel_rfl) ?_ _
      have zGV := newGV HSW
      generalize W.heap.size = GV at *
      clear HSW HSWa HSWac HSWacc HSWaccc
      obtain ⟨p0, p1, p2⟩ := (KpT.get HSf (List.mem_cons_self ..)).tg
      have q2 := (KpT.get HSf (List.mem_cons_of_mem _ (List.mem_cons_self ..))).cell (k := 2) rfl
      go_wp2_with (first
        | (with_reducible refine wpList_buildTg (w := wf) (by with_unfolding_all rfl) (.tmp 35) (by with_unfolding_all rfl) xn xi xs (by with_unfolding_all rfl) ?_; intro wi hAi hBi; have HSi := KpT.call HSf hBi; clear p0 p1 p2 q2)
        | (with_reducible refine wpList_appendTg3 (W := wi) (by with_unfolding_all rfl) (.tmp 34) (.tmp 36) (by with_unfolding_all rfl) w.heap.size val l1 ⟨xn, xi, xs⟩ (by with_unfolding_all rfl) HSi.out.own wf.heap.size (by with_unfolding_all rfl) hAi hl1000 (KpT.szH HSi) (i + 1) (lenT1 HLn _) ?_; intro a2 cc2 wa hOa hGa hba; have HSa := KpT.app HSi hOa hGa hba)
        | (with_reducible refine wpList_cellH (w := wa) (by with_unfolding_all rfl) 42 (.tmp 38) (.tmp 37) (by with_unfolding_all rfl) GA 2 (rtw v e val) (rtw v e (.slice a2 (i + 1) cc2)) (.slice a2 (i + 1) cc2) (by with_unfolding_all rfl) (by with_unfolding_all rfl) rfl Try.size1Tgs (KpT.get (KpT.tail HSa) (List.mem_cons_self ..)) (by simp [rtw]) (by with_unfolding_all rfl) ?_; intro wz hAz hBz hFz hSz; have HSz := KpT.put (KpT.tail HSa) (apartG zGA) hAz (rtw_ne _ _ _) (Only.set hBz hFz hSz)))
      go_roundw
      case rel => exact ⟨i + 1, c3, _, l1 ++ [⟨xn, xi, xs⟩], by go_num, by omega, hl4, by show _ = _; rw [List.length_append, HLn.out]; rfl, HWn, HRn, HSz⟩
      case measure => simp [intOf]; omega
end Go.Proofs.Ytmahpmjkejnkfaa
