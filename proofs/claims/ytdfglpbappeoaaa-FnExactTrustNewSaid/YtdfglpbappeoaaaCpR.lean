/- l08CopyRoot of the specification. -/
import Derived.Test.YtdfglpbappeoaaaTnI
namespace Go.Proofs.Ytdfglpbappeoaaa
open Go.RowKit
set_option linter.unusedVariables false

theorem wp_build0 {o : Oper} {a : Act} {w : World} {K : Act → World → Prop} {Q : Exit → Act → World → Prop} (ho : o.op = .buildSlice 93 0 #[])
    (h : ∀ w', OwnI w' w.heap.size (.slice (some ⟨w.heap.size, 0, none⟩) 0 0) [] → Below w.heap.size w w' → K (a.put o.dst (.slice (some ⟨w.heap.size, 0, none⟩) 0 0)) w') : o.wp Try.prog a w K Q := by
  unfold Oper.wp execOp
  simp only [ho, Sem.run_bind, run_build0' a w, Result.andThen_ok]
  exact h _ (World.ownsRow_lit (base := w.heap.size) w #[] 0 (Nat.le_refl _) (by unfold maxLen; omega) rfl) (below_alloc _ _)
/- The copy under way: its own row, its roles' row and their keys' rows, all else as it was. -/
structure KpCp (w2 : World) (GA : Nat) (v e : Int) (vs : Value) (ys : List RoleV) (w' : World) : Prop where
  below : Below GA w2 w'
  own : OwR w' (GA + 1) vs ys
  row : RowV w' GA [.int .i64 v, .int .i64 e, vs]
theorem KpCp.sz {w2 : World} {GA : Nat} {v e : Int} {vs : Value} {ys : List RoleV} {w' : World} (h : KpCp w2 GA v e vs ys w') : GA + 1 ≤ w'.heap.size := h.row.lt (by simp)
theorem KpCp.call {w2 : World} {GA : Nat} {v e : Int} {vs : Value} {ys : List RoleV} {w' w'' : World} (h : Hid (KpCp w2 GA v e vs ys w')) (hb : Below w'.heap.size w' w'') : Hid (KpCp w2 GA v e vs ys w'') :=
  ⟨h.out.below.trans (hb.mono (by have := h.out.sz; omega)), h.out.own.below hb, h.out.row.below hb h.out.sz⟩
theorem KpCp.drew {w2 : World} {GA : Nat} {v e : Int} {vs : Value} {ys : List RoleV} {w' : World} (h : Hid (KpCp w2 GA v e vs ys w')) : Hid (KpCp w2 GA v e vs ys w'.drew) := ⟨h.out.below.drew, h.out.own.drew, h.out.row.drew⟩
theorem KpCp.app {w2 : World} {GA : Nat} {v e : Int} {vs v' : Value} {ys : List RoleV} {y : RoleV} {w w'' wa : World} (h : Hid (KpCp w2 GA v e vs ys w)) (h1 : Hid (KpCp w2 GA v e vs ys w'')) (hb : Below w.heap.size w w'') (hk : OwnI w'' w.heap.size (.slice y.ka y.ks.length y.kc) y.ks)
    (ho : OwnRw wa (GA + 1) v' (ys ++ [y])) (hg : w''.grownBy wa vs.ownBlock) (hv : v'.ownBlock = vs.ownBlock ∨ v'.ownBlock = some w''.heap.size) : OwR wa (GA + 1) v' (ys ++ [y]) ∧ RowV wa GA [.int .i64 v, .int .i64 e, vs] ∧ Below GA w2 wa :=
  ⟨OwR.snoc h.out.own hb hk h.out.sz ho hg hv,
   h1.out.row.same fun k => same_far (hg.block GA h1.out.sz (fun e => by have := (own_ge h1.out.own.own e.symm).1; omega)),
   h1.out.below.trans ((below_own h1.out.own.own hg h1.out.sz).mono (by omega))⟩
theorem KpCp.put {w2 : World} {GA : Nat} {v e : Int} {v' : Value} {ys : List RoleV} {wa wz : World} (h : OwR wa (GA + 1) v' ys) (hb : Below GA w2 wa) (hr : RowV wz GA [.int .i64 v, .int .i64 e, v']) (ho : Only GA wa wz) : Hid (KpCp w2 GA v e v' ys wz) :=
  ⟨hb.trans (ho.bel (Nat.le_refl _)), h.off1 ho (Nat.lt_succ_self _), hr⟩
set_option maxRecDepth 100000 in
set_option maxHeartbeats 4000000 in
theorem copyRt (v e : Int) (a : Option Addr) (c n : Nat) (rs : List RoleV) (w : World) (hn : rs.length = n) (h : RlsAt w a rs) (hm : n ≤ 1000) (hk : ∀ r ∈ rs, r.ks ≠ [] ∧ r.ks.length ≤ 1000) :
    Calls Try.prog 44 #[.agg #[.int .i64 v, .int .i64 e, .slice a n c]] w fun r w' => ∃ a' c' ys B, r = .returned (.agg #[.int .i64 v, .int .i64 e, .slice a' n c']) ∧ OwR w' B (.slice a' n c') ys ∧ rkeys ys = rkeys rs ∧ w.heap.size ≤ B ∧ Below w.heap.size w w' := by
  have HN : Hid (rs.length = n) := hn
  have HA : Hid (RlsAt w a rs) := h
  have HK : Hid (∀ r ∈ rs, r.ks ≠ [] ∧ r.ks.length ≤ 1000) := hk
  clear h hn hk
  go_enter Try.func44, Try.ntmps44
  go_wp2_with (first
    | (with_reducible refine wpList_boxV (w := w) (by with_unfolding_all rfl) 28 (.tmp 0) (by with_unfolding_all rfl) (rtv v e a n c) (by with_unfolding_all rfl) ?_; intro w1 hA1 hB1 hS1; have z1 : w.heap.size < w1.heap.size := (by omega); clear hS1)
    | (with_reducible refine wpList_allocV (w := w1) (by with_unfolding_all rfl) 28 (by with_unfolding_all rfl) (rtv 0 0 none 0 0) Try.infoRtz ?_; intro w2 hA2 hB2 hS2; have z2 : w1.heap.size < w2.heap.size := (by omega); clear hS2; have R2 := hA1.below hB2 z1; obtain ⟨p0, p1, p2⟩ := R2.rt3; have HA2 := hidP (HA.out.below (hB1.trans (hB2.mono (Nat.le_of_lt z1)))); have B02 := hidP (hB1.trans (hB2.mono (Nat.le_of_lt z1))))
    | (with_reducible refine wpList_allocV (w := w2) (by with_unfolding_all rfl) 28 (by with_unfolding_all rfl) (rtv 0 0 none 0 0) Try.infoRtz ?_; intro w3 hA3 hB3 hS3; have z3 : w2.heap.size < w3.heap.size := (by omega); clear hS3)
    | (with_reducible refine wpList_storeH (w := w3) (by with_unfolding_all rfl) 28 (.tmp 3) (.tmp 9) (by with_unfolding_all rfl) w2.heap.size (rtv 0 0 none 0 0) (rtv v e none 0 0) (by with_unfolding_all rfl) (by with_unfolding_all rfl) hA3 3 Try.sizeRt (by with_unfolding_all rfl) (by with_unfolding_all rfl) (rtv_one _ _ _ _ _) ?_; intro w4 hA4 hB4 hF4 hS4))
  have HW4 : Hid (KpCp w2 w2.heap.size v e (.slice none 0 0) [] w4) := ⟨hB3.trans (hB4 _ (Nat.le_refl _)), OwR.nil, hA4⟩
  have HR2 : Hid (RowV w2 w.heap.size (rtv v e a n c)) := R2
  have HZ2 : Hid (RowV w2 w1.heap.size (rtv 0 0 none 0 0)) := hA2
  generalize w1.heap.size = G2 at *
  generalize hGA : w2.heap.size = GA at *
  have HGe : Hid (w2.heap.size = GA) := hGA
  clear hA1 hB1 hB2 hA2 p0 p1 p2 HA R2 hA3 hB3 hA4 hB4 hF4 hS4
  go_loopw [4] (fun vi wr => ∃ (k : Nat) (vs : Value) (ys : List RoleV), vi = .int .i64 (k : Int) ∧ k ≤ n ∧ ys.length = k ∧ Hid (rkeys ys = rkeys (rs.take k)) ∧ Hid (KpCp w2 GA v e vs ys wr)) (fun vi _ => n - (intOf vi).toNat)
  case atStart => exact ⟨0, _, [], rfl, Nat.zero_le _, rfl, rfl, HW4⟩
  case round =>
    clear HW4
    obtain ⟨k, vs, ys, rfl, hk, hyl, HM0, HW⟩ := hrel
    have hr2 := (HR2.out.below HW.out.below (by omega)).rt3.2.2
    by_cases hlt : k < n
    case neg =>
      obtain rfl : k = n := by omega
      have HMe : Hid (rkeys ys = rkeys rs) := by show _ = _; rw [HM0.out, ← HN.out, List.take_length]
      have ZZ := hidP (HZ2.out.below HW.out.below (by omega))
      obtain ⟨a', c', hv, -⟩ := OwnRw.form HW.out.own.own
      subst hv
      rw [hyl] at HW
      have y1 : w.heap.size < GA := by omega
      have y2 : G2 < GA := by omega
      have y0 : w.heap.size ≤ G2 := by omega
      have HOn : Hid (∀ w5, Only G2 wr w5 → OwR w5 (GA + 1) (.slice a' k c') ys ∧ Below w.heap.size w w5) := fun w5 h => ⟨HW.out.own.off1 h (by omega), B02.out.trans ((HW.out.below.mono (by omega)).trans (h.bel (by omega)))⟩
      have HRo : Hid (RowV wr GA (rtv v e a' k c')) := HW.out.row
      clear HM0 HA2 HK HR2 HZ2
      go_wp2_with (first
        | (with_reducible refine wpList_loadV (w := wr) (by with_unfolding_all rfl) 28 (.tmp 3) (by with_unfolding_all rfl) GA (rtv v e a' k c') (by with_unfolding_all rfl) HRo.out Try.undRt 3 Try.sizeRt (by with_unfolding_all rfl) ?_)
        | (with_reducible refine wpList_storeH (w := wr) (by with_unfolding_all rfl) 28 (.tmp 2) (.tmp 37) (by with_unfolding_all rfl) G2 (rtv 0 0 none 0 0) (rtv v e a' k c') (by with_unfolding_all rfl) (by with_unfolding_all rfl) ZZ.out 3 Try.sizeRt (by with_unfolding_all rfl) (by with_unfolding_all rfl) (rtv_one _ _ _ _ _) ?_; intro wz hAz hBz hFz hSz; have oz := hidP (HOn.out wz (Only.set hBz hFz hSz))))
      exact bodyPost_ret (results_V (t := 28) rfl _ G2 _ rfl hAz Try.undRt 3 Try.sizeRt rfl) rfl ⟨a', c', ys, GA + 1, rfl, oz.out.1, HMe.out, by omega, oz.out.2⟩
    have hkl : k < rs.length := by have := HN.out; omega
    obtain ⟨b, o, rfl, hc0, hc1, hai⟩ := HA2.out k hkl
    obtain ⟨hne, hk2⟩ := HK.out rs[k] (List.getElem_mem hkl)
    obtain ⟨kb, ko, hka, -⟩ := hai 0 (List.length_pos_iff.2 hne)
    have lk : (k : Int) < n := by omega
    have l0 : (0 : Int) ≤ k := by omega
    have HSn : Hid (∀ r, r.need = rs[k].need → r.ks = rs[k].ks → rkeys (ys ++ [r]) = rkeys (rs.take (k + 1))) := fun r h1 h2 => rkeys_snoc HM0.out hkl h1 h2
    have HAI : Hid (∀ w0, Below GA w2 w0 → AI w0 rs[k].ka rs[k].ks) := fun w0 h0 => hai.below (HGe.out ▸ h0)
    rw [hka] at hc1 HAI
    clear hai hka hne
    generalize rs[k].need = nd at *
    generalize rs[k].kc = kc at *
    generalize rs[k].ks = ks at *
    obtain ⟨m, hm2⟩ : ∃ m, ks.length = m := ⟨_, rfl⟩
    have HM : Hid (ks.length = m) := hm2
    rw [hm2] at hc1 hk2
    have HSrc : Hid (∀ w', Below GA w2 w' → w'.cell? ⟨w.heap.size, 2, none⟩ = some (.slice (some ⟨b, o, none⟩) n c) ∧ w'.cell? ⟨b, o + k * 2, none⟩ = some (.int .i64 nd) ∧ w'.cell? ⟨b, o + k * 2 + 1, none⟩ = some (.slice (some ⟨kb, ko, none⟩) m kc)) := fun w' h => by
      have h' : Below w2.heap.size w2 w' := HGe.out ▸ h
      exact ⟨(HR2.out.below h (by omega)).rt3.2.2, (h'.cell (p := ⟨b, o + k * 2, none⟩) (cellLt hc0)).trans hc0, (h'.cell (p := ⟨b, o + k * 2 + 1, none⟩) (cellLt hc1)).trans hc1⟩
    clear hm2 HM0 HA2 hc0 hc1
    go_wp2_with fail
    have HW := KpCp.drew HW
    refine wp_region_held_drew (S := fun w' => w'.cell? ⟨w.heap.size, 2, none⟩ = some (.slice (some ⟨b, o, none⟩) n c) ∧ w'.cell? ⟨b, o + k * 2, none⟩ = some (.int .i64 nd) ∧ w'.cell? ⟨b, o + k * 2 + 1, none⟩ = some (.slice (some ⟨kb, ko, none⟩) m kc)) (by kernel_rfl) (HSrc.out _ HW.out.below) (fun hHeld => ?_)
    refine wpAnyH_take (i := 0) (oi := ⟨_, _, _, _, _, _⟩) (v := .pointer (some ⟨GA, 2, none⟩)) rfl (by kernel_rfl) (by kernel_rfl) (by kernel_rfl) (fun _ _ _ h => h) (Or.inl ⟨wanted_free rfl, fun w' hSw => ?_⟩) hHeld ?_
    · go_simp
    try simp only [Act.put, List.setIfInBounds_toArray, List.set_cons_zero, List.set_cons_succ]
    refine wpAnyH_take (i := 2) (oi := ⟨_, _, _, _, _, _⟩) (v := .pointer (some ⟨w.heap.size, 2, none⟩)) rfl (by kernel_rfl) (by kernel_rfl) (by kernel_rfl) (fun _ _ _ h => h) (Or.inl ⟨wanted_free rfl, fun w' hSw => ?_⟩) hHeld ?_
    · go_simp
    try simp only [Act.put, List.setIfInBounds_toArray, List.set_cons_zero, List.set_cons_succ]
    refine wpAnyH_take (i := 3) (oi := ⟨_, _, _, _, _, _⟩) (v := .slice (some ⟨b, o, none⟩) n c) rfl (by kernel_rfl) (by kernel_rfl) (by kernel_rfl) (fun _ _ _ h => h) (Or.inl ⟨wanted_free rfl, fun w' hSw => ?_⟩) hHeld ?_
    · obtain ⟨s0, s1, s2⟩ := hSw
      go_simp
    try simp only [Act.put, List.setIfInBounds_toArray, List.set_cons_zero, List.set_cons_succ]
    refine wpAnyH_take (i := 4) (oi := ⟨_, _, _, _, _, _⟩) (v := .int .i64 (k : Int)) rfl (by kernel_rfl) (by kernel_rfl) (by kernel_rfl) (fun _ _ _ h => h) (Or.inl ⟨wanted_free rfl, fun w' hSw => ?_⟩) hHeld ?_
    · go_simp
    try simp only [Act.put, List.setIfInBounds_toArray, List.set_cons_zero, List.set_cons_succ]
    refine wpAnyH_take (i := 5) (oi := ⟨_, _, _, _, _, _⟩) (v := .pointer (some ⟨b, o + k * 2, none⟩)) rfl (by kernel_rfl) (by kernel_rfl) (by kernel_rfl) (fun _ _ _ h => h) (Or.inl ⟨wanted_free rfl, fun w' hSw => ?_⟩) hHeld ?_
    · go_simp
    try simp only [Act.put, List.setIfInBounds_toArray, List.set_cons_zero, List.set_cons_succ]
    refine wpAnyH_take (i := 6) (oi := ⟨_, _, _, _, _, _⟩) (v := .pointer (some ⟨b, o + k * 2, none⟩)) rfl (by kernel_rfl) (by kernel_rfl) (by kernel_rfl) (fun _ _ _ h => h) (Or.inl ⟨wanted_free rfl, fun w' hSw => ?_⟩) hHeld ?_
    · go_simp
    try simp only [Act.put, List.setIfInBounds_toArray, List.set_cons_zero, List.set_cons_succ]
    refine wpAnyH_take (i := 7) (oi := ⟨_, _, _, _, _, _⟩) (v := .int .i64 nd) rfl (by kernel_rfl) (by kernel_rfl) (by kernel_rfl) (fun _ _ _ h => h) (Or.inl ⟨wanted_free rfl, fun w' hSw => ?_⟩) hHeld ?_
    · obtain ⟨s0, s1, s2⟩ := hSw
      go_simp
    try simp only [Act.put, List.setIfInBounds_toArray, List.set_cons_zero, List.set_cons_succ]
    refine wpAnyH_take (i := 9) (oi := ⟨_, _, _, _, _, _⟩) (v := .pointer (some ⟨w.heap.size, 2, none⟩)) rfl (by kernel_rfl) (by kernel_rfl) (by kernel_rfl) (fun _ _ _ h => h) (Or.inl ⟨wanted_free rfl, fun w' hSw => ?_⟩) hHeld ?_
    · go_simp
    try simp only [Act.put, List.setIfInBounds_toArray, List.set_cons_zero, List.set_cons_succ]
    refine wpAnyH_take (i := 10) (oi := ⟨_, _, _, _, _, _⟩) (v := .slice (some ⟨b, o, none⟩) n c) rfl (by kernel_rfl) (by kernel_rfl) (by kernel_rfl) (fun _ _ _ h => h) (Or.inl ⟨wanted_free rfl, fun w' hSw => ?_⟩) hHeld ?_
    · obtain ⟨s0, s1, s2⟩ := hSw
      go_simp
    try simp only [Act.put, List.setIfInBounds_toArray, List.set_cons_zero, List.set_cons_succ]
    refine wpAnyH_take (i := 11) (oi := ⟨_, _, _, _, _, _⟩) (v := .int .i64 (k : Int)) rfl (by kernel_rfl) (by kernel_rfl) (by kernel_rfl) (fun _ _ _ h => h) (Or.inl ⟨wanted_free rfl, fun w' hSw => ?_⟩) hHeld ?_
    · go_simp
    try simp only [Act.put, List.setIfInBounds_toArray, List.set_cons_zero, List.set_cons_succ]
    refine wpAnyH_take (i := 12) (oi := ⟨_, _, _, _, _, _⟩) (v := .pointer (some ⟨b, o + k * 2, none⟩)) rfl (by kernel_rfl) (by kernel_rfl) (by kernel_rfl) (fun _ _ _ h => h) (Or.inl ⟨wanted_free rfl, fun w' hSw => ?_⟩) hHeld ?_
    · go_simp
    try simp only [Act.put, List.setIfInBounds_toArray, List.set_cons_zero, List.set_cons_succ]
    refine wpAnyH_take (i := 13) (oi := ⟨_, _, _, _, _, _⟩) (v := .pointer (some ⟨b, o + k * 2 + 1, none⟩)) rfl (by kernel_rfl) (by kernel_rfl) (by kernel_rfl) (fun _ _ _ h => h) (Or.inl ⟨wanted_free rfl, fun w' hSw => ?_⟩) hHeld ?_
    · go_simp
    try simp only [Act.put, List.setIfInBounds_toArray, List.set_cons_zero, List.set_cons_succ]
    refine wpAnyH_take (i := 14) (oi := ⟨_, _, _, _, _, _⟩) (v := .slice (some ⟨kb, ko, none⟩) m kc) rfl (by kernel_rfl) (by kernel_rfl) (by kernel_rfl) (fun _ _ _ h => h) (Or.inl ⟨wanted_free rfl, fun w' hSw => ?_⟩) hHeld ?_
    · obtain ⟨s0, s1, s2⟩ := hSw
      go_simp
    try simp only [Act.put, List.setIfInBounds_toArray, List.set_cons_zero, List.set_cons_succ]
    generalize wr.drew = W at *
    have HW0 := HW
    clear hr2
    refine wpAnyH_ready (rs := [1, 8]) (by kernel_rfl) (by simp) (AllReadyH.cons (o := ⟨_, _, _, _, _, _⟩) rfl (fun K hK => ?_) (AllReadyH.cons (o := ⟨_, _, _, _, _, _⟩) rfl (fun K hK => ?_) AllReadyH.nil))
    · as_aux_lemma =>
      rewrite [if_pos (wanted_free rfl)]
      with_reducible refine wp_load1 26 95 (.tmp 17) (by with_unfolding_all rfl) GA 2 vs (by with_unfolding_all rfl) (HW.out.row.cell rfl) Try.underlying26 ?_
      refine hK.out _ _ hHeld (fun _ => ?_)
      clear hK K
      try simp only [Act.put, List.setIfInBounds_toArray, List.set_cons_zero, List.set_cons_succ]
      refine wpAnyH_ready (rs := [8]) (by kernel_rfl) (by simp) (AllReadyH.cons (o := ⟨_, _, _, _, _, _⟩) rfl (fun K hK => ?_) AllReadyH.nil)
      rewrite [if_pos (wanted_free rfl)]
      with_reducible refine wp_build0 (w := W) (by with_unfolding_all rfl) ?_
      intro Wc hOWc hBWc
      have hE := hOWc
      have zE : W.heap.size ≤ Wc.heap.size := hBWc.size
      have HW := KpCp.call HW hBWc
      have hHeld := HSrc.out _ HW.out.below
      generalize hVE : (Value.slice (some ⟨W.heap.size, 0, none⟩) 0 0) = ve at *
      refine hK.out _ _ hHeld (fun _ => ?_)
      clear hK K
      try simp only [Act.put, List.setIfInBounds_toArray, List.set_cons_zero, List.set_cons_succ]
      refine wpAnyH_ready (rs := [15]) (by kernel_rfl) (by simp) (AllReadyH.cons (o := ⟨_, _, _, _, _, _⟩) rfl (fun K hK => ?_) AllReadyH.nil)
      rewrite [if_pos (wanted_free rfl)]
      refine wp_appendI (W := Wc) (.tmp 25) (.tmp 31) (by with_unfolding_all rfl) _ ve [] kb ko m kc ks (by with_unfolding_all rfl) hE (by with_unfolding_all rfl) HM.out (HAI.out _ HW.out.below) (by simp; omega) zE ?_
      intro v7 Wcc hOWcc hGWcc hXWcc
      have hBn := (hBWc).trans (below_own hE hGWcc zE)
      obtain ⟨a7, c7, e7, -, -⟩ := OwnI.form hOWcc
      rw [List.nil_append] at hOWcc e7
      rw [show ks.length = m from HM.out] at e7
      subst e7
      have HW := KpCp.call HW0 hBn
      have hHeld := HSrc.out _ HW.out.below
      refine hK.out _ _ hHeld (fun _ => ?_)
      clear hK K
      try simp only [Act.put, List.setIfInBounds_toArray, List.set_cons_zero, List.set_cons_succ]
      refine wpAnyH_take (i := 16) (oi := ⟨_, _, _, _, _, _⟩) (v := .agg #[.int .i64 nd, .slice a7 m c7]) rfl (by kernel_rfl) (by kernel_rfl) (by kernel_rfl) (fun _ _ _ h => h) (Or.inl ⟨wanted_free rfl, fun w' hSw => ?_⟩) hHeld ?_
      · go_simp
      try simp only [Act.put, List.setIfInBounds_toArray, List.set_cons_zero, List.set_cons_succ]
      refine wpAnyH_ready (rs := [17]) (by kernel_rfl) (by simp) (AllReadyH.cons (o := ⟨_, _, _, _, _, _⟩) rfl (fun K hK => ?_) AllReadyH.nil)
      rewrite [if_pos (wanted_free rfl)]
      with_reducible refine wp_buildRl (.tmp 33) (by with_unfolding_all rfl) nd a7 m c7 (by with_unfolding_all rfl) ?_
      intro Wccc hAWccc hBWccc
      have HW := KpCp.call HW hBWccc
      have hHeld := HSrc.out _ HW.out.below
      have hBt := hBn.trans (hBWccc.mono hBn.size)
      have hOt := hOWcc.below hBWccc
      refine hK.out _ _ hHeld (fun _ => ?_)
      clear hK K
      try simp only [Act.put, List.setIfInBounds_toArray, List.set_cons_zero, List.set_cons_succ]
      refine wpAnyH_ready (rs := [18]) (by kernel_rfl) (by simp) (AllReadyH.cons (o := ⟨_, _, _, _, _, _⟩) rfl (fun K hK => ?_) AllReadyH.nil)
      rewrite [if_pos (wanted_free rfl)]
      with_reducible refine wp_appendRl (.tmp 18) (.tmp 34) (by with_unfolding_all rfl) (GA + 1) vs ys ⟨nd, a7, c7, ks⟩ (by with_unfolding_all rfl) HW.out.own.own Wcc.heap.size (by with_unfolding_all rfl) (by rw [show ks.length = m from HM.out]; exact hAWccc) (by omega) HW.out.sz ?_
      intro v9 wa hO9 hG9 hX9
      obtain ⟨O9, R9, B9⟩ := KpCp.app (y := ⟨nd, a7, c7, ks⟩) HW0 HW hBt (by show OwnI _ _ (.slice a7 ks.length c7) ks; rw [show ks.length = m from HM.out]; exact hOt) hO9 hG9 hX9
      have hHeld := HSrc.out _ B9
      refine hK.out _ _ hHeld (fun _ => ?_)
      clear hK K
      try simp only [Act.put, List.setIfInBounds_toArray, List.set_cons_zero, List.set_cons_succ]
      refine wpAnyH_take (i := 19) (oi := ⟨_, _, _, _, _, _⟩) (v := .pointer (some ⟨GA, 2, none⟩)) rfl (by kernel_rfl) (by kernel_rfl) (by kernel_rfl) (fun _ _ _ h => h) (Or.inl ⟨wanted_free rfl, fun w' hSw => ?_⟩) hHeld ?_
      · go_simp
      try simp only [Act.put, List.setIfInBounds_toArray, List.set_cons_zero, List.set_cons_succ]
      have hq := OwnRw.form hO9
      obtain ⟨a9, c9, e9, -⟩ := hq
      subst e9
      refine wpAnyH_ready (rs := [20]) (by kernel_rfl) (by simp) (AllReadyH.cons (o := ⟨_, _, _, _, _, _⟩) rfl (fun K hK => ?_) AllReadyH.nil)
      rewrite [if_pos (wanted_free rfl)]
      with_reducible refine wp_cellO 26 (.tmp 36) (.tmp 35) (by with_unfolding_all rfl) GA 2 [.int .i64 v, .int .i64 e, vs] [.int .i64 v, .int .i64 e, .slice a9 (ys ++ [(⟨nd, a7, c7, ks⟩ : RoleV)]).length c9] (.slice a9 (ys ++ [(⟨nd, a7, c7, ks⟩ : RoleV)]).length c9) (by with_unfolding_all rfl) (by with_unfolding_all rfl) rfl Try.size1Rls R9 (by simp) rfl ?_
      intro wz hAz hOz
      have HZ := KpCp.put O9 B9 hAz hOz
      have hHeld := HSrc.out _ HZ.out.below
      refine hK.out _ _ hHeld (fun _ => ?_)
      clear hK K
      refine wpAnyH_done (by kernel_rfl) ?_ _
      have M9 := hidP (HSn.out ⟨nd, a7, c7, ks⟩ rfl rfl)
      go_wp2_with fail
      go_roundw
      case rel => exact ⟨k + 1, _, _, by go_num, by omega, by rw [List.length_append, hyl]; rfl, M9, HZ⟩
      case measure => simp [intOf]; omega
    · as_aux_lemma =>
      rewrite [if_pos (wanted_free rfl)]
      with_reducible refine wp_build0 (w := W) (by with_unfolding_all rfl) ?_
      intro Wc hOWc hBWc
      have hE := hOWc
      have zE : W.heap.size ≤ Wc.heap.size := hBWc.size
      have HW := KpCp.call HW hBWc
      have hHeld := HSrc.out _ HW.out.below
      generalize hVE : (Value.slice (some ⟨W.heap.size, 0, none⟩) 0 0) = ve at *
      refine hK.out _ _ hHeld (fun _ => ?_)
      clear hK K
      try simp only [Act.put, List.setIfInBounds_toArray, List.set_cons_zero, List.set_cons_succ]
      refine wpAnyH_ready (rs := [1, 15]) (by kernel_rfl) (by simp) (AllReadyH.cons (o := ⟨_, _, _, _, _, _⟩) rfl (fun K hK => ?_) (AllReadyH.cons (o := ⟨_, _, _, _, _, _⟩) rfl (fun K hK => ?_) AllReadyH.nil))
      · as_aux_lemma =>
        rewrite [if_pos (wanted_free rfl)]
        with_reducible refine wp_load1 26 95 (.tmp 17) (by with_unfolding_all rfl) GA 2 vs (by with_unfolding_all rfl) (HW.out.row.cell rfl) Try.underlying26 ?_
        refine hK.out _ _ hHeld (fun _ => ?_)
        clear hK K
        try simp only [Act.put, List.setIfInBounds_toArray, List.set_cons_zero, List.set_cons_succ]
        refine wpAnyH_ready (rs := [15]) (by kernel_rfl) (by simp) (AllReadyH.cons (o := ⟨_, _, _, _, _, _⟩) rfl (fun K hK => ?_) AllReadyH.nil)
        rewrite [if_pos (wanted_free rfl)]
        refine wp_appendI (W := Wc) (.tmp 25) (.tmp 31) (by with_unfolding_all rfl) _ ve [] kb ko m kc ks (by with_unfolding_all rfl) hE (by with_unfolding_all rfl) HM.out (HAI.out _ HW.out.below) (by simp; omega) zE ?_
        intro v7 Wcc hOWcc hGWcc hXWcc
        have hBn := (hBWc).trans (below_own hE hGWcc zE)
        obtain ⟨a7, c7, e7, -, -⟩ := OwnI.form hOWcc
        rw [List.nil_append] at hOWcc e7
        rw [show ks.length = m from HM.out] at e7
        subst e7
        have HW := KpCp.call HW0 hBn
        have hHeld := HSrc.out _ HW.out.below
        refine hK.out _ _ hHeld (fun _ => ?_)
        clear hK K
        try simp only [Act.put, List.setIfInBounds_toArray, List.set_cons_zero, List.set_cons_succ]
        refine wpAnyH_take (i := 16) (oi := ⟨_, _, _, _, _, _⟩) (v := .agg #[.int .i64 nd, .slice a7 m c7]) rfl (by kernel_rfl) (by kernel_rfl) (by kernel_rfl) (fun _ _ _ h => h) (Or.inl ⟨wanted_free rfl, fun w' hSw => ?_⟩) hHeld ?_
        · go_simp
        try simp only [Act.put, List.setIfInBounds_toArray, List.set_cons_zero, List.set_cons_succ]
        refine wpAnyH_ready (rs := [17]) (by kernel_rfl) (by simp) (AllReadyH.cons (o := ⟨_, _, _, _, _, _⟩) rfl (fun K hK => ?_) AllReadyH.nil)
        rewrite [if_pos (wanted_free rfl)]
        with_reducible refine wp_buildRl (.tmp 33) (by with_unfolding_all rfl) nd a7 m c7 (by with_unfolding_all rfl) ?_
        intro Wccc hAWccc hBWccc
        have HW := KpCp.call HW hBWccc
        have hHeld := HSrc.out _ HW.out.below
        have hBt := hBn.trans (hBWccc.mono hBn.size)
        have hOt := hOWcc.below hBWccc
        refine hK.out _ _ hHeld (fun _ => ?_)
        clear hK K
        try simp only [Act.put, List.setIfInBounds_toArray, List.set_cons_zero, List.set_cons_succ]
        refine wpAnyH_ready (rs := [18]) (by kernel_rfl) (by simp) (AllReadyH.cons (o := ⟨_, _, _, _, _, _⟩) rfl (fun K hK => ?_) AllReadyH.nil)
        rewrite [if_pos (wanted_free rfl)]
        with_reducible refine wp_appendRl (.tmp 18) (.tmp 34) (by with_unfolding_all rfl) (GA + 1) vs ys ⟨nd, a7, c7, ks⟩ (by with_unfolding_all rfl) HW.out.own.own Wcc.heap.size (by with_unfolding_all rfl) (by rw [show ks.length = m from HM.out]; exact hAWccc) (by omega) HW.out.sz ?_
        intro v9 wa hO9 hG9 hX9
        obtain ⟨O9, R9, B9⟩ := KpCp.app (y := ⟨nd, a7, c7, ks⟩) HW0 HW hBt (by show OwnI _ _ (.slice a7 ks.length c7) ks; rw [show ks.length = m from HM.out]; exact hOt) hO9 hG9 hX9
        have hHeld := HSrc.out _ B9
        refine hK.out _ _ hHeld (fun _ => ?_)
        clear hK K
        try simp only [Act.put, List.setIfInBounds_toArray, List.set_cons_zero, List.set_cons_succ]
        refine wpAnyH_take (i := 19) (oi := ⟨_, _, _, _, _, _⟩) (v := .pointer (some ⟨GA, 2, none⟩)) rfl (by kernel_rfl) (by kernel_rfl) (by kernel_rfl) (fun _ _ _ h => h) (Or.inl ⟨wanted_free rfl, fun w' hSw => ?_⟩) hHeld ?_
        · go_simp
        try simp only [Act.put, List.setIfInBounds_toArray, List.set_cons_zero, List.set_cons_succ]
        have hq := OwnRw.form hO9
        obtain ⟨a9, c9, e9, -⟩ := hq
        subst e9
        refine wpAnyH_ready (rs := [20]) (by kernel_rfl) (by simp) (AllReadyH.cons (o := ⟨_, _, _, _, _, _⟩) rfl (fun K hK => ?_) AllReadyH.nil)
        rewrite [if_pos (wanted_free rfl)]
        with_reducible refine wp_cellO 26 (.tmp 36) (.tmp 35) (by with_unfolding_all rfl) GA 2 [.int .i64 v, .int .i64 e, vs] [.int .i64 v, .int .i64 e, .slice a9 (ys ++ [(⟨nd, a7, c7, ks⟩ : RoleV)]).length c9] (.slice a9 (ys ++ [(⟨nd, a7, c7, ks⟩ : RoleV)]).length c9) (by with_unfolding_all rfl) (by with_unfolding_all rfl) rfl Try.size1Rls R9 (by simp) rfl ?_
        intro wz hAz hOz
        have HZ := KpCp.put O9 B9 hAz hOz
        have hHeld := HSrc.out _ HZ.out.below
        refine hK.out _ _ hHeld (fun _ => ?_)
        clear hK K
        refine wpAnyH_done (by kernel_rfl) ?_ _
        have M9 := hidP (HSn.out ⟨nd, a7, c7, ks⟩ rfl rfl)
        go_wp2_with fail
        go_roundw
        case rel => exact ⟨k + 1, _, _, by go_num, by omega, by rw [List.length_append, hyl]; rfl, M9, HZ⟩
        case measure => simp [intOf]; omega
      · as_aux_lemma =>
        rewrite [if_pos (wanted_free rfl)]
        refine wp_appendI (W := Wc) (.tmp 25) (.tmp 31) (by with_unfolding_all rfl) _ ve [] kb ko m kc ks (by with_unfolding_all rfl) hE (by with_unfolding_all rfl) HM.out (HAI.out _ HW.out.below) (by simp; omega) zE ?_
        intro v7 Wcc hOWcc hGWcc hXWcc
        have hBn := (hBWc).trans (below_own hE hGWcc zE)
        obtain ⟨a7, c7, e7, -, -⟩ := OwnI.form hOWcc
        rw [List.nil_append] at hOWcc e7
        rw [show ks.length = m from HM.out] at e7
        subst e7
        have HW := KpCp.call HW0 hBn
        have hHeld := HSrc.out _ HW.out.below
        refine hK.out _ _ hHeld (fun _ => ?_)
        clear hK K
        try simp only [Act.put, List.setIfInBounds_toArray, List.set_cons_zero, List.set_cons_succ]
        refine wpAnyH_take (i := 16) (oi := ⟨_, _, _, _, _, _⟩) (v := .agg #[.int .i64 nd, .slice a7 m c7]) rfl (by kernel_rfl) (by kernel_rfl) (by kernel_rfl) (fun _ _ _ h => h) (Or.inl ⟨wanted_free rfl, fun w' hSw => ?_⟩) hHeld ?_
        · go_simp
        try simp only [Act.put, List.setIfInBounds_toArray, List.set_cons_zero, List.set_cons_succ]
        refine wpAnyH_ready (rs := [1, 17]) (by kernel_rfl) (by simp) (AllReadyH.cons (o := ⟨_, _, _, _, _, _⟩) rfl (fun K hK => ?_) (AllReadyH.cons (o := ⟨_, _, _, _, _, _⟩) rfl (fun K hK => ?_) AllReadyH.nil))
        · as_aux_lemma =>
          rewrite [if_pos (wanted_free rfl)]
          with_reducible refine wp_load1 26 95 (.tmp 17) (by with_unfolding_all rfl) GA 2 vs (by with_unfolding_all rfl) (HW.out.row.cell rfl) Try.underlying26 ?_
          refine hK.out _ _ hHeld (fun _ => ?_)
          clear hK K
          try simp only [Act.put, List.setIfInBounds_toArray, List.set_cons_zero, List.set_cons_succ]
          refine wpAnyH_ready (rs := [17]) (by kernel_rfl) (by simp) (AllReadyH.cons (o := ⟨_, _, _, _, _, _⟩) rfl (fun K hK => ?_) AllReadyH.nil)
          rewrite [if_pos (wanted_free rfl)]
          with_reducible refine wp_buildRl (.tmp 33) (by with_unfolding_all rfl) nd a7 m c7 (by with_unfolding_all rfl) ?_
          intro Wccc hAWccc hBWccc
          have HW := KpCp.call HW hBWccc
          have hHeld := HSrc.out _ HW.out.below
          have hBt := hBn.trans (hBWccc.mono hBn.size)
          have hOt := hOWcc.below hBWccc
          refine hK.out _ _ hHeld (fun _ => ?_)
          clear hK K
          try simp only [Act.put, List.setIfInBounds_toArray, List.set_cons_zero, List.set_cons_succ]
          refine wpAnyH_ready (rs := [18]) (by kernel_rfl) (by simp) (AllReadyH.cons (o := ⟨_, _, _, _, _, _⟩) rfl (fun K hK => ?_) AllReadyH.nil)
          rewrite [if_pos (wanted_free rfl)]
          with_reducible refine wp_appendRl (.tmp 18) (.tmp 34) (by with_unfolding_all rfl) (GA + 1) vs ys ⟨nd, a7, c7, ks⟩ (by with_unfolding_all rfl) HW.out.own.own Wcc.heap.size (by with_unfolding_all rfl) (by rw [show ks.length = m from HM.out]; exact hAWccc) (by omega) HW.out.sz ?_
          intro v9 wa hO9 hG9 hX9
          obtain ⟨O9, R9, B9⟩ := KpCp.app (y := ⟨nd, a7, c7, ks⟩) HW0 HW hBt (by show OwnI _ _ (.slice a7 ks.length c7) ks; rw [show ks.length = m from HM.out]; exact hOt) hO9 hG9 hX9
          have hHeld := HSrc.out _ B9
          refine hK.out _ _ hHeld (fun _ => ?_)
          clear hK K
          try simp only [Act.put, List.setIfInBounds_toArray, List.set_cons_zero, List.set_cons_succ]
          refine wpAnyH_take (i := 19) (oi := ⟨_, _, _, _, _, _⟩) (v := .pointer (some ⟨GA, 2, none⟩)) rfl (by kernel_rfl) (by kernel_rfl) (by kernel_rfl) (fun _ _ _ h => h) (Or.inl ⟨wanted_free rfl, fun w' hSw => ?_⟩) hHeld ?_
          · go_simp
          try simp only [Act.put, List.setIfInBounds_toArray, List.set_cons_zero, List.set_cons_succ]
          have hq := OwnRw.form hO9
          obtain ⟨a9, c9, e9, -⟩ := hq
          subst e9
          refine wpAnyH_ready (rs := [20]) (by kernel_rfl) (by simp) (AllReadyH.cons (o := ⟨_, _, _, _, _, _⟩) rfl (fun K hK => ?_) AllReadyH.nil)
          rewrite [if_pos (wanted_free rfl)]
          with_reducible refine wp_cellO 26 (.tmp 36) (.tmp 35) (by with_unfolding_all rfl) GA 2 [.int .i64 v, .int .i64 e, vs] [.int .i64 v, .int .i64 e, .slice a9 (ys ++ [(⟨nd, a7, c7, ks⟩ : RoleV)]).length c9] (.slice a9 (ys ++ [(⟨nd, a7, c7, ks⟩ : RoleV)]).length c9) (by with_unfolding_all rfl) (by with_unfolding_all rfl) rfl Try.size1Rls R9 (by simp) rfl ?_
          intro wz hAz hOz
          have HZ := KpCp.put O9 B9 hAz hOz
          have hHeld := HSrc.out _ HZ.out.below
          refine hK.out _ _ hHeld (fun _ => ?_)
          clear hK K
          refine wpAnyH_done (by kernel_rfl) ?_ _
          have M9 := hidP (HSn.out ⟨nd, a7, c7, ks⟩ rfl rfl)
          go_wp2_with fail
          go_roundw
          case rel => exact ⟨k + 1, _, _, by go_num, by omega, by rw [List.length_append, hyl]; rfl, M9, HZ⟩
          case measure => simp [intOf]; omega
        · as_aux_lemma =>
          rewrite [if_pos (wanted_free rfl)]
          with_reducible refine wp_buildRl (.tmp 33) (by with_unfolding_all rfl) nd a7 m c7 (by with_unfolding_all rfl) ?_
          intro Wccc hAWccc hBWccc
          have HW := KpCp.call HW hBWccc
          have hHeld := HSrc.out _ HW.out.below
          have hBt := hBn.trans (hBWccc.mono hBn.size)
          have hOt := hOWcc.below hBWccc
          refine hK.out _ _ hHeld (fun _ => ?_)
          clear hK K
          try simp only [Act.put, List.setIfInBounds_toArray, List.set_cons_zero, List.set_cons_succ]
          refine wpAnyH_ready (rs := [1]) (by kernel_rfl) (by simp) (AllReadyH.cons (o := ⟨_, _, _, _, _, _⟩) rfl (fun K hK => ?_) AllReadyH.nil)
          rewrite [if_pos (wanted_free rfl)]
          with_reducible refine wp_load1 26 95 (.tmp 17) (by with_unfolding_all rfl) GA 2 vs (by with_unfolding_all rfl) (HW.out.row.cell rfl) Try.underlying26 ?_
          refine hK.out _ _ hHeld (fun _ => ?_)
          clear hK K
          try simp only [Act.put, List.setIfInBounds_toArray, List.set_cons_zero, List.set_cons_succ]
          refine wpAnyH_ready (rs := [18]) (by kernel_rfl) (by simp) (AllReadyH.cons (o := ⟨_, _, _, _, _, _⟩) rfl (fun K hK => ?_) AllReadyH.nil)
          rewrite [if_pos (wanted_free rfl)]
          with_reducible refine wp_appendRl (.tmp 18) (.tmp 34) (by with_unfolding_all rfl) (GA + 1) vs ys ⟨nd, a7, c7, ks⟩ (by with_unfolding_all rfl) HW.out.own.own Wcc.heap.size (by with_unfolding_all rfl) (by rw [show ks.length = m from HM.out]; exact hAWccc) (by omega) HW.out.sz ?_
          intro v9 wa hO9 hG9 hX9
          obtain ⟨O9, R9, B9⟩ := KpCp.app (y := ⟨nd, a7, c7, ks⟩) HW0 HW hBt (by show OwnI _ _ (.slice a7 ks.length c7) ks; rw [show ks.length = m from HM.out]; exact hOt) hO9 hG9 hX9
          have hHeld := HSrc.out _ B9
          refine hK.out _ _ hHeld (fun _ => ?_)
          clear hK K
          try simp only [Act.put, List.setIfInBounds_toArray, List.set_cons_zero, List.set_cons_succ]
          refine wpAnyH_take (i := 19) (oi := ⟨_, _, _, _, _, _⟩) (v := .pointer (some ⟨GA, 2, none⟩)) rfl (by kernel_rfl) (by kernel_rfl) (by kernel_rfl) (fun _ _ _ h => h) (Or.inl ⟨wanted_free rfl, fun w' hSw => ?_⟩) hHeld ?_
          · go_simp
          try simp only [Act.put, List.setIfInBounds_toArray, List.set_cons_zero, List.set_cons_succ]
          have hq := OwnRw.form hO9
          obtain ⟨a9, c9, e9, -⟩ := hq
          subst e9
          refine wpAnyH_ready (rs := [20]) (by kernel_rfl) (by simp) (AllReadyH.cons (o := ⟨_, _, _, _, _, _⟩) rfl (fun K hK => ?_) AllReadyH.nil)
          rewrite [if_pos (wanted_free rfl)]
          with_reducible refine wp_cellO 26 (.tmp 36) (.tmp 35) (by with_unfolding_all rfl) GA 2 [.int .i64 v, .int .i64 e, vs] [.int .i64 v, .int .i64 e, .slice a9 (ys ++ [(⟨nd, a7, c7, ks⟩ : RoleV)]).length c9] (.slice a9 (ys ++ [(⟨nd, a7, c7, ks⟩ : RoleV)]).length c9) (by with_unfolding_all rfl) (by with_unfolding_all rfl) rfl Try.size1Rls R9 (by simp) rfl ?_
          intro wz hAz hOz
          have HZ := KpCp.put O9 B9 hAz hOz
          have hHeld := HSrc.out _ HZ.out.below
          refine hK.out _ _ hHeld (fun _ => ?_)
          clear hK K
          refine wpAnyH_done (by kernel_rfl) ?_ _
          have M9 := hidP (HSn.out ⟨nd, a7, c7, ks⟩ rfl rfl)
          go_wp2_with fail
          go_roundw
          case rel => exact ⟨k + 1, _, _, by go_num, by omega, by rw [List.length_append, hyl]; rfl, M9, HZ⟩
          case measure => simp [intOf]; omega
end Go.Proofs.Ytdfglpbappeoaaa
