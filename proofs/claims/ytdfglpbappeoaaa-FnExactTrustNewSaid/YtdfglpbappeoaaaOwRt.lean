/- ownRoot of the program: a root whose roles' row and keys' rows are the call's own. -/
import Derived.Test.YtdfglpbappeoaaaOwnR
import Derived.Test.YtdfglpbappeoaaaClI
import Derived.Test.YtdfglpbappeoaaaJn6
import Derived.Deep.RegionHeld3
namespace Go.Proofs.Ytdfglpbappeoaaa
open Go.RowKit
set_option linter.unusedVariables false

theorem rl_drew {w : World} {g : Nat} {nd : Int} {a : Option Addr} {n c : Nat} (h : RowV w g (rlv nd a n c)) : w.drew.cell? ⟨g, 0, none⟩ = some (.int .i64 nd) ∧ w.drew.cell? ⟨g, 1, none⟩ = some (.slice a n c) := h.drew.rl
theorem rl_grown {w w' : World} {g : Nat} {nd : Int} {a : Option Addr} {n c : Nat} {row : Option Nat} (h : RowV w g (rlv nd a n c)) (hg : w.grownBy w' row) (hn : some g ≠ row) : w'.cell? ⟨g, 0, none⟩ = some (.int .i64 nd) ∧ w'.cell? ⟨g, 1, none⟩ = some (.slice a n c) := ⟨hg.cell h.rl.1 hn, hg.cell h.rl.2 hn⟩
theorem OwR.off1 {w w' : World} {base G : Nat} {v : Value} {l : List RoleV} (h : OwR w base v l) (ho : Only G w w') (hn : G < base) : OwR w' base v l :=
  ⟨own_same h.own (fun k hk hl => ho.blk k (by have := own_ge h.own hk; omega) hl), fun i hi => ownI_same (h.ks i hi) (fun k hk hl => ho.blk k (by have := ownI_ge (h.ks i hi) hk; omega) hl), h.off, h.dis⟩
theorem below_own {w w' : World} {base e s : Nat} {v : Value} {n : Nat} {xs : List Value} (h : w.ownsRow base e s v n xs) (hg : w.grownBy w' v.ownBlock) (hb : base ≤ w.heap.size) : Below base w w' := 
  ⟨hg.os, hg.tape, hg.output, hg.size, fun k hk => hg.block k (by omega) (fun e => by have := (own_ge h e.symm).1; omega)⟩
theorem wpList_cellO {P : Program} {ops : Array Oper} {rest : List Oper} {o : Oper} {a : Act} {w : World} {Q : Exit → Act → World → Prop} (hg : o.guard = none) (t : TypeId) (x y : Operand) (ho : o.op = .store t x y) (g k : Nat) (l l' : List Value) (v : Value)
    (hx : a.eval x = .pointer (some ⟨g, k, none⟩)) (hy : a.eval y = v) (hp : plainV v = true) (hi : (P.info? t).map (·.size) = some 1) (hl : RowV w g l) (hk : k < l.length) (hl' : l' = l.set k v)
    (h : ∀ w', RowV w' g l' → Only g w w' → wpList P ops Q rest (a.put o.dst undef) w') : wpList P ops Q (o :: rest) a w :=
  wpList_plain hg fun K hK => wp_cellO t x y ho g k l l' v hx hy hp hi hl hk hl' (fun w' h1 h2 => hK _ _ (h w' h1 h2))
theorem OwR.drew {w : World} {base : Nat} {v : Value} {l : List RoleV} (h : OwR w base v l) : OwR w.drew base v l := ⟨h.own, h.ks, h.off, h.dis⟩
set_option maxRecDepth 100000 in
set_option maxHeartbeats 4000000 in
theorem ownRt (v e : Int) (a : Option Addr) (c n : Nat) (rs : List RoleV) (w : World) (hn : rs.length = n) (h : RlsAt w a rs) (hm : n ≤ 1000) (hk : ∀ r ∈ rs, r.ks ≠ [] ∧ r.ks.length ≤ 1000) :
    Calls Try.prog 47 #[.agg #[.int .i64 v, .int .i64 e, .slice a n c]] w fun r w' => ∃ a' c' ys B, r = .returned (.agg #[.int .i64 v, .int .i64 e, .slice a' n c']) ∧ OwR w' B (.slice a' n c') ys ∧ rkeys ys = rkeys rs ∧ w.heap.size ≤ B ∧ Below w.heap.size w w' := by
  have HN : Hid (rs.length = n) := hn
  have HA : Hid (RlsAt w a rs) := h
  have HK : Hid (∀ r ∈ rs, r.ks ≠ [] ∧ r.ks.length ≤ 1000) := hk
  clear h hn hk
  go_enter Try.func47, Try.ntmps47
  go_wp2_with (first
    | (with_reducible refine wpList_boxV (w := w) (by with_unfolding_all rfl) 28 (.tmp 0) (by with_unfolding_all rfl) (rtv v e a n c) (by with_unfolding_all rfl) ?_; intro w1 hA1 hB1 hS1; have z1 : w.heap.size < w1.heap.size := (by omega); clear hS1)
    | (with_reducible refine wpList_allocV (w := w1) (by with_unfolding_all rfl) 28 (by with_unfolding_all rfl) (rtv 0 0 none 0 0) Try.infoRtz ?_; intro w2 hA2 hB2 hS2; have z2 : w1.heap.size < w2.heap.size := (by omega); clear hS2; have R2 := hA1.below hB2 z1; obtain ⟨p0, p1, p2⟩ := R2.rt3))
  have HA2 := hidP (HA.out.below (hB1.trans (hB2.mono (Nat.le_of_lt z1))))
  have B02 := hidP (hB1.trans (hB2.mono (Nat.le_of_lt z1)))
  obtain ⟨B, hB⟩ : ∃ B, w2.heap.size = B := ⟨_, rfl⟩
  have HR2 : Hid (RowV w2 w.heap.size (rtv v e a n c)) := R2
  have HZ2 : Hid (RowV w2 w1.heap.size (rtv 0 0 none 0 0)) := hA2
  generalize w1.heap.size = G2 at *
  have HBe : Hid (w2.heap.size = B) := hB
  clear hA1 hB1 hB2 hA2 p0 p1 p2 HA R2
  go_loopw [3, 9] (fun vk vi wr => ∃ (k : Nat) (v : Value) (ys : List RoleV), v = vk ∧ vi = .int .i64 (k : Int) ∧ k ≤ n ∧ ys.length = k ∧ Hid (rkeys ys = rkeys (rs.take k)) ∧ Hid (OwR wr B v ys) ∧ Hid (Below B w2 wr)) (fun _ vi _ => n - (intOf vi).toNat)
  case atStart => exact ⟨0, _, [], rfl, rfl, Nat.zero_le _, rfl, rfl, OwR.nil, Below.refl _ _⟩
  case round =>
    obtain ⟨k, vr, ys, rfl, rfl, hk, hyl, HM0, HO, HB⟩ := hrel
    by_cases hlt : k < n
    case neg =>
      obtain rfl : k = n := by omega
      have HMe : Hid (rkeys ys = rkeys rs) := by show _ = _; rw [HM0.out, ← HN.out, List.take_length]
      have RR := hidP (HR2.out.below HB.out (by omega))
      have ZZ := hidP (HZ2.out.below HB.out (by omega))
      obtain ⟨a', c', hv, -⟩ := OwnRw.form HO.out.own
      subst hv
      rw [hyl] at HO ⊢
      have y1 : w.heap.size < B := by omega
      have y2 : G2 < B := by omega
      have y0 : w.heap.size < G2 := by omega
      have y3 : B ≤ wr.heap.size := by rw [← HBe.out]; exact HB.out.size
      have HOn : Hid (∀ w5, Only w.heap.size wr w5 → OwR w5 B (.slice a' k c') ys ∧ RowV w5 G2 (rtv 0 0 none 0 0) ∧ Below w.heap.size w w5) := fun w5 h => ⟨HO.out.off1 h y1, h.row ZZ.out (rtv_ne _ _ _ _ _) (by omega), B02.out.trans ((HB.out.mono (by omega)).trans (h.bel (by omega)))⟩
      clear HM0 HA2 HK HR2 HZ2
      go_wp2_with (first
        | (with_reducible refine wpList_cellO (w := wr) (by with_unfolding_all rfl) 26 (.tmp 24) (.tmp 23) (by with_unfolding_all rfl) w.heap.size 2 (rtv v e a k c) (rtv v e a' k c') (.slice a' k c') (by with_unfolding_all rfl) (by with_unfolding_all rfl) rfl Try.size1Rls RR.out (by simp [rtv]) rfl ?_; intro w5 hA5 hO5; obtain ⟨o5, z5, b5⟩ := HOn.out w5 hO5; have O5 := hidP o5; have Z5 := hidP z5; have B5 := hidP b5; clear o5 z5 b5 hO5)
        | (with_reducible refine wpList_loadV (w := w5) (by with_unfolding_all rfl) 28 (.tmp 1) (by with_unfolding_all rfl) w.heap.size (rtv v e a' k c') (by with_unfolding_all rfl) hA5 Try.undRt 3 Try.sizeRt (by with_unfolding_all rfl) ?_)
        | (with_reducible refine wpList_storeH (w := w5) (by with_unfolding_all rfl) 28 (.tmp 2) (.tmp 25) (by with_unfolding_all rfl) G2 (rtv 0 0 none 0 0) (rtv v e a' k c') (by with_unfolding_all rfl) (by with_unfolding_all rfl) Z5.out 3 Try.sizeRt (by with_unfolding_all rfl) (by with_unfolding_all rfl) (rtv_one _ _ _ _ _) ?_; intro wz hAz hBz hFz hSz; have oz := Only.set hBz hFz hSz; have OZ := hidP (O5.out.off1 oz y2); have BZ := hidP (B5.out.trans (oz.bel (Nat.le_of_lt y0)))))
      exact bodyPost_ret (results_V (t := 28) rfl _ G2 _ rfl hAz Try.undRt 3 Try.sizeRt rfl) rfl ⟨a', c', ys, B, rfl, OZ.out, HMe.out, by omega, BZ.out⟩
    have hkl : k < rs.length := by have := HN.out; omega
    obtain ⟨b, o, rfl, hc0, hc1, hai⟩ := (HA2.out.below (HBe.out ▸ HB.out)) k hkl
    obtain ⟨hne, hk2⟩ := HK.out rs[k] (List.getElem_mem hkl)
    obtain ⟨kb, ko, hka, -⟩ := hai 0 (List.length_pos_iff.2 hne)
    have lk : (k : Int) < n := by omega
    have l0 : (0 : Int) ≤ k := by omega
    have HSn : Hid (∀ r, r.need = rs[k].need → r.ks = rs[k].ks → rkeys (ys ++ [r]) = rkeys (rs.take (k + 1))) := fun r h1 h2 => rkeys_snoc HM0.out hkl h1 h2
    have HAI : Hid (∀ w0, Below B w2 w0 → AI w0 rs[k].ka rs[k].ks) := fun w0 h0 => by
      obtain ⟨_, _, _, _, _, h4⟩ := (HA2.out.below (HBe.out ▸ h0)) k hkl
      exact h4
    rw [hka] at hc1 HAI
    clear hai hka hne
    generalize rs[k].need = nd at *
    generalize rs[k].kc = kc at *
    generalize rs[k].ks = ks at *
    obtain ⟨m, hm2⟩ : ∃ m, ks.length = m := ⟨_, rfl⟩
    have HM : Hid (ks.length = m) := hm2
    rw [hm2] at hc1 hk2
    have hCl : ∀ w0, Below B w2 w0 → Calls Try.prog 98 #[.slice (some ⟨kb, ko, none⟩) m kc] w0 fun e w' => ∃ a7 c7, e = .returned (.slice a7 m c7) ∧ OwnI w' w0.heap.size (.slice a7 m c7) ks ∧ Below w0.heap.size w0 w' := fun w0 h0 => (cloneI kb ko m kc ks w0 HM.out (HAI.out w0 h0) hk2).mono (by
      rintro r w' ⟨v, rfl, h1, h2⟩
      obtain ⟨a5, c5, rfl, -, -⟩ := OwnI.form h1
      rw [HM.out] at h1 ⊢
      exact ⟨a5, c5, rfl, h1, h2⟩)
    clear hm2 HM0 HA2
    go_wp2_with fail
    generalize hG5 : wr.heap.size = G5 at *
    have HA5 : Hid (RowV (wr.alloc (.cells #[.int .i64 nd, .slice (some ⟨kb, ko, none⟩) m kc] 95)) G5 (rlv nd (some ⟨kb, ko, none⟩) m kc)) := by rw [← hG5]; exact RowV.new wr (rlv nd (some ⟨kb, ko, none⟩) m kc) 95
    have hb5 : Below G5 wr (wr.alloc (.cells #[.int .i64 nd, .slice (some ⟨kb, ko, none⟩) m kc] 95)) := by rw [← hG5]; exact below_alloc _ _
    have O6 := hidP (HO.out.below (hG5 ▸ hb5)).drew
    have N6 := hidP (fun k (hk : vr.ownBlock = some k) => hG5 ▸ (own_ge HO.out.own hk).2)
    have hBG : B ≤ G5 := by rw [← hG5, ← HBe.out]; exact HBe.out ▸ HB.out.size
    have B6 := hidP (HB.out.trans (hb5.mono hBG)).drew
    generalize wr.alloc (.cells #[.int .i64 nd, .slice (some ⟨kb, ko, none⟩) m kc] 95) = w5 at *
    have A6 := hidP HA5.out.drew
    have z6 := hidP (A6.out.lt (rlv_ne _ _ _ _))
    refine wp_region_held_drew (S := fun w' => w'.cell? ⟨G5, 0, none⟩ = some (.int .i64 nd) ∧ w'.cell? ⟨G5, 1, none⟩ = some (.slice (some ⟨kb, ko, none⟩) m kc)) (by kernel_rfl) (rl_drew HA5.out) (fun hHeld => ?_)
    refine wpAnyH_take (i := 0) (oi := ⟨_, _, _, _, _, _⟩) (v := vr) rfl (by kernel_rfl) (by kernel_rfl) (by kernel_rfl) (fun _ _ _ h => h) (Or.inl ⟨wanted_free rfl, fun w' hSw => ?_⟩) hHeld ?_
    · go_simp
    try simp only [Act.put, List.setIfInBounds_toArray, List.set_cons_zero, List.set_cons_succ]
    refine wpAnyH_take (i := 1) (oi := ⟨_, _, _, _, _, _⟩) (v := .pointer (some ⟨G5, 0, none⟩)) rfl (by kernel_rfl) (by kernel_rfl) (by kernel_rfl) (fun _ _ _ h => h) (Or.inl ⟨wanted_free rfl, fun w' hSw => ?_⟩) hHeld ?_
    · go_simp
    try simp only [Act.put, List.setIfInBounds_toArray, List.set_cons_zero, List.set_cons_succ]
    refine wpAnyH_take (i := 2) (oi := ⟨_, _, _, _, _, _⟩) (v := .int .i64 nd) rfl (by kernel_rfl) (by kernel_rfl) (by kernel_rfl) (fun _ _ _ h => h) (Or.inl ⟨wanted_free rfl, fun w' hSw => ?_⟩) hHeld ?_
    · obtain ⟨s0, s1⟩ := hSw
      go_simp
    try simp only [Act.put, List.setIfInBounds_toArray, List.set_cons_zero, List.set_cons_succ]
    refine wpAnyH_take (i := 3) (oi := ⟨_, _, _, _, _, _⟩) (v := .pointer (some ⟨G5, 1, none⟩)) rfl (by kernel_rfl) (by kernel_rfl) (by kernel_rfl) (fun _ _ _ h => h) (Or.inl ⟨wanted_free rfl, fun w' hSw => ?_⟩) hHeld ?_
    · go_simp
    try simp only [Act.put, List.setIfInBounds_toArray, List.set_cons_zero, List.set_cons_succ]
    refine wpAnyH_take (i := 4) (oi := ⟨_, _, _, _, _, _⟩) (v := .slice (some ⟨kb, ko, none⟩) m kc) rfl (by kernel_rfl) (by kernel_rfl) (by kernel_rfl) (fun _ _ _ h => h) (Or.inl ⟨wanted_free rfl, fun w' hSw => ?_⟩) hHeld ?_
    · obtain ⟨s0, s1⟩ := hSw
      go_simp
    try simp only [Act.put, List.setIfInBounds_toArray, List.set_cons_zero, List.set_cons_succ]
    generalize w5.drew = w6 at *
    have zB := hidP (show B ≤ w6.heap.size from HBe.out ▸ B6.out.size)
    refine wpAnyH_ready (rs := [5]) (by kernel_rfl) (by simp) (AllReadyH.cons (o := ⟨_, _, _, _, _, _⟩) rfl (fun K hK => ?_) AllReadyH.nil)
    rewrite [if_pos (wanted_free rfl)]
    go_simp
    refine (hCl w6 B6.out).mono ?_
    rintro r w7 ⟨a7, c7, rfl, hO7, hB7⟩
    go_wp2_with fail
    have A7 := hidP (A6.out.below hB7 z6.out)
    refine hK.out _ _ A7.out.rl (fun _ => ?_)
    clear hK K
    try simp only [Act.put, List.setIfInBounds_toArray, List.set_cons_zero, List.set_cons_succ]
    refine wpAnyH_take (i := 6) (oi := ⟨_, _, _, _, _, _⟩) (v := .agg #[.int .i64 nd, .slice a7 m c7]) rfl (by kernel_rfl) (by kernel_rfl) (by kernel_rfl) (fun _ _ _ h => h) (Or.inl ⟨wanted_free rfl, fun w' hSw => ?_⟩) A7.out.rl ?_
    · go_simp
    try simp only [Act.put, List.setIfInBounds_toArray, List.set_cons_zero, List.set_cons_succ]
    refine wpAnyH_ready (rs := [7]) (by kernel_rfl) (by simp) (AllReadyH.cons (o := ⟨_, _, _, _, _, _⟩) rfl (fun K hK => ?_) AllReadyH.nil)
    rewrite [if_pos (wanted_free rfl)]
    with_reducible refine wp_buildRl (.tmp 19) (by with_unfolding_all rfl) nd a7 m c7 (by with_unfolding_all rfl) ?_
    intro w8 hA8 hB8
    have A8 := hidP (A7.out.below hB8 (Nat.lt_of_lt_of_le z6.out hB7.size))
    refine hK.out _ _ A8.out.rl (fun _ => ?_)
    clear hK K
    try simp only [Act.put, List.setIfInBounds_toArray, List.set_cons_zero, List.set_cons_succ]
    refine wpAnyH_ready (rs := [8]) (by kernel_rfl) (by simp) (AllReadyH.cons (o := ⟨_, _, _, _, _, _⟩) rfl (fun K hK => ?_) AllReadyH.nil)
    rewrite [if_pos (wanted_free rfl)]
    with_reducible refine wp_appendRl (.tmp 13) (.tmp 20) (by with_unfolding_all rfl) B vr ys ⟨nd, a7, c7, ks⟩ (by with_unfolding_all rfl) (O6.out.below (hB7.trans (hB8.mono hB7.size))).own w7.heap.size (by with_unfolding_all rfl) (by rw [show ks.length = m from HM.out]; exact hA8) (by omega) (Nat.le_trans (Nat.le_trans zB.out hB7.size) hB8.size) ?_
    intro v9 w9 hO9 hG9 hX9
    refine hK.out _ _ ?_ (fun _ => ?_)
    · exact rl_grown A8.out hG9 (fun e => Nat.lt_irrefl _ (N6.out _ e.symm))
    clear hK K
    try simp only [Act.put, List.setIfInBounds_toArray, List.set_cons_zero, List.set_cons_succ]
    have O9 := hidP (OwR.snoc (y := ⟨nd, a7, c7, ks⟩) O6.out (hB7.trans (hB8.mono hB7.size)) (by show OwnI w8 _ (.slice a7 ks.length c7) ks; rw [show ks.length = m from HM.out]; exact hO7.below hB8) zB.out hO9 hG9 hX9)
    have B9 := hidP (B6.out.trans ((hB7.mono zB.out).trans ((hB8.mono (Nat.le_trans zB.out hB7.size)).trans (below_own ((O6.out.below (hB7.trans (hB8.mono hB7.size))).own) hG9 (Nat.le_trans (Nat.le_trans zB.out hB7.size) hB8.size)))))
    have M9 := hidP (HSn.out ⟨nd, a7, c7, ks⟩ rfl rfl)
    refine wpAnyH_take (i := 9) (oi := ⟨_, _, _, _, _, _⟩) (v := v9) rfl (by kernel_rfl) (by kernel_rfl) (by kernel_rfl) (fun _ _ _ h => h) (Or.inl ⟨wanted_free rfl, fun w' hSw => ?_⟩) (rl_grown A8.out hG9 (fun e => Nat.lt_irrefl _ (N6.out _ e.symm))) ?_
    · go_simp
    try simp only [Act.put, List.setIfInBounds_toArray, List.set_cons_zero, List.set_cons_succ]
    refine wpAnyH_done (by kernel_rfl) ?_ _
    clear hO7 hA8 hO9 hB7 hB8 hG9 hX9 A6 A7 A8 O6 B6 HAI hCl HSn HO HB
    go_wp2_with fail
    go_roundw
    case rel => exact ⟨k + 1, v9, _, rfl, by go_num, by omega, by rw [List.length_append, hyl]; rfl, M9, O9, B9⟩
    case measure => simp [intOf]; omega
end Go.Proofs.Ytdfglpbappeoaaa
