/- Are targets right? On the program's side. -/
import Derived.Test.YtdfglpbappeoaabDoorMetU
import Derived.Test.YtdfglpbappeoaabDoorPnI
namespace Go.Proofs.YtdfglpbappeoaabDoor
open Go.RowKit
set_option linter.unusedVariables false

theorem implNameB (s : ByteArray) (w : World) (hs : s.size ≤ maxLen) : Calls Tryd.prog 158 #[.string s] w fun e w' => e = .returned (.bool (nameB s)) ∧ w = w' := by
  refine (implName s w hs).mono ?_
  rintro e w' ⟨⟨b, rfl, hb⟩, rfl⟩
  refine ⟨?_, rfl⟩
  have : b = nameB s := by
    cases b with
    | true => exact (nameB_yes (hb.1 rfl)).symm
    | false => exact (nameB_no (fun h => by have := hb.2 h; cases this)).symm
  rw [this]
theorem sizedI (t : ByteArray) (w : World) (hm : t.size ≤ maxLen) :
    Calls Tryd.prog 45 #[.string t] w fun e w' => e = .returned (.bool (decide (t.size = 32))) ∧ w = w' := by
  unfold maxLen at hm
  by_cases h : t.size = 32
  · rw [decide_eq_true h]
    have d1 : ((t.size : Int) == 32) = true := beq_iff_eq.2 (by omega)
    go_enter Tryd.func45, Tryd.ntmps45
    go_wp2
    go_ret
    exact ⟨rfl, rfl⟩
  · rw [decide_eq_false h]
    have d1 : ((t.size : Int) == 32) = false := beq_eq_false_iff_ne.2 (by omega)
    go_enter Tryd.func45, Tryd.ntmps45
    go_wp2
    go_ret
    exact ⟨rfl, rfl⟩
set_option maxRecDepth 100000 in
set_option maxHeartbeats 1000000 in
theorem implTar (xn xi : ByteArray) (xs : Int) (w : World) (h1 : xn.size ≤ maxLen) (h2 : xi.size ≤ maxLen) :
    Calls Tryd.prog 138 #[.agg #[.string xn, .string xi, .int .i64 xs]] w fun e w' => e = .returned (.bool (TarV.ok ⟨xn, xi, xs⟩)) ∧ Below w.heap.size w w' := by
  have hN : ∀ w0, Calls Tryd.prog 158 #[.string xn] w0 fun e w' => e = .returned (.bool (nameB xn)) ∧ w0 = w' := fun w0 => implNameB xn w0 h1
  have hD : ∀ w0, Calls Tryd.prog 45 #[.string xi] w0 fun e w' => e = .returned (.bool (decide (xi.size = 32))) ∧ w0 = w' := fun w0 => sizedI xi w0 h2
  have hR : TarV.ok ⟨xn, xi, xs⟩ = (nameB xn && (decide (xi.size = 32) && (decide (0 ≤ xs) && decide (xs ≤ 1000000)))) := by
    unfold TarV.ok
    show (nameB xn && decide (xi.size = 32 ∧ 0 ≤ xs ∧ xs ≤ 1000000)) = _
    rw [Bool.decide_and, Bool.decide_and]
  rw [hR]
  clear hR h1 h2
  generalize nameB xn = b1 at *
  generalize decide (xi.size = 32) = b2 at *
  cases b1 <;> cases b2
  case true.true =>
    by_cases h3 : 0 ≤ xs
    · have d3 : decide (0 ≤ xs) = true := decide_eq_true h3
      rw [d3]
      by_cases h4 : xs ≤ 1000000
      · have d4 : decide (xs ≤ 1000000) = true := decide_eq_true h4
        rw [d4]
        go_enter Tryd.func138, Tryd.ntmps138
        go_wp2_with (first
          | (with_reducible refine wpList_boxV (w := w) (by with_unfolding_all rfl) 162 (.tmp 0) (by with_unfolding_all rfl) (tgv xn xi xs) (by with_unfolding_all rfl) ?_; intro w1 hA1 hB1 hS1; obtain ⟨p0, p1, p2⟩ := hA1.tg; clear hS1)
          | (go_at_call 158; with_reducible refine (hN _).mono ?_; rintro r w' ⟨rfl, rfl⟩)
          | (go_at_call 45; with_reducible refine (hD _).mono ?_; rintro r w' ⟨rfl, rfl⟩))
        go_ret
        exact ⟨rfl, hB1⟩
      · have d4 : decide (xs ≤ 1000000) = false := decide_eq_false h4
        rw [d4]
        go_enter Tryd.func138, Tryd.ntmps138
        go_wp2_with (first
          | (with_reducible refine wpList_boxV (w := w) (by with_unfolding_all rfl) 162 (.tmp 0) (by with_unfolding_all rfl) (tgv xn xi xs) (by with_unfolding_all rfl) ?_; intro w1 hA1 hB1 hS1; obtain ⟨p0, p1, p2⟩ := hA1.tg; clear hS1)
          | (go_at_call 158; with_reducible refine (hN _).mono ?_; rintro r w' ⟨rfl, rfl⟩)
          | (go_at_call 45; with_reducible refine (hD _).mono ?_; rintro r w' ⟨rfl, rfl⟩))
        go_ret
        exact ⟨rfl, hB1⟩
    · have d3 : decide (0 ≤ xs) = false := decide_eq_false h3
      rw [d3]
      go_enter Tryd.func138, Tryd.ntmps138
      go_wp2_with (first
        | (with_reducible refine wpList_boxV (w := w) (by with_unfolding_all rfl) 162 (.tmp 0) (by with_unfolding_all rfl) (tgv xn xi xs) (by with_unfolding_all rfl) ?_; intro w1 hA1 hB1 hS1; obtain ⟨p0, p1, p2⟩ := hA1.tg; clear hS1)
        | (go_at_call 158; with_reducible refine (hN _).mono ?_; rintro r w' ⟨rfl, rfl⟩)
        | (go_at_call 45; with_reducible refine (hD _).mono ?_; rintro r w' ⟨rfl, rfl⟩))
      go_ret
      exact ⟨rfl, hB1⟩
  all_goals
    go_enter Tryd.func138, Tryd.ntmps138
    go_wp2_with (first
      | (with_reducible refine wpList_boxV (w := w) (by with_unfolding_all rfl) 162 (.tmp 0) (by with_unfolding_all rfl) (tgv xn xi xs) (by with_unfolding_all rfl) ?_; intro w1 hA1 hB1 hS1; obtain ⟨p0, p1, p2⟩ := hA1.tg; clear hS1)
      | (go_at_call 158; with_reducible refine (hN _).mono ?_; rintro r w' ⟨rfl, rfl⟩)
      | (go_at_call 45; with_reducible refine (hD _).mono ?_; rintro r w' ⟨rfl, rfl⟩))
    go_ret
    exact ⟨rfl, hB1⟩
structure KpTy (w : World) (v e : Int) (a : Option Addr) (n c : Nat) (l : List TarV) (g : Nat) (xn xi : ByteArray) (xs : Int) (w' : World) : Prop where
  kp : KpTg w w.heap.size v e a n c l w'
  row : RowV w' g (tgv xn xi xs)
theorem tgv_ne (x y : ByteArray) (z : Int) : tgv x y z ≠ [] := by simp [tgv]
theorem KpTy.start {w w' : World} {v e : Int} {a : Option Addr} {n c : Nat} {l : List TarV} {g : Nat} {xn xi : ByteArray} {xs : Int} (h : Hid (KpTg w w.heap.size v e a n c l w')) (hr : RowV w' g (tgv xn xi xs)) : Hid (KpTy w v e a n c l g xn xi xs w') := ⟨h.out, hr⟩
theorem KpTy.call {w w' w2 : World} {v e : Int} {a : Option Addr} {n c : Nat} {l : List TarV} {g : Nat} {xn xi : ByteArray} {xs : Int} (h : Hid (KpTy w v e a n c l g xn xi xs w')) (hb : Below w'.heap.size w' w2) : Hid (KpTy w v e a n c l g xn xi xs w2) := ⟨(KpTg.call h.out.kp hb).out, h.out.row.below hb (h.out.row.lt (tgv_ne _ _ _))⟩
theorem KpTy.drew {w w' : World} {v e : Int} {a : Option Addr} {n c : Nat} {l : List TarV} {g : Nat} {xn xi : ByteArray} {xs : Int} (h : Hid (KpTy w v e a n c l g xn xi xs w')) : Hid (KpTy w v e a n c l g xn xi xs w'.drew) := ⟨(KpTg.drew h.out.kp).out, h.out.row.drew⟩
theorem KpTy.kpH {w w' : World} {v e : Int} {a : Option Addr} {n c : Nat} {l : List TarV} {g : Nat} {xn xi : ByteArray} {xs : Int} (h : Hid (KpTy w v e a n c l g xn xi xs w')) : Hid (KpTg w w.heap.size v e a n c l w') := h.out.kp
theorem KpTy.four {w w' : World} {v e : Int} {a : Option Addr} {n c : Nat} {l : List TarV} {g : Nat} {xn xi : ByteArray} {xs : Int} (h : Hid (KpTy w v e a n c l g xn xi xs w')) : w'.cell? ⟨g, 0, none⟩ = some (.string xn) ∧ w'.cell? ⟨g, 1, none⟩ = some (.string xi) ∧ w'.cell? ⟨g, 2, none⟩ = some (.int .i64 xs) ∧ w'.cell? ⟨w.heap.size, 2, none⟩ = some (.slice a n c) ∧ Hid (KpTy w v e a n c l g xn xi xs w') := ⟨h.out.row.tg.1, h.out.row.tg.2.1, h.out.row.tg.2.2, h.out.kp.row.rt3.2.2, h⟩
theorem KpTy.five {w w' : World} {v e : Int} {b o k1 : Nat} {n c : Nat} {l : List TarV} {g : Nat} {xn xi zn : ByteArray} {xs : Int} (hr : Hid (True → ∃ h : k1 < l.length, l[k1].nm = zn)) (h : Hid (KpTy w v e (some ⟨b, o, none⟩) n c l g xn xi xs w')) : w'.cell? ⟨g, 0, none⟩ = some (.string xn) ∧ w'.cell? ⟨g, 1, none⟩ = some (.string xi) ∧ w'.cell? ⟨g, 2, none⟩ = some (.int .i64 xs) ∧ w'.cell? ⟨w.heap.size, 2, none⟩ = some (.slice (some ⟨b, o, none⟩) n c) ∧ w'.cell? ⟨b, o + k1 * 3, none⟩ = some (.string zn) ∧ Hid (KpTy w v e (some ⟨b, o, none⟩) n c l g xn xi xs w') := by
  obtain ⟨hi, rfl⟩ := hr.out trivial
  obtain ⟨b', o', h1, h2, h3, h4⟩ := h.out.kp.tg k1 hi
  injection h1 with h1
  injection h1 with e1 e2
  subst e1 e2
  exact ⟨h.out.row.tg.1, h.out.row.tg.2.1, h.out.row.tg.2.2, h.out.kp.row.rt3.2.2, h2, h⟩
set_option maxRecDepth 100000 in
set_option maxHeartbeats 4000000 in
theorem implTargetsR (v e : Int) (a : Option Addr) (c n : Nat) (l : List TarV) (w : World) (hn : l.length = n) (h : TgsAt w a l) (hnm : n ≤ maxLen) (hw : ∀ x ∈ l, x.w) :
    Calls Tryd.prog 113 #[.agg #[.int .i64 v, .int .i64 e, .slice a n c]] w fun r w' => r = .returned (.bool (targetsB v e l)) ∧ Below w.heap.size w w' := by
  unfold maxLen at hnm
  have HN : Hid (l.length = n) := hn
  have HA : Hid (TgsAt w a l) := h
  have HW : Hid (∀ x ∈ l, x.w) := hw
  have hV : ∀ w0, Calls Tryd.prog 136 #[.int .i64 v] w0 fun r w' => r = .returned (.bool (verB v)) ∧ w0 = w' := fun w0 => implVer v w0
  have hT : ∀ w0, Calls Tryd.prog 76 #[.int .i64 e] w0 fun r w' => r = .returned (.bool (timB e)) ∧ w0 = w' := fun w0 => implTim e w0
  have HR : Hid (targetsB v e l = (verB v && (timB e && (decide (l.length ≤ 20) && tarsOk l)))) := rfl
  obtain ⟨R, hRR⟩ : ∃ R, targetsB v e l = R := ⟨_, rfl⟩
  rw [hRR] at HR ⊢
  clear h hn hw hRR
  cases hv : verB v with
  | false =>
    have HF : Hid (R = false) := by show _ = _; rw [HR.out, hv]; rfl
    rw [hv] at hV
    clear HR hv hT
    go_enter Tryd.func113, Tryd.ntmps113
    go_wp2_with (first
      | (with_reducible refine wpList_boxV (w := w) (by with_unfolding_all rfl) 63 (.tmp 0) (by with_unfolding_all rfl) (rtv v e a n c) (by with_unfolding_all rfl) ?_; intro w1 hA1 hB1 hS1; obtain ⟨p0, p1, p2⟩ := hA1.rt3; clear hS1)
      | (go_at_call 136; refine (hV _).mono ?_; rintro r w' ⟨rfl, rfl⟩))
    go_ret
    exact ⟨retY HF.out.symm, hB1⟩
  | true =>
  rw [hv] at hV
  cases ht : timB e with
  | false =>
    have HF : Hid (R = false) := by show _ = _; rw [HR.out, hv, ht]; rfl
    rw [ht] at hT
    clear HR hv ht
    go_enter Tryd.func113, Tryd.ntmps113
    go_wp2_with (first
      | (with_reducible refine wpList_boxV (w := w) (by with_unfolding_all rfl) 63 (.tmp 0) (by with_unfolding_all rfl) (rtv v e a n c) (by with_unfolding_all rfl) ?_; intro w1 hA1 hB1 hS1; obtain ⟨p0, p1, p2⟩ := hA1.rt3; clear hS1)
      | (go_at_call 136; refine (hV _).mono ?_; rintro r w' ⟨rfl, rfl⟩)
      | (go_at_call 76; refine (hT _).mono ?_; rintro r w' ⟨rfl, rfl⟩))
    go_ret
    exact ⟨retY HF.out.symm, hB1⟩
  | true =>
  rw [ht] at hT
  by_cases h5 : 20 < n
  case pos =>
    have HF : Hid (R = false) := by show _ = _; rw [HR.out, hv, ht, decide_eq_false (by rw [HN.out]; omega)]; rfl
    have d5 : decide ((20 : Int) < (n : Int)) = true := decide_eq_true (by omega)
    clear HR hv ht h5
    go_enter Tryd.func113, Tryd.ntmps113
    go_wp2_with (first
      | (with_reducible refine wpList_boxV (w := w) (by with_unfolding_all rfl) 63 (.tmp 0) (by with_unfolding_all rfl) (rtv v e a n c) (by with_unfolding_all rfl) ?_; intro w1 hA1 hB1 hS1; obtain ⟨p0, p1, p2⟩ := hA1.rt3; clear hS1)
      | (go_at_call 136; refine (hV _).mono ?_; rintro r w' ⟨rfl, rfl⟩)
      | (go_at_call 76; refine (hT _).mono ?_; rintro r w' ⟨rfl, rfl⟩))
    go_ret
    exact ⟨retY HF.out.symm, hB1⟩
  have HK : Hid (R = tarsOk l) := by show _ = _; rw [HR.out, hv, ht, decide_eq_true (by rw [HN.out]; omega)]; rfl
  have d5 : decide ((20 : Int) < (n : Int)) = false := decide_eq_false (by omega)
  clear HR hv ht
  go_enter Tryd.func113, Tryd.ntmps113
  go_wp2_with (first
    | (with_reducible refine wpList_boxV (w := w) (by with_unfolding_all rfl) 63 (.tmp 0) (by with_unfolding_all rfl) (rtv v e a n c) (by with_unfolding_all rfl) ?_; intro w1 hA1 hB1 hS1; obtain ⟨p0, p1, p2⟩ := hA1.rt3; clear hS1)
    | (go_at_call 136; refine (hV _).mono ?_; rintro r w' ⟨rfl, rfl⟩)
    | (go_at_call 76; refine (hT _).mono ?_; rintro r w' ⟨rfl, rfl⟩))
  have HS := KpTg.start HA hB1 hA1
  clear hA1 hB1 p0 p1 p2 HA hV hT d5
  go_loopw [24] (fun vi wr => ∃ k : Nat, vi = .int .i64 (k : Int) ∧ k ≤ n ∧ Hid (∀ j, j < k → TarOk l j) ∧ Hid (KpTg w w.heap.size v e a n c l wr)) (fun vi _ => n - (intOf vi).toNat)
  case atStart => exact ⟨0, rfl, Nat.zero_le _, fun j hj => absurd hj (Nat.not_lt_zero _), HS⟩
  case round =>
    clear HS
    obtain ⟨k, rfl, hk, HT, HS⟩ := hrel
    obtain ⟨p0, p1, p2⟩ := HS.out.row.rt3
    by_cases hlt : k < n
    case neg =>
      obtain rfl : k = n := by omega
      have HF : Hid (R = true) := by show _ = _; rw [HK.out]; exact (tarsOk_iff l).2 (fun j hj => HT.out j (by have := HN.out; omega))
      go_wp2
      go_ret
      exact ⟨retY HF.out.symm, HS.out.below⟩
    have hkl : k < l.length := by have := HN.out; omega
    obtain ⟨b, o, rfl, hc0, hc1, hc2⟩ := HS.out.tg k hkl
    obtain ⟨x1, x2, x3⟩ := HW.out l[k] (List.getElem_mem hkl)
    have lk : (k : Int) < n := by omega
    have l0 : (0 : Int) ≤ k := by omega
    have hG : ∀ w0, Calls Tryd.prog 138 #[.agg #[.string l[k].nm, .string l[k].im, .int .i64 l[k].sz]] w0 fun e w' => e = .returned (.bool l[k].ok) ∧ Below w0.heap.size w0 w' := fun w0 => implTar l[k].nm l[k].im l[k].sz w0 x1 x2
    have HNo : Hid (¬ (l[k].ok = true) → R = false) := fun h => by
      rw [HK.out]
      cases ho : tarsOk l with
      | false => rfl
      | true => exact absurd ((tarsOk_iff l).1 ho k hkl).2.1 h
    have HNo2 : Hid (∀ k1 (h1 : k1 < l.length), k = k1 + 1 → nmLt l[k1].nm l[k].nm = false → R = false) := fun k1 h1 e h => by
      rw [HK.out]
      cases ho : tarsOk l with
      | false => rfl
      | true =>
        have := ((tarsOk_iff l).1 ho k hkl).2.2 k1 h1 e
        rw [h] at this
        cases this
    have HYes : Hid (l[k].ok = true → (∀ k1 (h1 : k1 < l.length), k = k1 + 1 → nmLt l[k1].nm l[k].nm = true) → ∀ j, j < k + 1 → TarOk l j) := fun h h2 j hjk => by
      by_cases hjk2 : j < k
      · exact HT.out j hjk2
      · obtain rfl : j = k := by omega
        exact ⟨hkl, h, h2⟩
    generalize l[k].ok = ob at *
    generalize l[k].nm = xn at *
    generalize l[k].im = xi at *
    generalize l[k].sz = xs at *
    clear HT x3 x1 x2
    go_wp2_with (first
      | (with_reducible refine wpList_allocV (w := wr) (by with_unfolding_all rfl) 162 (by with_unfolding_all rfl) (tgv ⟨#[]⟩ ⟨#[]⟩ 0) Tryd.infoTg ?_; intro w3 hA3 hB3 hS3)
      | (with_reducible refine wpList_storeV (w := w3) (by with_unfolding_all rfl) 162 (.tmp 4) (.tmp 28) (by with_unfolding_all rfl) wr.heap.size (tgv ⟨#[]⟩ ⟨#[]⟩ 0) (tgv xn xi xs) (by with_unfolding_all rfl) (by with_unfolding_all rfl) hA3 3 Tryd.sizeTg (by with_unfolding_all rfl) (by with_unfolding_all rfl) (tgv_one _ _ _) ?_; intro w4 hA4 hB4 hF4 hS4; have HS4 := KpTg.call HS (hB3.trans (hB4 _ (Nat.le_refl _)))))
    have HY4 := KpTy.start HS4 hA4
    clear p0 p1 p2 hc0 hc1 hc2 hA3 hB3 hS3 hA4 hB4 hF4 hS4 HS HS4
    generalize wr.heap.size = g at *
    have HYd := KpTy.drew HY4
    clear HY4
    cases ob with
    | false =>
      as_aux_lemma =>
      have HF : Hid (R = false) := HNo.out (by decide)
      clear HNo HNo2 HYes HW HK
      refine wp_region_held_drew (S := fun w' => w'.cell? ⟨g, 0, none⟩ = some (.string xn) ∧ w'.cell? ⟨g, 1, none⟩ = some (.string xi) ∧ w'.cell? ⟨g, 2, none⟩ = some (.int .i64 xs) ∧ w'.cell? ⟨w.heap.size, 2, none⟩ = some (.slice (some ⟨b, o, none⟩) n c) ∧ Hid (KpTy w v e (some ⟨b, o, none⟩) n c l g xn xi xs w')) (by kernel_rfl) (KpTy.four HYd) (fun hHeld => ?_)
      refine wpAnyH_take (i := 0) (oi := ⟨_, _, _, _, _, _⟩) (v := .agg #[.string xn, .string xi, .int .i64 xs]) rfl (by kernel_rfl) (by kernel_rfl) (by kernel_rfl) (fun _ _ _ h => h) (Or.inl ⟨wanted_none rfl, fun w' hSw => ?_⟩) hHeld ?_
      · obtain ⟨s0, s1, s2, s3, _⟩ := hSw
        go_simp
      try simp only [Act.put, List.setIfInBounds_toArray, List.set_cons_zero, List.set_cons_succ]
      refine wpAnyH_ready (rs := [1]) (by kernel_rfl) (by simp) (AllReadyH.cons (o := ⟨_, _, _, _, _, _⟩) rfl (fun K hK => ?_) AllReadyH.nil)
      rewrite [if_pos (wanted_none rfl)]
      go_simp
      refine (hG _).mono ?_
      rintro r w5 ⟨rfl, hB5⟩
      have HY5 := KpTy.call HYd hB5
      go_wp2_with fail
      refine hK.out _ _ (KpTy.four HY5) (fun hHeld => ?_)
      clear hK K
      try simp only [Act.put, List.setIfInBounds_toArray, List.set_cons_zero, List.set_cons_succ]
      refine wpAnyH_take (i := 2) (oi := ⟨_, _, _, _, _, _⟩) (v := .bool true) rfl (by kernel_rfl) (by kernel_rfl) (by kernel_rfl) (fun _ _ _ h => h) (Or.inl ⟨wanted_none rfl, fun w' hSw => ?_⟩) hHeld ?_
      · obtain ⟨s0, s1, s2, s3, _⟩ := hSw
        go_simp
      try simp only [Act.put, List.setIfInBounds_toArray, List.set_cons_zero, List.set_cons_succ]
      refine wpAnyH_take (i := 3) (oi := ⟨_, _, _, _, _, _⟩) (v := .bool true) rfl (by kernel_rfl) (by kernel_rfl) (by kernel_rfl) (fun _ _ _ h => h) (Or.inl ⟨wanted_none rfl, fun w' hSw => ?_⟩) hHeld ?_
      · obtain ⟨s0, s1, s2, s3, _⟩ := hSw
        go_simp
      try simp only [Act.put, List.setIfInBounds_toArray, List.set_cons_zero, List.set_cons_succ]
      refine wpAnyH_take (i := 4) (oi := ⟨_, _, _, _, _, _⟩) (v := undef) rfl (by kernel_rfl) (by kernel_rfl) (by kernel_rfl) (fun _ _ _ h => h) (Or.inr ⟨by with_unfolding_all rfl, rfl⟩) hHeld ?_
      try simp only [Act.put, List.setIfInBounds_toArray, List.set_cons_zero, List.set_cons_succ]
      refine wpAnyH_take (i := 5) (oi := ⟨_, _, _, _, _, _⟩) (v := undef) rfl (by kernel_rfl) (by kernel_rfl) (by kernel_rfl) (fun _ _ _ h => h) (Or.inr ⟨by with_unfolding_all rfl, rfl⟩) hHeld ?_
      try simp only [Act.put, List.setIfInBounds_toArray, List.set_cons_zero, List.set_cons_succ]
      refine wpAnyH_take (i := 6) (oi := ⟨_, _, _, _, _, _⟩) (v := undef) rfl (by kernel_rfl) (by kernel_rfl) (by kernel_rfl) (fun _ _ _ h => h) (Or.inr ⟨by with_unfolding_all rfl, rfl⟩) hHeld ?_
      try simp only [Act.put, List.setIfInBounds_toArray, List.set_cons_zero, List.set_cons_succ]
      refine wpAnyH_take (i := 7) (oi := ⟨_, _, _, _, _, _⟩) (v := undef) rfl (by kernel_rfl) (by kernel_rfl) (by kernel_rfl) (fun _ _ _ h => h) (Or.inr ⟨by with_unfolding_all rfl, rfl⟩) hHeld ?_
      try simp only [Act.put, List.setIfInBounds_toArray, List.set_cons_zero, List.set_cons_succ]
      refine wpAnyH_take (i := 8) (oi := ⟨_, _, _, _, _, _⟩) (v := undef) rfl (by kernel_rfl) (by kernel_rfl) (by kernel_rfl) (fun _ _ _ h => h) (Or.inr ⟨by with_unfolding_all rfl, rfl⟩) hHeld ?_
      try simp only [Act.put, List.setIfInBounds_toArray, List.set_cons_zero, List.set_cons_succ]
      refine wpAnyH_take (i := 9) (oi := ⟨_, _, _, _, _, _⟩) (v := undef) rfl (by kernel_rfl) (by kernel_rfl) (by kernel_rfl) (fun _ _ _ h => h) (Or.inr ⟨by with_unfolding_all rfl, rfl⟩) hHeld ?_
      try simp only [Act.put, List.setIfInBounds_toArray, List.set_cons_zero, List.set_cons_succ]
      refine wpAnyH_take (i := 10) (oi := ⟨_, _, _, _, _, _⟩) (v := undef) rfl (by kernel_rfl) (by kernel_rfl) (by kernel_rfl) (fun _ _ _ h => h) (Or.inr ⟨by with_unfolding_all rfl, rfl⟩) hHeld ?_
      try simp only [Act.put, List.setIfInBounds_toArray, List.set_cons_zero, List.set_cons_succ]
      refine wpAnyH_take (i := 11) (oi := ⟨_, _, _, _, _, _⟩) (v := undef) rfl (by kernel_rfl) (by kernel_rfl) (by kernel_rfl) (fun _ _ _ h => h) (Or.inr ⟨by with_unfolding_all rfl, rfl⟩) hHeld ?_
      try simp only [Act.put, List.setIfInBounds_toArray, List.set_cons_zero, List.set_cons_succ]
      refine wpAnyH_take (i := 12) (oi := ⟨_, _, _, _, _, _⟩) (v := undef) rfl (by kernel_rfl) (by kernel_rfl) (by kernel_rfl) (fun _ _ _ h => h) (Or.inr ⟨by with_unfolding_all rfl, rfl⟩) hHeld ?_
      try simp only [Act.put, List.setIfInBounds_toArray, List.set_cons_zero, List.set_cons_succ]
      refine wpAnyH_take (i := 13) (oi := ⟨_, _, _, _, _, _⟩) (v := undef) rfl (by kernel_rfl) (by kernel_rfl) (by kernel_rfl) (fun _ _ _ h => h) (Or.inr ⟨by with_unfolding_all rfl, rfl⟩) hHeld ?_
      try simp only [Act.put, List.setIfInBounds_toArray, List.set_cons_zero, List.set_cons_succ]
      refine wpAnyH_take (i := 14) (oi := ⟨_, _, _, _, _, _⟩) (v := undef) rfl (by kernel_rfl) (by kernel_rfl) (by kernel_rfl) (fun _ _ _ h => h) (Or.inr ⟨by with_unfolding_all rfl, rfl⟩) hHeld ?_
      try simp only [Act.put, List.setIfInBounds_toArray, List.set_cons_zero, List.set_cons_succ]
      refine wpAnyH_take (i := 15) (oi := ⟨_, _, _, _, _, _⟩) (v := undef) rfl (by kernel_rfl) (by kernel_rfl) (by kernel_rfl) (fun _ _ _ h => h) (Or.inr ⟨by with_unfolding_all rfl, rfl⟩) hHeld ?_
      try simp only [Act.put, List.setIfInBounds_toArray, List.set_cons_zero, List.set_cons_succ]
      refine wpAnyH_take (i := 16) (oi := ⟨_, _, _, _, _, _⟩) (v := undef) rfl (by kernel_rfl) (by kernel_rfl) (by kernel_rfl) (fun _ _ _ h => h) (Or.inr ⟨by with_unfolding_all rfl, rfl⟩) hHeld ?_
      try simp only [Act.put, List.setIfInBounds_toArray, List.set_cons_zero, List.set_cons_succ]
      refine wpAnyH_take (i := 17) (oi := ⟨_, _, _, _, _, _⟩) (v := undef) rfl (by kernel_rfl) (by kernel_rfl) (by kernel_rfl) (fun _ _ _ h => h) (Or.inr ⟨by with_unfolding_all rfl, rfl⟩) hHeld ?_
      try simp only [Act.put, List.setIfInBounds_toArray, List.set_cons_zero, List.set_cons_succ]
      refine wpAnyH_take (i := 18) (oi := ⟨_, _, _, _, _, _⟩) (v := .bool true) rfl (by kernel_rfl) (by kernel_rfl) (by kernel_rfl) (fun _ _ _ h => h) (Or.inl ⟨wanted_none rfl, fun w' hSw => ?_⟩) hHeld ?_
      · obtain ⟨s0, s1, s2, s3, _⟩ := hSw
        go_simp
      try simp only [Act.put, List.setIfInBounds_toArray, List.set_cons_zero, List.set_cons_succ]
      refine wpAnyH_done (by kernel_rfl) ?_ _
      have HSd := KpTy.kpH HY5
      clear hHeld hG HYd HY5
      go_wp2
      go_ret
      exact ⟨retY HF.out.symm, HSd.out.below⟩
    | true =>
    by_cases hk0 : k = 0
    · as_aux_lemma =>
      subst hk0
      have HT2 : Hid (∀ j, j < 1 → TarOk l j) := HYes.out rfl (fun k1 _ e => by omega)
      clear HNo HNo2 HYes HW HK
      refine wp_region_held_drew (S := fun w' => w'.cell? ⟨g, 0, none⟩ = some (.string xn) ∧ w'.cell? ⟨g, 1, none⟩ = some (.string xi) ∧ w'.cell? ⟨g, 2, none⟩ = some (.int .i64 xs) ∧ w'.cell? ⟨w.heap.size, 2, none⟩ = some (.slice (some ⟨b, o, none⟩) n c) ∧ Hid (KpTy w v e (some ⟨b, o, none⟩) n c l g xn xi xs w')) (by kernel_rfl) (KpTy.four HYd) (fun hHeld => ?_)
      refine wpAnyH_take (i := 0) (oi := ⟨_, _, _, _, _, _⟩) (v := .agg #[.string xn, .string xi, .int .i64 xs]) rfl (by kernel_rfl) (by kernel_rfl) (by kernel_rfl) (fun _ _ _ h => h) (Or.inl ⟨wanted_none rfl, fun w' hSw => ?_⟩) hHeld ?_
      · obtain ⟨s0, s1, s2, s3, _⟩ := hSw
        go_simp
      try simp only [Act.put, List.setIfInBounds_toArray, List.set_cons_zero, List.set_cons_succ]
      refine wpAnyH_ready (rs := [1]) (by kernel_rfl) (by simp) (AllReadyH.cons (o := ⟨_, _, _, _, _, _⟩) rfl (fun K hK => ?_) AllReadyH.nil)
      rewrite [if_pos (wanted_none rfl)]
      go_simp
      refine (hG _).mono ?_
      rintro r w5 ⟨rfl, hB5⟩
      have HY5 := KpTy.call HYd hB5
      go_wp2_with fail
      refine hK.out _ _ (KpTy.four HY5) (fun hHeld => ?_)
      clear hK K
      try simp only [Act.put, List.setIfInBounds_toArray, List.set_cons_zero, List.set_cons_succ]
      refine wpAnyH_take (i := 2) (oi := ⟨_, _, _, _, _, _⟩) (v := .bool false) rfl (by kernel_rfl) (by kernel_rfl) (by kernel_rfl) (fun _ _ _ h => h) (Or.inl ⟨wanted_none rfl, fun w' hSw => ?_⟩) hHeld ?_
      · obtain ⟨s0, s1, s2, s3, _⟩ := hSw
        go_simp
      try simp only [Act.put, List.setIfInBounds_toArray, List.set_cons_zero, List.set_cons_succ]
      refine wpAnyH_take (i := 3) (oi := ⟨_, _, _, _, _, _⟩) (v := .bool false) rfl (by kernel_rfl) (by kernel_rfl) (by kernel_rfl) (fun _ _ _ h => h) (Or.inl ⟨wanted_none rfl, fun w' hSw => ?_⟩) hHeld ?_
      · obtain ⟨s0, s1, s2, s3, _⟩ := hSw
        go_simp
      try simp only [Act.put, List.setIfInBounds_toArray, List.set_cons_zero, List.set_cons_succ]
      refine wpAnyH_take (i := 4) (oi := ⟨_, _, _, _, _, _⟩) (v := .int .i64 0) rfl (by kernel_rfl) (by kernel_rfl) (by kernel_rfl) (fun _ _ _ h => h) (Or.inl ⟨by with_unfolding_all rfl, fun w' hSw => ?_⟩) hHeld ?_
      · obtain ⟨s0, s1, s2, s3, _⟩ := hSw
        go_simp
      try simp only [Act.put, List.setIfInBounds_toArray, List.set_cons_zero, List.set_cons_succ]
      refine wpAnyH_take (i := 5) (oi := ⟨_, _, _, _, _, _⟩) (v := .bool false) rfl (by kernel_rfl) (by kernel_rfl) (by kernel_rfl) (fun _ _ _ h => h) (Or.inl ⟨by with_unfolding_all rfl, fun w' hSw => ?_⟩) hHeld ?_
      · obtain ⟨s0, s1, s2, s3, _⟩ := hSw
        go_simp
      try simp only [Act.put, List.setIfInBounds_toArray, List.set_cons_zero, List.set_cons_succ]
      refine wpAnyH_take (i := 6) (oi := ⟨_, _, _, _, _, _⟩) (v := .bool false) rfl (by kernel_rfl) (by kernel_rfl) (by kernel_rfl) (fun _ _ _ h => h) (Or.inl ⟨by with_unfolding_all rfl, fun w' hSw => ?_⟩) hHeld ?_
      · obtain ⟨s0, s1, s2, s3, _⟩ := hSw
        go_simp
      try simp only [Act.put, List.setIfInBounds_toArray, List.set_cons_zero, List.set_cons_succ]
      refine wpAnyH_take (i := 7) (oi := ⟨_, _, _, _, _, _⟩) (v := undef) rfl (by kernel_rfl) (by kernel_rfl) (by kernel_rfl) (fun _ _ _ h => h) (Or.inr ⟨by with_unfolding_all rfl, rfl⟩) hHeld ?_
      try simp only [Act.put, List.setIfInBounds_toArray, List.set_cons_zero, List.set_cons_succ]
      refine wpAnyH_take (i := 8) (oi := ⟨_, _, _, _, _, _⟩) (v := undef) rfl (by kernel_rfl) (by kernel_rfl) (by kernel_rfl) (fun _ _ _ h => h) (Or.inr ⟨by with_unfolding_all rfl, rfl⟩) hHeld ?_
      try simp only [Act.put, List.setIfInBounds_toArray, List.set_cons_zero, List.set_cons_succ]
      refine wpAnyH_take (i := 9) (oi := ⟨_, _, _, _, _, _⟩) (v := undef) rfl (by kernel_rfl) (by kernel_rfl) (by kernel_rfl) (fun _ _ _ h => h) (Or.inr ⟨by with_unfolding_all rfl, rfl⟩) hHeld ?_
      try simp only [Act.put, List.setIfInBounds_toArray, List.set_cons_zero, List.set_cons_succ]
      refine wpAnyH_take (i := 10) (oi := ⟨_, _, _, _, _, _⟩) (v := undef) rfl (by kernel_rfl) (by kernel_rfl) (by kernel_rfl) (fun _ _ _ h => h) (Or.inr ⟨by with_unfolding_all rfl, rfl⟩) hHeld ?_
      try simp only [Act.put, List.setIfInBounds_toArray, List.set_cons_zero, List.set_cons_succ]
      refine wpAnyH_take (i := 11) (oi := ⟨_, _, _, _, _, _⟩) (v := undef) rfl (by kernel_rfl) (by kernel_rfl) (by kernel_rfl) (fun _ _ _ h => h) (Or.inr ⟨by with_unfolding_all rfl, rfl⟩) hHeld ?_
      try simp only [Act.put, List.setIfInBounds_toArray, List.set_cons_zero, List.set_cons_succ]
      refine wpAnyH_take (i := 12) (oi := ⟨_, _, _, _, _, _⟩) (v := undef) rfl (by kernel_rfl) (by kernel_rfl) (by kernel_rfl) (fun _ _ _ h => h) (Or.inr ⟨by with_unfolding_all rfl, rfl⟩) hHeld ?_
      try simp only [Act.put, List.setIfInBounds_toArray, List.set_cons_zero, List.set_cons_succ]
      refine wpAnyH_take (i := 13) (oi := ⟨_, _, _, _, _, _⟩) (v := undef) rfl (by kernel_rfl) (by kernel_rfl) (by kernel_rfl) (fun _ _ _ h => h) (Or.inr ⟨by with_unfolding_all rfl, rfl⟩) hHeld ?_
      try simp only [Act.put, List.setIfInBounds_toArray, List.set_cons_zero, List.set_cons_succ]
      refine wpAnyH_take (i := 14) (oi := ⟨_, _, _, _, _, _⟩) (v := undef) rfl (by kernel_rfl) (by kernel_rfl) (by kernel_rfl) (fun _ _ _ h => h) (Or.inr ⟨by with_unfolding_all rfl, rfl⟩) hHeld ?_
      try simp only [Act.put, List.setIfInBounds_toArray, List.set_cons_zero, List.set_cons_succ]
      refine wpAnyH_take (i := 15) (oi := ⟨_, _, _, _, _, _⟩) (v := undef) rfl (by kernel_rfl) (by kernel_rfl) (by kernel_rfl) (fun _ _ _ h => h) (Or.inr ⟨by with_unfolding_all rfl, rfl⟩) hHeld ?_
      try simp only [Act.put, List.setIfInBounds_toArray, List.set_cons_zero, List.set_cons_succ]
      refine wpAnyH_take (i := 16) (oi := ⟨_, _, _, _, _, _⟩) (v := undef) rfl (by kernel_rfl) (by kernel_rfl) (by kernel_rfl) (fun _ _ _ h => h) (Or.inr ⟨by with_unfolding_all rfl, rfl⟩) hHeld ?_
      try simp only [Act.put, List.setIfInBounds_toArray, List.set_cons_zero, List.set_cons_succ]
      refine wpAnyH_take (i := 17) (oi := ⟨_, _, _, _, _, _⟩) (v := .bool false) rfl (by kernel_rfl) (by kernel_rfl) (by kernel_rfl) (fun _ _ _ h => h) (Or.inl ⟨by with_unfolding_all rfl, fun w' hSw => ?_⟩) hHeld ?_
      · obtain ⟨s0, s1, s2, s3, _⟩ := hSw
        go_simp
      try simp only [Act.put, List.setIfInBounds_toArray, List.set_cons_zero, List.set_cons_succ]
      refine wpAnyH_take (i := 18) (oi := ⟨_, _, _, _, _, _⟩) (v := .bool false) rfl (by kernel_rfl) (by kernel_rfl) (by kernel_rfl) (fun _ _ _ h => h) (Or.inl ⟨wanted_none rfl, fun w' hSw => ?_⟩) hHeld ?_
      · obtain ⟨s0, s1, s2, s3, _⟩ := hSw
        go_simp
      try simp only [Act.put, List.setIfInBounds_toArray, List.set_cons_zero, List.set_cons_succ]
      refine wpAnyH_done (by kernel_rfl) ?_ _
      have HSd := KpTy.kpH HY5
      clear hHeld hG HYd HY5
      go_wp2
      go_roundw
      case rel => exact ⟨1, rfl, by omega, HT2, HSd⟩
      case measure => simp [intOf]; omega
    have d5 : decide ((0 : Int) < (k : Int)) = true := decide_eq_true (by omega)
    have d6 : decide (0 < k) = true := decide_eq_true (by omega)
    obtain ⟨k1, hk1⟩ : ∃ k1, k - 1 = k1 := ⟨_, rfl⟩
    have ek : (k : Int) - 1 = (k1 : Int) := by omega
    have ewk : IntKind.i64.wrap (k1 : Int) = (k1 : Int) := by simp [IntKind.wrap, IntKind.signed, IntKind.bits]; omega
    have hk1l : k1 < l.length := by omega
    have lk1 : (k1 : Int) < n := by omega
    have l01 : (0 : Int) ≤ k1 := by omega
    cases hlt2 : nmLt l[k1].nm xn with
    | true =>
      as_aux_lemma =>
      have HT2 : Hid (∀ j, j < k + 1 → TarOk l j) := HYes.out rfl (fun k2 h2 e => by
        obtain rfl : k2 = k1 := by omega
        exact hlt2)
      have d7 : Op.bytesLess l[k1].nm.toList xn.toList = true := hlt2
      obtain ⟨zn, hzn⟩ : ∃ zn, l[k1].nm = zn := ⟨_, rfl⟩
      have HZ : Hid (True → ∃ h : k1 < l.length, l[k1].nm = zn) := fun _ => ⟨hk1l, hzn⟩
      rw [hzn] at d7
      clear HNo HNo2 HYes HW HK hlt2 hzn
      refine wp_region_held_drew (S := fun w' => w'.cell? ⟨g, 0, none⟩ = some (.string xn) ∧ w'.cell? ⟨g, 1, none⟩ = some (.string xi) ∧ w'.cell? ⟨g, 2, none⟩ = some (.int .i64 xs) ∧ w'.cell? ⟨w.heap.size, 2, none⟩ = some (.slice (some ⟨b, o, none⟩) n c) ∧ w'.cell? ⟨b, o + k1 * 3, none⟩ = some (.string zn) ∧ Hid (KpTy w v e (some ⟨b, o, none⟩) n c l g xn xi xs w')) (by kernel_rfl) (KpTy.five HZ HYd) (fun hHeld => ?_)
      refine wpAnyH_take (i := 0) (oi := ⟨_, _, _, _, _, _⟩) (v := .agg #[.string xn, .string xi, .int .i64 xs]) rfl (by kernel_rfl) (by kernel_rfl) (by kernel_rfl) (fun _ _ _ h => h) (Or.inl ⟨wanted_none rfl, fun w' hSw => ?_⟩) hHeld ?_
      · obtain ⟨s0, s1, s2, s3, s4, _⟩ := hSw
        go_simp
      try simp only [Act.put, List.setIfInBounds_toArray, List.set_cons_zero, List.set_cons_succ]
      refine wpAnyH_ready (rs := [1]) (by kernel_rfl) (by simp) (AllReadyH.cons (o := ⟨_, _, _, _, _, _⟩) rfl (fun K hK => ?_) AllReadyH.nil)
      rewrite [if_pos (wanted_none rfl)]
      go_simp
      refine (hG _).mono ?_
      rintro r w5 ⟨rfl, hB5⟩
      have HY5 := KpTy.call HYd hB5
      go_wp2_with fail
      refine hK.out _ _ (KpTy.five HZ HY5) (fun hHeld => ?_)
      clear hK K
      try simp only [Act.put, List.setIfInBounds_toArray, List.set_cons_zero, List.set_cons_succ]
      refine wpAnyH_take (i := 2) (oi := ⟨_, _, _, _, _, _⟩) (v := .bool false) rfl (by kernel_rfl) (by kernel_rfl) (by kernel_rfl) (fun _ _ _ h => h) (Or.inl ⟨wanted_none rfl, fun w' hSw => ?_⟩) hHeld ?_
      · obtain ⟨s0, s1, s2, s3, s4, _⟩ := hSw
        go_simp
      try simp only [Act.put, List.setIfInBounds_toArray, List.set_cons_zero, List.set_cons_succ]
      refine wpAnyH_take (i := 3) (oi := ⟨_, _, _, _, _, _⟩) (v := .bool false) rfl (by kernel_rfl) (by kernel_rfl) (by kernel_rfl) (fun _ _ _ h => h) (Or.inl ⟨wanted_none rfl, fun w' hSw => ?_⟩) hHeld ?_
      · obtain ⟨s0, s1, s2, s3, s4, _⟩ := hSw
        go_simp
      try simp only [Act.put, List.setIfInBounds_toArray, List.set_cons_zero, List.set_cons_succ]
      refine wpAnyH_take (i := 4) (oi := ⟨_, _, _, _, _, _⟩) (v := .int .i64 (k : Int)) rfl (by kernel_rfl) (by kernel_rfl) (by kernel_rfl) (fun _ _ _ h => h) (Or.inl ⟨by with_unfolding_all rfl, fun w' hSw => ?_⟩) hHeld ?_
      · obtain ⟨s0, s1, s2, s3, s4, _⟩ := hSw
        go_simp
      try simp only [Act.put, List.setIfInBounds_toArray, List.set_cons_zero, List.set_cons_succ]
      refine wpAnyH_take (i := 5) (oi := ⟨_, _, _, _, _, _⟩) (v := .bool true) rfl (by kernel_rfl) (by kernel_rfl) (by kernel_rfl) (fun _ _ _ h => h) (Or.inl ⟨by with_unfolding_all rfl, fun w' hSw => ?_⟩) hHeld ?_
      · obtain ⟨s0, s1, s2, s3, s4, _⟩ := hSw
        go_simp
      try simp only [Act.put, List.setIfInBounds_toArray, List.set_cons_zero, List.set_cons_succ]
      refine wpAnyH_take (i := 6) (oi := ⟨_, _, _, _, _, _⟩) (v := .bool true) rfl (by kernel_rfl) (by kernel_rfl) (by kernel_rfl) (fun _ _ _ h => h) (Or.inl ⟨by with_unfolding_all rfl, fun w' hSw => ?_⟩) hHeld ?_
      · obtain ⟨s0, s1, s2, s3, s4, _⟩ := hSw
        go_simp
      try simp only [Act.put, List.setIfInBounds_toArray, List.set_cons_zero, List.set_cons_succ]
      refine wpAnyH_take (i := 7) (oi := ⟨_, _, _, _, _, _⟩) (v := .pointer (some ⟨w.heap.size, 2, none⟩)) rfl (by kernel_rfl) (by kernel_rfl) (by kernel_rfl) (fun _ _ _ h => h) (Or.inl ⟨by with_unfolding_all rfl, fun w' hSw => ?_⟩) hHeld ?_
      · obtain ⟨s0, s1, s2, s3, s4, _⟩ := hSw
        go_simp
      try simp only [Act.put, List.setIfInBounds_toArray, List.set_cons_zero, List.set_cons_succ]
      refine wpAnyH_take (i := 8) (oi := ⟨_, _, _, _, _, _⟩) (v := .slice (some ⟨b, o, none⟩) n c) rfl (by kernel_rfl) (by kernel_rfl) (by kernel_rfl) (fun _ _ _ h => h) (Or.inl ⟨by with_unfolding_all rfl, fun w' hSw => ?_⟩) hHeld ?_
      · obtain ⟨s0, s1, s2, s3, s4, _⟩ := hSw
        go_simp
      try simp only [Act.put, List.setIfInBounds_toArray, List.set_cons_zero, List.set_cons_succ]
      refine wpAnyH_take (i := 9) (oi := ⟨_, _, _, _, _, _⟩) (v := .int .i64 (k : Int)) rfl (by kernel_rfl) (by kernel_rfl) (by kernel_rfl) (fun _ _ _ h => h) (Or.inl ⟨by with_unfolding_all rfl, fun w' hSw => ?_⟩) hHeld ?_
      · obtain ⟨s0, s1, s2, s3, s4, _⟩ := hSw
        go_simp
      try simp only [Act.put, List.setIfInBounds_toArray, List.set_cons_zero, List.set_cons_succ]
      refine wpAnyH_take (i := 10) (oi := ⟨_, _, _, _, _, _⟩) (v := .int .i64 (k1 : Int)) rfl (by kernel_rfl) (by kernel_rfl) (by kernel_rfl) (fun _ _ _ h => h) (Or.inl ⟨by with_unfolding_all rfl, fun w' hSw => ?_⟩) hHeld ?_
      · obtain ⟨s0, s1, s2, s3, s4, _⟩ := hSw
        go_simp
      try simp only [Act.put, List.setIfInBounds_toArray, List.set_cons_zero, List.set_cons_succ]
      refine wpAnyH_take (i := 11) (oi := ⟨_, _, _, _, _, _⟩) (v := .pointer (some ⟨b, o + k1 * 3, none⟩)) rfl (by kernel_rfl) (by kernel_rfl) (by kernel_rfl) (fun _ _ _ h => h) (Or.inl ⟨by with_unfolding_all rfl, fun w' hSw => ?_⟩) hHeld ?_
      · obtain ⟨s0, s1, s2, s3, s4, _⟩ := hSw
        go_simp
      try simp only [Act.put, List.setIfInBounds_toArray, List.set_cons_zero, List.set_cons_succ]
      refine wpAnyH_take (i := 12) (oi := ⟨_, _, _, _, _, _⟩) (v := .pointer (some ⟨b, o + k1 * 3, none⟩)) rfl (by kernel_rfl) (by kernel_rfl) (by kernel_rfl) (fun _ _ _ h => h) (Or.inl ⟨by with_unfolding_all rfl, fun w' hSw => ?_⟩) hHeld ?_
      · obtain ⟨s0, s1, s2, s3, s4, _⟩ := hSw
        go_simp
      try simp only [Act.put, List.setIfInBounds_toArray, List.set_cons_zero, List.set_cons_succ]
      refine wpAnyH_take (i := 13) (oi := ⟨_, _, _, _, _, _⟩) (v := .string zn) rfl (by kernel_rfl) (by kernel_rfl) (by kernel_rfl) (fun _ _ _ h => h) (Or.inl ⟨by with_unfolding_all rfl, fun w' hSw => ?_⟩) hHeld ?_
      · obtain ⟨s0, s1, s2, s3, s4, _⟩ := hSw
        go_simp
      try simp only [Act.put, List.setIfInBounds_toArray, List.set_cons_zero, List.set_cons_succ]
      refine wpAnyH_take (i := 14) (oi := ⟨_, _, _, _, _, _⟩) (v := .pointer (some ⟨g, 0, none⟩)) rfl (by kernel_rfl) (by kernel_rfl) (by kernel_rfl) (fun _ _ _ h => h) (Or.inl ⟨by with_unfolding_all rfl, fun w' hSw => ?_⟩) hHeld ?_
      · obtain ⟨s0, s1, s2, s3, s4, _⟩ := hSw
        go_simp
      try simp only [Act.put, List.setIfInBounds_toArray, List.set_cons_zero, List.set_cons_succ]
      refine wpAnyH_take (i := 15) (oi := ⟨_, _, _, _, _, _⟩) (v := .string xn) rfl (by kernel_rfl) (by kernel_rfl) (by kernel_rfl) (fun _ _ _ h => h) (Or.inl ⟨by with_unfolding_all rfl, fun w' hSw => ?_⟩) hHeld ?_
      · obtain ⟨s0, s1, s2, s3, s4, _⟩ := hSw
        go_simp
      try simp only [Act.put, List.setIfInBounds_toArray, List.set_cons_zero, List.set_cons_succ]
      refine wpAnyH_take (i := 16) (oi := ⟨_, _, _, _, _, _⟩) (v := .bool false) rfl (by kernel_rfl) (by kernel_rfl) (by kernel_rfl) (fun _ _ _ h => h) (Or.inl ⟨by with_unfolding_all rfl, fun w' hSw => ?_⟩) hHeld ?_
      · obtain ⟨s0, s1, s2, s3, s4, _⟩ := hSw
        go_simp
      try simp only [Act.put, List.setIfInBounds_toArray, List.set_cons_zero, List.set_cons_succ]
      refine wpAnyH_take (i := 17) (oi := ⟨_, _, _, _, _, _⟩) (v := .bool false) rfl (by kernel_rfl) (by kernel_rfl) (by kernel_rfl) (fun _ _ _ h => h) (Or.inl ⟨by with_unfolding_all rfl, fun w' hSw => ?_⟩) hHeld ?_
      · obtain ⟨s0, s1, s2, s3, s4, _⟩ := hSw
        go_simp
      try simp only [Act.put, List.setIfInBounds_toArray, List.set_cons_zero, List.set_cons_succ]
      refine wpAnyH_take (i := 18) (oi := ⟨_, _, _, _, _, _⟩) (v := .bool false) rfl (by kernel_rfl) (by kernel_rfl) (by kernel_rfl) (fun _ _ _ h => h) (Or.inl ⟨wanted_none rfl, fun w' hSw => ?_⟩) hHeld ?_
      · obtain ⟨s0, s1, s2, s3, s4, _⟩ := hSw
        go_simp
      try simp only [Act.put, List.setIfInBounds_toArray, List.set_cons_zero, List.set_cons_succ]
      refine wpAnyH_done (by kernel_rfl) ?_ _
      have HSd := KpTy.kpH HY5
      clear hHeld hG HYd HY5
      go_wp2
      go_roundw
      case rel => exact ⟨k + 1, by go_num, by omega, HT2, HSd⟩
      case measure => simp [intOf]; omega
    | false =>
      as_aux_lemma =>
      have HF : Hid (R = false) := HNo2.out k1 hk1l (by omega) hlt2
      have d7 : Op.bytesLess l[k1].nm.toList xn.toList = false := hlt2
      obtain ⟨zn, hzn⟩ : ∃ zn, l[k1].nm = zn := ⟨_, rfl⟩
      have HZ : Hid (True → ∃ h : k1 < l.length, l[k1].nm = zn) := fun _ => ⟨hk1l, hzn⟩
      rw [hzn] at d7
      clear HNo HNo2 HYes HW HK hlt2 hzn
      refine wp_region_held_drew (S := fun w' => w'.cell? ⟨g, 0, none⟩ = some (.string xn) ∧ w'.cell? ⟨g, 1, none⟩ = some (.string xi) ∧ w'.cell? ⟨g, 2, none⟩ = some (.int .i64 xs) ∧ w'.cell? ⟨w.heap.size, 2, none⟩ = some (.slice (some ⟨b, o, none⟩) n c) ∧ w'.cell? ⟨b, o + k1 * 3, none⟩ = some (.string zn) ∧ Hid (KpTy w v e (some ⟨b, o, none⟩) n c l g xn xi xs w')) (by kernel_rfl) (KpTy.five HZ HYd) (fun hHeld => ?_)
      refine wpAnyH_take (i := 0) (oi := ⟨_, _, _, _, _, _⟩) (v := .agg #[.string xn, .string xi, .int .i64 xs]) rfl (by kernel_rfl) (by kernel_rfl) (by kernel_rfl) (fun _ _ _ h => h) (Or.inl ⟨wanted_none rfl, fun w' hSw => ?_⟩) hHeld ?_
      · obtain ⟨s0, s1, s2, s3, s4, _⟩ := hSw
        go_simp
      try simp only [Act.put, List.setIfInBounds_toArray, List.set_cons_zero, List.set_cons_succ]
      refine wpAnyH_ready (rs := [1]) (by kernel_rfl) (by simp) (AllReadyH.cons (o := ⟨_, _, _, _, _, _⟩) rfl (fun K hK => ?_) AllReadyH.nil)
      rewrite [if_pos (wanted_none rfl)]
      go_simp
      refine (hG _).mono ?_
      rintro r w5 ⟨rfl, hB5⟩
      have HY5 := KpTy.call HYd hB5
      go_wp2_with fail
      refine hK.out _ _ (KpTy.five HZ HY5) (fun hHeld => ?_)
      clear hK K
      try simp only [Act.put, List.setIfInBounds_toArray, List.set_cons_zero, List.set_cons_succ]
      refine wpAnyH_take (i := 2) (oi := ⟨_, _, _, _, _, _⟩) (v := .bool false) rfl (by kernel_rfl) (by kernel_rfl) (by kernel_rfl) (fun _ _ _ h => h) (Or.inl ⟨wanted_none rfl, fun w' hSw => ?_⟩) hHeld ?_
      · obtain ⟨s0, s1, s2, s3, s4, _⟩ := hSw
        go_simp
      try simp only [Act.put, List.setIfInBounds_toArray, List.set_cons_zero, List.set_cons_succ]
      refine wpAnyH_take (i := 3) (oi := ⟨_, _, _, _, _, _⟩) (v := .bool false) rfl (by kernel_rfl) (by kernel_rfl) (by kernel_rfl) (fun _ _ _ h => h) (Or.inl ⟨wanted_none rfl, fun w' hSw => ?_⟩) hHeld ?_
      · obtain ⟨s0, s1, s2, s3, s4, _⟩ := hSw
        go_simp
      try simp only [Act.put, List.setIfInBounds_toArray, List.set_cons_zero, List.set_cons_succ]
      refine wpAnyH_take (i := 4) (oi := ⟨_, _, _, _, _, _⟩) (v := .int .i64 (k : Int)) rfl (by kernel_rfl) (by kernel_rfl) (by kernel_rfl) (fun _ _ _ h => h) (Or.inl ⟨by with_unfolding_all rfl, fun w' hSw => ?_⟩) hHeld ?_
      · obtain ⟨s0, s1, s2, s3, s4, _⟩ := hSw
        go_simp
      try simp only [Act.put, List.setIfInBounds_toArray, List.set_cons_zero, List.set_cons_succ]
      refine wpAnyH_take (i := 5) (oi := ⟨_, _, _, _, _, _⟩) (v := .bool true) rfl (by kernel_rfl) (by kernel_rfl) (by kernel_rfl) (fun _ _ _ h => h) (Or.inl ⟨by with_unfolding_all rfl, fun w' hSw => ?_⟩) hHeld ?_
      · obtain ⟨s0, s1, s2, s3, s4, _⟩ := hSw
        go_simp
      try simp only [Act.put, List.setIfInBounds_toArray, List.set_cons_zero, List.set_cons_succ]
      refine wpAnyH_take (i := 6) (oi := ⟨_, _, _, _, _, _⟩) (v := .bool true) rfl (by kernel_rfl) (by kernel_rfl) (by kernel_rfl) (fun _ _ _ h => h) (Or.inl ⟨by with_unfolding_all rfl, fun w' hSw => ?_⟩) hHeld ?_
      · obtain ⟨s0, s1, s2, s3, s4, _⟩ := hSw
        go_simp
      try simp only [Act.put, List.setIfInBounds_toArray, List.set_cons_zero, List.set_cons_succ]
      refine wpAnyH_take (i := 7) (oi := ⟨_, _, _, _, _, _⟩) (v := .pointer (some ⟨w.heap.size, 2, none⟩)) rfl (by kernel_rfl) (by kernel_rfl) (by kernel_rfl) (fun _ _ _ h => h) (Or.inl ⟨by with_unfolding_all rfl, fun w' hSw => ?_⟩) hHeld ?_
      · obtain ⟨s0, s1, s2, s3, s4, _⟩ := hSw
        go_simp
      try simp only [Act.put, List.setIfInBounds_toArray, List.set_cons_zero, List.set_cons_succ]
      refine wpAnyH_take (i := 8) (oi := ⟨_, _, _, _, _, _⟩) (v := .slice (some ⟨b, o, none⟩) n c) rfl (by kernel_rfl) (by kernel_rfl) (by kernel_rfl) (fun _ _ _ h => h) (Or.inl ⟨by with_unfolding_all rfl, fun w' hSw => ?_⟩) hHeld ?_
      · obtain ⟨s0, s1, s2, s3, s4, _⟩ := hSw
        go_simp
      try simp only [Act.put, List.setIfInBounds_toArray, List.set_cons_zero, List.set_cons_succ]
      refine wpAnyH_take (i := 9) (oi := ⟨_, _, _, _, _, _⟩) (v := .int .i64 (k : Int)) rfl (by kernel_rfl) (by kernel_rfl) (by kernel_rfl) (fun _ _ _ h => h) (Or.inl ⟨by with_unfolding_all rfl, fun w' hSw => ?_⟩) hHeld ?_
      · obtain ⟨s0, s1, s2, s3, s4, _⟩ := hSw
        go_simp
      try simp only [Act.put, List.setIfInBounds_toArray, List.set_cons_zero, List.set_cons_succ]
      refine wpAnyH_take (i := 10) (oi := ⟨_, _, _, _, _, _⟩) (v := .int .i64 (k1 : Int)) rfl (by kernel_rfl) (by kernel_rfl) (by kernel_rfl) (fun _ _ _ h => h) (Or.inl ⟨by with_unfolding_all rfl, fun w' hSw => ?_⟩) hHeld ?_
      · obtain ⟨s0, s1, s2, s3, s4, _⟩ := hSw
        go_simp
      try simp only [Act.put, List.setIfInBounds_toArray, List.set_cons_zero, List.set_cons_succ]
      refine wpAnyH_take (i := 11) (oi := ⟨_, _, _, _, _, _⟩) (v := .pointer (some ⟨b, o + k1 * 3, none⟩)) rfl (by kernel_rfl) (by kernel_rfl) (by kernel_rfl) (fun _ _ _ h => h) (Or.inl ⟨by with_unfolding_all rfl, fun w' hSw => ?_⟩) hHeld ?_
      · obtain ⟨s0, s1, s2, s3, s4, _⟩ := hSw
        go_simp
      try simp only [Act.put, List.setIfInBounds_toArray, List.set_cons_zero, List.set_cons_succ]
      refine wpAnyH_take (i := 12) (oi := ⟨_, _, _, _, _, _⟩) (v := .pointer (some ⟨b, o + k1 * 3, none⟩)) rfl (by kernel_rfl) (by kernel_rfl) (by kernel_rfl) (fun _ _ _ h => h) (Or.inl ⟨by with_unfolding_all rfl, fun w' hSw => ?_⟩) hHeld ?_
      · obtain ⟨s0, s1, s2, s3, s4, _⟩ := hSw
        go_simp
      try simp only [Act.put, List.setIfInBounds_toArray, List.set_cons_zero, List.set_cons_succ]
      refine wpAnyH_take (i := 13) (oi := ⟨_, _, _, _, _, _⟩) (v := .string zn) rfl (by kernel_rfl) (by kernel_rfl) (by kernel_rfl) (fun _ _ _ h => h) (Or.inl ⟨by with_unfolding_all rfl, fun w' hSw => ?_⟩) hHeld ?_
      · obtain ⟨s0, s1, s2, s3, s4, _⟩ := hSw
        go_simp
      try simp only [Act.put, List.setIfInBounds_toArray, List.set_cons_zero, List.set_cons_succ]
      refine wpAnyH_take (i := 14) (oi := ⟨_, _, _, _, _, _⟩) (v := .pointer (some ⟨g, 0, none⟩)) rfl (by kernel_rfl) (by kernel_rfl) (by kernel_rfl) (fun _ _ _ h => h) (Or.inl ⟨by with_unfolding_all rfl, fun w' hSw => ?_⟩) hHeld ?_
      · obtain ⟨s0, s1, s2, s3, s4, _⟩ := hSw
        go_simp
      try simp only [Act.put, List.setIfInBounds_toArray, List.set_cons_zero, List.set_cons_succ]
      refine wpAnyH_take (i := 15) (oi := ⟨_, _, _, _, _, _⟩) (v := .string xn) rfl (by kernel_rfl) (by kernel_rfl) (by kernel_rfl) (fun _ _ _ h => h) (Or.inl ⟨by with_unfolding_all rfl, fun w' hSw => ?_⟩) hHeld ?_
      · obtain ⟨s0, s1, s2, s3, s4, _⟩ := hSw
        go_simp
      try simp only [Act.put, List.setIfInBounds_toArray, List.set_cons_zero, List.set_cons_succ]
      refine wpAnyH_take (i := 16) (oi := ⟨_, _, _, _, _, _⟩) (v := .bool true) rfl (by kernel_rfl) (by kernel_rfl) (by kernel_rfl) (fun _ _ _ h => h) (Or.inl ⟨by with_unfolding_all rfl, fun w' hSw => ?_⟩) hHeld ?_
      · obtain ⟨s0, s1, s2, s3, s4, _⟩ := hSw
        go_simp
      try simp only [Act.put, List.setIfInBounds_toArray, List.set_cons_zero, List.set_cons_succ]
      refine wpAnyH_take (i := 17) (oi := ⟨_, _, _, _, _, _⟩) (v := .bool true) rfl (by kernel_rfl) (by kernel_rfl) (by kernel_rfl) (fun _ _ _ h => h) (Or.inl ⟨by with_unfolding_all rfl, fun w' hSw => ?_⟩) hHeld ?_
      · obtain ⟨s0, s1, s2, s3, s4, _⟩ := hSw
        go_simp
      try simp only [Act.put, List.setIfInBounds_toArray, List.set_cons_zero, List.set_cons_succ]
      refine wpAnyH_take (i := 18) (oi := ⟨_, _, _, _, _, _⟩) (v := .bool true) rfl (by kernel_rfl) (by kernel_rfl) (by kernel_rfl) (fun _ _ _ h => h) (Or.inl ⟨wanted_none rfl, fun w' hSw => ?_⟩) hHeld ?_
      · obtain ⟨s0, s1, s2, s3, s4, _⟩ := hSw
        go_simp
      try simp only [Act.put, List.setIfInBounds_toArray, List.set_cons_zero, List.set_cons_succ]
      refine wpAnyH_done (by kernel_rfl) ?_ _
      have HSd := KpTy.kpH HY5
      clear hHeld hG HYd HY5
      go_wp2
      go_ret
      exact ⟨retY HF.out.symm, HSd.out.below⟩
end Go.Proofs.YtdfglpbappeoaabDoor
