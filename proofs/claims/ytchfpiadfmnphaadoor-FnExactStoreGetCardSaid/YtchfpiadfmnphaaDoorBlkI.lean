/- The program's takeBlock. -/
import Derived.Test.YtchfpiadfmnphaaDoorSpr
namespace Go.Proofs.YtchfpiadfmnphaaDoor
open Go.RowKit
set_option linter.unusedVariables false
attribute [local go_sem] U_xor U_or U_and U_add U_shr U_shl U_not U_store U_one'
attribute [local go_sem ↓] Go.wp_at_zero Go.wp_at_succ U_cells

theorem ArrU.far {w : World} {g b k : Nat} {l : List UInt32} {v : Value} (h : ArrU w g l) (hne : g ≠ b) : ArrU (w.setCell ⟨b, k, none⟩ v).drew g l := by
  have hc : ∀ j, (w.setCell ⟨b, k, none⟩ v).drew.cell? ⟨g, 0 + j, none⟩ = w.cell? ⟨g, 0 + j, none⟩ := fun j => by
    show (w.setCell ⟨b, k, none⟩ v).cell? _ = _
    exact World.cell?_setCell_other w _ _ v (by intro e; injection e with e _ _; exact hne e.symm)
  refine ⟨fun j u hu => (hc j).trans (h.rng j u hu), fun j hj => ⟨by rw [hc j]; exact (h.ths j hj).1, ?_⟩⟩
  show (w.setCell ⟨b, k, none⟩ v).frozen? _ = _
  rw [World.frozen?_setCell]
  exact (h.ths j hj).2
theorem wanted_none {o : Oper} {y : Nat → Option Bool} (h : o.guard = none) : Region.wanted o y = true := by simp [Region.wanted, h]
theorem mix_set (r q : R8) {k : Nat} (hk : k < 8) : outs r q (k + 1) ++ r.list.drop (k + 1) = (outs r q k ++ r.list.drop k).set k (r.at k + q.at k) := by
  match k, hk with
  | 0, _ => rfl
  | 1, _ => rfl
  | 2, _ => rfl
  | 3, _ => rfl
  | 4, _ => rfl
  | 5, _ => rfl
  | 6, _ => rfl
  | 7, _ => rfl
theorem mix_get (r q : R8) {k : Nat} (hk : k < 8) : (outs r q k ++ r.list.drop k)[k]? = some (r.at k) := by
  match k, hk with
  | 0, _ => rfl
  | 1, _ => rfl
  | 2, _ => rfl
  | 3, _ => rfl
  | 4, _ => rfl
  | 5, _ => rfl
  | 6, _ => rfl
  | 7, _ => rfl
theorem mix_len (r q : R8) {k : Nat} (hk : k ≤ 8) : (outs r q k ++ r.list.drop k).length = 8 := by
  simp [outs, R8.list]; omega
theorem ArrU.cellQ {w : World} {g k : Nat} {l : List UInt32} {x : UInt32} (h : ArrU w g l) (hx : l[k]? = some x) : w.cell? ⟨g, k, none⟩ = some (U x) := by
  obtain ⟨hk, he⟩ := List.getElem?_eq_some_iff.1 hx
  rw [h.cell hk, he]
theorem list_get (r : R8) {k : Nat} (hk : k < 8) : r.list[k]? = some (r.at k) := mix_get r r hk ▸ (by
  match k, hk with
  | 0, _ => rfl
  | 1, _ => rfl
  | 2, _ => rfl
  | 3, _ => rfl
  | 4, _ => rfl
  | 5, _ => rfl
  | 6, _ => rfl
  | 7, _ => rfl)

set_option maxRecDepth 100000 in
set_option maxHeartbeats 1000000 in
theorem blockI_any (r : R8) (s : ByteArray) (w : World) (hs : s.size = 64) (hK : ArrU w 0 keys) (hg0 : 0 < w.heap.size) :
    Calls Tryd.prog 107 #[aggU r.list, .string s] w fun e w' => e = .returned (aggU (blk r s).list) ∧ Below w.heap.size w w' := by
  have HK : Hid (ArrU w 0 keys) := hK
  clear hK
  obtain ⟨l, hl⟩ : ∃ l, sch s 48 = l := ⟨_, rfl⟩
  have hl48 : l.length = 64 := by rw [← hl]; exact sch_length s 48
  have hspr : ∀ w0 : World, Calls Tryd.prog 117 #[.string s] w0 fun e w' => e = .returned (aggU l) ∧ Below w0.heap.size w0 w' := fun w0 => by rw [← hl]; exact spread_any s w0 hs
  have HL : Hid (True → sch s 48 = l) := fun _ => hl
  clear hl
  go_enter Tryd.func107, Tryd.ntmps107
  go_wp2_with (first
    | (with_reducible refine wpList_boxU (w := w) (by with_unfolding_all rfl) 128 (.tmp 0) (by with_unfolding_all rfl) r.list (by with_unfolding_all rfl) ?_; intro w1 hA1 hB1 hS1)
    | (with_reducible refine wpList_allocU (w := w1) (by with_unfolding_all rfl) 128 (by with_unfolding_all rfl) 8 Tryd.infoA8 ?_; intro w2 hA2 hB2 hS2)
    | (go_at_call 117; refine (hspr _).mono ?_; rintro e w3 ⟨rfl, hB3⟩)
    | (with_reducible refine wpList_allocU (w := w3) (by with_unfolding_all rfl) 166 (by with_unfolding_all rfl) 64 Tryd.infoA64 ?_; intro w4 hA4 hB4 hS4)
    | (with_reducible refine wpList_storeU (w := w4) (by with_unfolding_all rfl) 166 (.tmp 5) (.tmp 10) (by with_unfolding_all rfl) w3.heap.size (List.replicate 64 0) l (by with_unfolding_all rfl) (by with_unfolding_all rfl) hA4 (by rw [List.length_replicate]; exact Tryd.sizeA64) (by rw [List.length_replicate]; exact hl48) ?_; intro w5 hA5 hB5 _; have HW5 : ArrU w5 w.heap.size r.list := (((hA1.below hB2 (by omega)).below hB3 (by omega)).below (hB4.trans (hB5 _ (Nat.le_refl _))) (by have := hB3.size; omega)))
    | (with_reducible refine wpList_loadU (w := w5) (by with_unfolding_all rfl) 128 (.tmp 2) (by with_unfolding_all rfl) w.heap.size r.list (by with_unfolding_all rfl) HW5 8 127 Tryd.undA8 Tryd.sizeA8 (by with_unfolding_all rfl) ?_)
    | (with_reducible refine wpList_allocU (w := w5) (by with_unfolding_all rfl) 128 (by with_unfolding_all rfl) 8 Tryd.infoA8 ?_; intro w6 hA6 hB6 hS6)
    | (with_reducible refine wpList_storeU (w := w6) (by with_unfolding_all rfl) 128 (.tmp 6) (.tmp 11) (by with_unfolding_all rfl) w5.heap.size (List.replicate 8 0) r.list (by with_unfolding_all rfl) (by with_unfolding_all rfl) hA6 (by rw [List.length_replicate]; exact Tryd.sizeA8) (by with_unfolding_all rfl) ?_; intro w7 hA7 hB7 _))
  have hz3 := hB3.size
  have hB57 : Below w5.heap.size w5 w7 := hB6.trans (hB7 _ (Nat.le_refl _))
  have hB47 : Below w3.heap.size w3 w5 := hB4.trans (hB5 _ (Nat.le_refl _))
  have hz5 := hB47.size
  have HW7 : Hid (ArrU w7 w.heap.size r.list) := HW5.below hB57 (by omega)
  have HB7 : Hid (Below w.heap.size w w7) := ((hB1.trans (hB2.mono (by omega))).trans ((hB3.mono (by omega)).trans (hB47.mono (by omega)))).trans (hB57.mono (by omega))
  have HS7 : Hid (ArrU w7 w3.heap.size l) := hA5.below hB57 (by have := (hB5 _ (Nat.le_refl _)).size; omega)
  have HR7 : Hid (ArrU w7 (w.heap.size + 1) (List.replicate 8 0)) := by rw [← hS1]; exact ((hA2.below hB3 (by omega)).below hB47 (by omega)).below hB57 (by omega)
  have HT7 : Hid (ArrU w7 w5.heap.size (rnds s r 0).list) := hA7
  have HK7 : Hid (ArrU w7 0 keys) := HK.out.below HB7.out hg0
  have HD : Hid (w.heap.size + 1 < w3.heap.size ∧ w3.heap.size < w5.heap.size) := ⟨by omega, by have := (hB5 _ (Nat.le_refl _)).size; omega⟩
  have HRN : Hid (∀ n, n < 64 → rnds s r (n + 1) = rndx (rnds s r n) (keys.getD n 0 + l.getD n 0)) := fun n _ => by rw [rnds, rnd_x, HL.out trivial]
  clear hA1 hA2 hB1 hB2 hS1 hS2 hB3 hA4 hB4 hS4 hA5 hB5 HW5 hA6 hB6 hS6 hA7 hB7 hB57 hB47 hz3 hz5 hspr HL HK
  generalize w3.heap.size = gs at *
  generalize w5.heap.size = gt at *
  go_loopw [12] (fun i wr => ∃ (n : Nat), i = .int .i64 (n : Int) ∧ n ≤ 64 ∧ ArrU wr gt (rnds s r n).list ∧ Below gt w7 wr)
    (fun i _ => 64 - (intOf i).toNat)
  case atStart => exact ⟨0, rfl, Nat.zero_le _, HT7.out, Below.refl _ _⟩
  case round =>
   as_aux_lemma =>
    clear HT7
    obtain ⟨n, rfl, hn, hT, hnx⟩ := hrel
    have HT : Hid (ArrU wr gt (rnds s r n).list) := hT
    clear hT
    by_cases hlt : n < 64
    · as_aux_lemma =>
      have hd := HD.out
      have dk := (HK7.out.below hnx (by omega)).cell (k := n) (by rw [keys_length]; exact hlt)
      have dw := (HS7.out.below hnx (by omega)).cell (k := n) (by omega)
      have HE : Hid (True → keys.getD n 0 = keys[n]'(by rw [keys_length]; exact hlt) ∧ l.getD n 0 = l[n]'(by omega)) := fun _ => ⟨by simp [keys_length, hlt], by simp [hl48, hlt]⟩
      have HRN' : Hid (True → rnds s r (n + 1) = rndx (rnds s r n) (keys.getD n 0 + l.getD n 0)) := fun _ => HRN.out n hlt
      generalize keys[n]'(by rw [keys_length]; exact hlt) = kk at *
      generalize l[n]'(by omega) = ww at *
      generalize rnds s r n = q at *
      have ln : (n : Int) < 64 := by omega
      have l0 : (0 : Int) ≤ n := by omega
      clear HK7 HS7 HRN hd
      go_wp2_with fail
      refine wp_region_held_drew (S := fun w' => w'.cell? ⟨0, n, none⟩ = some (U kk) ∧ w'.cell? ⟨gs, n, none⟩ = some (U ww)) (by kernel_rfl) ⟨dk, dw⟩ (fun hHeld => ?_)
      refine wpAnyH_take (i := 1) (oi := ⟨_, _, _, _, _, _⟩) (v := .int .i64 (n : Int)) rfl (by kernel_rfl) (by kernel_rfl) (by kernel_rfl) (fun _ _ _ h => h) (Or.inl ⟨wanted_none rfl, fun w' hSw => ?_⟩) hHeld ?_
      · obtain ⟨hk', hw'⟩ := hSw
        go_simp
      simp only [Act.put, List.setIfInBounds_toArray, List.set_cons_zero, List.set_cons_succ]
      refine wpAnyH_take (i := 2) (oi := ⟨_, _, _, _, _, _⟩) (v := .pointer (some ⟨0, n, none⟩)) rfl (by kernel_rfl) (by kernel_rfl) (by kernel_rfl) (fun _ _ _ h => h) (Or.inl ⟨wanted_none rfl, fun w' hSw => ?_⟩) hHeld ?_
      · obtain ⟨hk', hw'⟩ := hSw
        go_simp
      simp only [Act.put, List.setIfInBounds_toArray, List.set_cons_zero, List.set_cons_succ]
      refine wpAnyH_take (i := 3) (oi := ⟨_, _, _, _, _, _⟩) (v := U kk) rfl (by kernel_rfl) (by kernel_rfl) (by kernel_rfl) (fun _ _ _ h => h) (Or.inl ⟨wanted_none rfl, fun w' hSw => ?_⟩) hHeld ?_
      · obtain ⟨hk', hw'⟩ := hSw
        go_simp
      simp only [Act.put, List.setIfInBounds_toArray, List.set_cons_zero, List.set_cons_succ]
      refine wpAnyH_take (i := 4) (oi := ⟨_, _, _, _, _, _⟩) (v := .int .i64 (n : Int)) rfl (by kernel_rfl) (by kernel_rfl) (by kernel_rfl) (fun _ _ _ h => h) (Or.inl ⟨wanted_none rfl, fun w' hSw => ?_⟩) hHeld ?_
      · obtain ⟨hk', hw'⟩ := hSw
        go_simp
      simp only [Act.put, List.setIfInBounds_toArray, List.set_cons_zero, List.set_cons_succ]
      refine wpAnyH_take (i := 5) (oi := ⟨_, _, _, _, _, _⟩) (v := .pointer (some ⟨gs, n, none⟩)) rfl (by kernel_rfl) (by kernel_rfl) (by kernel_rfl) (fun _ _ _ h => h) (Or.inl ⟨wanted_none rfl, fun w' hSw => ?_⟩) hHeld ?_
      · obtain ⟨hk', hw'⟩ := hSw
        go_simp
      simp only [Act.put, List.setIfInBounds_toArray, List.set_cons_zero, List.set_cons_succ]
      refine wpAnyH_take (i := 6) (oi := ⟨_, _, _, _, _, _⟩) (v := U ww) rfl (by kernel_rfl) (by kernel_rfl) (by kernel_rfl) (fun _ _ _ h => h) (Or.inl ⟨wanted_none rfl, fun w' hSw => ?_⟩) hHeld ?_
      · obtain ⟨hk', hw'⟩ := hSw
        go_simp
      simp only [Act.put, List.setIfInBounds_toArray, List.set_cons_zero, List.set_cons_succ]
      refine wpAnyH_take (i := 7) (oi := ⟨_, _, _, _, _, _⟩) (v := U (kk + ww)) rfl (by kernel_rfl) (by kernel_rfl) (by kernel_rfl) (fun _ _ _ h => h) (Or.inl ⟨wanted_none rfl, fun w' hSw => ?_⟩) hHeld ?_
      · obtain ⟨hk', hw'⟩ := hSw
        go_simp
      simp only [Act.put, List.setIfInBounds_toArray, List.set_cons_zero, List.set_cons_succ]
      refine wpAnyH_ready (rs := [0]) (by kernel_rfl) (by simp) (AllReadyH.cons (o := ⟨_, _, _, _, _, _⟩) rfl (fun K hK => ?_) AllReadyH.nil)
      rewrite [if_pos (wanted_none rfl)]
      with_reducible refine wp_load_mid 128 (.tmp 6) (by with_unfolding_all rfl) gt 0 (by with_unfolding_all rfl) (us q.list) (.array 8 127) HT.out.drew.rng Tryd.undA8 (by with_unfolding_all rfl) (by with_unfolding_all exact Tryd.sizeA8) ?_
      refine hK.out _ _ hHeld (fun hHeld => ?_)
      clear hK K
      simp only [Act.put, List.setIfInBounds_toArray, List.set_cons_zero, List.set_cons_succ]
      refine wpAnyH_ready (rs := [8]) (by kernel_rfl) (by simp) (AllReadyH.cons (o := ⟨_, _, _, _, _, _⟩) rfl (fun K hK => ?_) AllReadyH.nil)
      rewrite [if_pos (wanted_none rfl)]
      go_simp
      refine (round_any q (kk + ww) _).mono ?_
      rintro e w3 ⟨rfl, hB3⟩
      go_wp2_with fail
      have hzz := hnx.size
      have hd := HD.out
      have HH : w3.cell? ⟨0, n, none⟩ = some (U kk) ∧ w3.cell? ⟨gs, n, none⟩ = some (U ww) := ⟨(hB3.cell (p := ⟨0, n, none⟩) (cell_lt hHeld.1)).trans hHeld.1, (hB3.cell (p := ⟨gs, n, none⟩) (cell_lt hHeld.2)).trans hHeld.2⟩
      refine hK.out _ _ HH (fun hHeld2 => ?_)
      clear hK K
      have HT3 : ArrU w3 gt q.list := HT.out.drew.below hB3 (HT.out.lt (by show 0 < 8; omega))
      refine wpAnyH_ready (rs := [9]) (by kernel_rfl) (by simp) (AllReadyH.cons (o := ⟨_, _, _, _, _, _⟩) rfl (fun K hK => ?_) AllReadyH.nil)
      rewrite [if_pos (wanted_none rfl)]
      with_reducible refine wp_store_mid 128 (.tmp 6) (.tmp 23) (by with_unfolding_all rfl) gt 0 (us (rndx q (kk + ww)).list).toArray (by with_unfolding_all rfl) (by with_unfolding_all rfl) (by with_unfolding_all exact HT3.ths) (by with_unfolding_all exact Tryd.sizeA8) (us_one _) ?_
      have HB4 : Below gt wr (w3.setCells gt 0 (us (rndx q (kk + ww)).list)) := ((Below.refl _ wr).drew.trans (hB3.mono (by have := HT.out.lt (by show 0 < 8; omega); exact Nat.le_of_lt this))).trans (Lib.below_setCells_w (Nat.le_refl _) _ _ _)
      have HT4 : Hid (ArrU (w3.setCells gt 0 (us (rndx q (kk + ww)).list)) gt (rndx q (kk + ww)).list) := HT3.put rfl
      have HB5 : Hid (Below gt w7 (w3.setCells gt 0 (us (rndx q (kk + ww)).list))) := hnx.trans HB4
      have HH4 : (w3.setCells gt 0 (us (rndx q (kk + ww)).list)).cell? ⟨0, n, none⟩ = some (U kk) ∧ (w3.setCells gt 0 (us (rndx q (kk + ww)).list)).cell? ⟨gs, n, none⟩ = some (U ww) := ⟨(HB4.cell (p := ⟨0, n, none⟩) (by show 0 < gt; omega)).trans dk, (HB4.cell (p := ⟨gs, n, none⟩) (by show gs < gt; omega)).trans dw⟩
      dsimp only
      generalize w3.setCells gt 0 (us (rndx q (kk + ww)).list) = w4 at *
      refine hK.out _ _ HH4 (fun hHeld3 => ?_)
      clear hK K
      refine wpAnyH_done (by kernel_rfl) ?_ _
      clear HH4 HT3 HB4 HH hHeld hHeld2 hHeld3 dk dw hB3
      go_wp2
      go_roundw
      case rel => exact ⟨n + 1, by go_num, hlt, by rw [HRN'.out trivial, (HE.out trivial).1, (HE.out trivial).2]; exact HT4.out, HB5.out⟩
      case measure => simp [intOf]; omega
    · as_aux_lemma =>
      obtain rfl : n = 64 := by omega
      have hd := HD.out
      obtain ⟨q, hq⟩ : ∃ q, rnds s r 64 = q := ⟨_, rfl⟩
      rw [hq] at HT
      have HQ : Hid (True → blk r s = r.add q) := fun _ => by rw [blk, hq]
      have HW8 : Hid (ArrU wr w.heap.size (outs r q 0 ++ r.list.drop 0)) := HW7.out.below hnx (by omega)
      have HR8 : Hid (ArrU wr (w.heap.size + 1) (List.replicate 8 0)) := HR7.out.below hnx (by omega)
      have HB8 : Hid (Below w.heap.size w wr) := HB7.out.trans (hnx.mono (by omega))
      have hne : w.heap.size ≠ gt ∧ w.heap.size ≠ w.heap.size + 1 := ⟨by omega, by omega⟩
      have HNE : Hid (gt ≠ w.heap.size) := fun e => hne.1 e.symm
      clear HRN HK7 HS7 HW7 HR7 HB7 hnx hq hne hd HD hlt hn
      rw [show ((64 : Nat) : Int) = 64 from rfl]
      go_wp2_with fail
      go_loopw [25] (fun i wr => ∃ (k : Nat), i = .int .i64 (k : Int) ∧ k ≤ 8 ∧ ArrU wr w.heap.size (outs r q k ++ r.list.drop k) ∧ ArrU wr gt q.list ∧ ArrU wr (w.heap.size + 1) (List.replicate 8 0) ∧ Below w.heap.size w wr)
        (fun i _ => 8 - (intOf i).toNat)
      case atStart => exact ⟨0, rfl, Nat.zero_le _, HW8.out, HT.out, HR8.out, HB8.out⟩
      case round =>
       as_aux_lemma =>
        clear HT HW8 HR8 HB8
        obtain ⟨k, rfl, hk, hW, hT, hR, hB⟩ := hrel
        have H8 : Hid (ArrU wr w.heap.size (outs r q k ++ r.list.drop k) ∧ ArrU wr gt q.list ∧ ArrU wr (w.heap.size + 1) (List.replicate 8 0) ∧ Below w.heap.size w wr) := ⟨hW, hT, hR, hB⟩
        by_cases hlt : k < 8
        · as_aux_lemma =>
          have c1 := hW.cellQ (mix_get r q hlt)
          have c2 := hT.cellQ (list_get q hlt)
          have hfz := hW.frozen (k := k) (by rw [mix_len r q hk]; exact hlt)
          have HS : Hid (True → outs r q (k + 1) ++ r.list.drop (k + 1) = (outs r q k ++ r.list.drop k).set k (r.at k + q.at k)) := fun _ => mix_set r q hlt
          have HLn : Hid (k < (outs r q k ++ r.list.drop k).length) := by show _ < _; rw [mix_len r q hk]; exact hlt
          generalize r.at k = x at *
          generalize q.at k = y at *
          have hcl : ∀ x : UInt32, (U x).cells = #[U x] := fun _ => rfl
          unfold Value.cells at hcl
          have lk : (k : Int) < 8 := by omega
          have l0 : (0 : Int) ≤ k := by omega
          clear hW hT hR hB
          go_wp2_with fail
          go_region
          have H9 : Hid (ArrU (wr.setCell ⟨w.heap.size, k, none⟩ (U (x + y))).drew w.heap.size (outs r q (k + 1) ++ r.list.drop (k + 1)) ∧ ArrU (wr.setCell ⟨w.heap.size, k, none⟩ (U (x + y))).drew gt q.list ∧ ArrU (wr.setCell ⟨w.heap.size, k, none⟩ (U (x + y))).drew (w.heap.size + 1) (List.replicate 8 0) ∧ Below w.heap.size w (wr.setCell ⟨w.heap.size, k, none⟩ (U (x + y))).drew) :=
            ⟨(H8.out.1.set (k := k) HLn.out (HS.out trivial)).drew, H8.out.2.1.far HNE.out, H8.out.2.2.1.far (by omega), (H8.out.2.2.2.setCell (Nat.le_refl _) _).drew⟩
          generalize (wr.setCell ⟨w.heap.size, k, none⟩ (U (x + y))).drew = w9 at *
          clear c1 c2 hfz hcl H8
          go_wp2
          go_roundw
          case rel => exact ⟨k + 1, by go_num, hlt, H9.out.1, H9.out.2.1, H9.out.2.2.1, H9.out.2.2.2⟩
          case measure => simp [intOf]; omega
        · as_aux_lemma =>
          obtain rfl : k = 8 := by omega
          have hW' : ArrU wr w.heap.size (r.add q).list := hW
          clear hW hT H8
          go_wp2_with (first
            | (with_reducible refine wpList_loadU (by with_unfolding_all rfl) 128 (.tmp 2) (by with_unfolding_all rfl) w.heap.size (r.add q).list (by with_unfolding_all rfl) hW' 8 127 Tryd.undA8 Tryd.sizeA8 (by with_unfolding_all rfl) ?_)
            | (with_reducible refine wpList_storeU (by with_unfolding_all rfl) 128 (.tmp 4) (.tmp 37) (by with_unfolding_all rfl) (w.heap.size + 1) (List.replicate 8 0) (r.add q).list (by with_unfolding_all rfl) (by with_unfolding_all rfl) hR (by rw [List.length_replicate]; exact Tryd.sizeA8) (by with_unfolding_all rfl) ?_; intro wz hAz hBz _))
          refine bodyPost_ret (results_U (t := 128) rfl _ (w.heap.size + 1) _ rfl hAz 8 127 Tryd.undA8 Tryd.sizeA8 rfl) rfl ⟨by rw [HQ.out trivial], ?_⟩
          exact hB.trans (hBz _ (by omega))
end Go.Proofs.YtchfpiadfmnphaaDoor
