/- The program's HashEnd, of a right Hash. The specification's l02More. -/
import Derived.Test.YtchfpiadfmnphaaDoorJn23
import Derived.Test.YtchfpiadfmnphaaDoorJn10
import Derived.Deep.CutRange
namespace Go.Proofs.YtchfpiadfmnphaaDoor
open Go.RowKit
set_option linter.unusedVariables false
attribute [local go_sem] U_shr
attribute [local go_sem ↓] Go.wp_at_zero Go.wp_at_succ

theorem wp_allocU {P : Program} {o : Oper} {a : Act} {w : World} {K : Act → World → Prop} {Q : Exit → Act → World → Prop} (t : TypeId) (ho : o.op = .alloc t) (n : Nat)
    (hi : (P.info? t).map (fun i => i.zero) = some (some (aggU (List.replicate n 0))))
    (h : ∀ w', ArrU w' w.heap.size (List.replicate n 0) → Below w.heap.size w w' → w'.heap.size = w.heap.size + 1 → K (a.put o.dst (.pointer (some ⟨w.heap.size, 0, none⟩))) w') : Oper.wp P o a w K Q := by
  cases hq : P.info? t with
  | none => simp [hq] at hi
  | some i =>
    have hz : i.zero = some (aggU (List.replicate n 0)) := by simpa [hq] using hi
    unfold Oper.wp execOp
    simp only [ho, Sem.run_bind, Instr.alloc, zeroValue, run_typeInfo w hq, hz, newVar, newRow, run_newObj_alloc, Sem.run_pure, Result.andThen_ok]
    exact h _ (ArrU.new w _ t) ((Below.refl _ _).alloc (Nat.le_refl _) _) (Array.size_push _)
theorem right_ints {r : R8} {s : ByteArray} {z : Nat} (hs : s.size = z % 64) (hz : z ≤ 1099511627776) : rightB r.ints s (z : Int) = true := by
  refine right_yes ⟨rfl, by omega, by omega, ?_, ?_⟩
  · rw [Int.tmod_eq_emod_of_nonneg (by omega)]; omega
  · intro x hx
    unfold R8.ints at hx
    obtain ⟨y, _, rfl⟩ := List.mem_map.1 hx
    have := u32lt y
    exact ⟨by omega, by omega⟩
theorem U_to_u8 {P : Program} (w : World) (src dst : TypeId) (x : UInt32) (hs : P.underlying src = some (.int .u32)) (hd : P.underlying dst = some (.int .u8)) :
    (convert src dst (U x)).run P w = .ok (.int .u8 ((x.toNat % 256 : Nat) : Int)) w := by
  have hk : P.intKind dst = .u8 := by simp [Program.intKind, hd]
  unfold U
  rw [run_convert_int w src dst .u32 _ (by rw [hs]; rfl) (by rw [hk]; exact hd), hk]
  simp [IntKind.wrap, IntKind.signed, IntKind.bits]
theorem sr_nat (x : UInt32) (k : Nat) (hk : k < 32) : (sr x (k : Int)).toNat = x.toNat / 2 ^ k := by
  unfold sr
  rw [UInt32.toNat_shiftRight]
  have : (UInt32.ofNat ((k : Int).toNat)).toNat = k := by simp; omega
  rw [this, Nat.mod_eq_of_lt (by omega), Nat.shiftRight_eq_div_pow]
theorem dig4_sr (x : UInt32) : (bvs (dig4 x)).toArray = #[.int .u8 (((sr x 24).toNat % 256 : Nat) : Int), .int .u8 (((sr x 16).toNat % 256 : Nat) : Int), .int .u8 (((sr x 8).toNat % 256 : Nat) : Int), .int .u8 ((x.toNat % 256 : Nat) : Int)] := by
  have h1 := sr_nat x 24 (by omega)
  have h2 := sr_nat x 16 (by omega)
  have h3 := sr_nat x 8 (by omega)
  simp only [Int.cast_ofNat_Int] at h1 h2 h3
  rw [h1, h2, h3, dig4]
  simp only [bvs, List.map]
  rw [BV_ofNat _ (Nat.mod_lt _ (by omega)), BV_ofNat _ (Nat.mod_lt _ (by omega)), BV_ofNat _ (Nat.mod_lt _ (by omega)), BV_ofNat _ (Nat.mod_lt _ (by omega))]

set_option maxRecDepth 100000 in
set_option maxHeartbeats 1000000 in
theorem endI_any (g c : Nat) (r : R8) (s : ByteArray) (z : Nat) (w : World) (h : IAt w (some ⟨g, 0, none⟩) r.ints) (hs : s.size = z % 64) (hz : z ≤ 1099511627776) (hk : ArrU w 0 keys) (h0 : 0 < w.heap.size) :
    Calls Tryd.prog 60 #[HVal (some ⟨g, 0, none⟩) 8 c s (z : Int)] w fun e w' => e = .returned (.string ⟨(digs8 (stN r (s ++ ⟨(padL z).toArray⟩) ((s ++ ⟨(padL z).toArray⟩ : ByteArray).size / 64)) 8).toArray⟩) ∧ Below w.heap.size w w' := by
  have HI : Hid (IAt w (some ⟨g, 0, none⟩) r.ints ∧ ArrU w 0 keys) := ⟨h, hk⟩
  have hrt : ∀ w0, IAt w0 (some ⟨g, 0, none⟩) r.ints → Calls Tryd.prog 86 #[HVal (some ⟨g, 0, none⟩) 8 c s (z : Int)] w0 fun e w' => e = .returned (.bool true) ∧ Below w0.heap.size w0 w' := fun w0 h => by
    have := rightI_any (some ⟨g, 0, none⟩) c 8 r.ints s (z : Int) w0 rfl h (by omega) (by unfold maxLen; omega)
    rw [right_ints hs hz] at this
    exact this
  clear h hk
  obtain ⟨dH, hdH, hrH⟩ := Tryd.undH
  obtain ⟨Pd, hPd⟩ : ∃ Pd : ByteArray, ⟨(padL z).toArray⟩ = Pd := ⟨_, rfl⟩
  have hPs : Pd.size ≤ 1048576 := by
    rw [← hPd]
    show (padL z).toArray.size ≤ 1048576
    have : padN z < 64 := by unfold padN; exact Nat.mod_lt _ (by omega)
    simp [padL, padH, bes]
    omega
  rw [hPd]
  obtain ⟨u, hu⟩ : ∃ u, s ++ Pd = u := ⟨_, rfl⟩
  have hul : u.size ≤ 1000000000 := by rw [← hu, ByteArray.size_append]; omega
  rw [hu]
  obtain ⟨q, hq⟩ : ∃ q, stN r u (u.size / 64) = q := ⟨_, rfl⟩
  obtain ⟨lf, hlf⟩ : ∃ lf, left u (u.size / 64) = lf := ⟨_, rfl⟩
  have hbk : ∀ w0 : World, ArrU w0 0 keys → 0 < w0.heap.size → Calls Tryd.prog 87 #[aggU r.list, .string u] w0 fun e w' => e = .returned (.tuple #[aggU q.list, .string lf]) ∧ Below w0.heap.size w0 w' := fun w0 h1 h2 => by
    have := blocks_any r u w0 hul h1 h2
    rw [hq, hlf] at this
    exact this
  rw [hq]
  clear hq hlf
  have hsz : s.size + Pd.size ≤ 9223372036854775807 := by omega
  clear hs
  go_enter Tryd.func60, Tryd.ntmps60
  go_wp2_with (first
    | (with_reducible refine wpList_boxV (w := w) (by with_unfolding_all rfl) 77 (.tmp 0) (by with_unfolding_all rfl) (hvs (some ⟨g, 0, none⟩) 8 c s (z : Int)) (by with_unfolding_all rfl) ?_; intro w0 hA0 hB0 hS0)
    | (with_reducible refine wpList_loadV (w := w0) (by with_unfolding_all rfl) 77 (.tmp 1) (by with_unfolding_all rfl) w.heap.size (hvs (some ⟨g, 0, none⟩) 8 c s (z : Int)) (by with_unfolding_all rfl) hA0 Tryd.undH 3 Tryd.sizeH (by with_unfolding_all rfl) ?_)
    | (go_at_call 86; refine (hrt w0 (HI.out.1.below hB0)).mono ?_; rintro e w1 ⟨rfl, hB1⟩))
  obtain ⟨b1, hb1⟩ : ∃ b1, w.heap.size = b1 := ⟨_, rfl⟩
  have V1 : RowV w1 b1 (hvs (some ⟨g, 0, none⟩) 8 c s (z : Int)) := by rw [← hb1]; exact hA0.below hB1 (by omega)
  have p1 := V1.cell (k := 1) rfl
  have p2 := V1.cell (k := 2) rfl
  have B01 : Below w.heap.size w w1 := hB0.trans (hB1.mono (by omega))
  have HI1 : Hid (IAt w1 (some ⟨g, 0, none⟩) r.ints) := HI.out.1.below B01
  have HK1 : Hid (ArrU w1 0 keys) := HI.out.2.below B01 h0
  have hl1 : b1 < w1.heap.size := V1.lt (hvs_ne _ _ _ _ _)
  have hk1 : 0 < w1.heap.size := by omega
  have HB : Hid (Below w.heap.size w w1 ∧ w.heap.size + 1 ≤ w1.heap.size) := ⟨B01, by omega⟩
  rw [hb1]
  try simp only [Act.put, List.setIfInBounds_toArray, List.set_cons_zero, List.set_cons_succ]
  clear hA0 hB0 hS0 hB1 B01 HI
  go_cut [3, 4] from 11 to 22 (fun v _ wx => ∃ b : Nat, v = .pointer (some ⟨b, 0, none⟩) ∧ ArrU wx b q.list ∧ Below w1.heap.size w1 wx ∧ w1.heap.size ≤ b)
  case first =>
    refine wp_region_held_drew (S := fun w' => Below w1.heap.size w1 w') (by kernel_rfl) ((Below.refl _ _).drew) (fun S0 => ?_)
    refine wpAnyH_take (i := 0) (oi := ⟨_, _, _, _, _, _⟩) (v := HVal (some ⟨g, 0, none⟩) 8 c s (z : Int)) rfl (by kernel_rfl) (by kernel_rfl) (by kernel_rfl) (fun _ _ _ h => h) (yieldsIf_load_mid (wanted_none rfl) 77 (.tmp 1) rfl b1 0 rfl (hvs (some ⟨g, 0, none⟩) 8 c s (z : Int)) dH (fun w' hw => (V1.below hw hl1).rng) hdH hrH Tryd.sizeH) S0 ?_
    dsimp only
    try simp only [Act.put, List.setIfInBounds_toArray, List.set_cons_zero, List.set_cons_succ]
    refine wpAnyH_take (i := 2) (oi := ⟨_, _, _, _, _, _⟩) (v := .pointer (some ⟨b1, 1, none⟩)) rfl (by kernel_rfl) (by kernel_rfl) (by kernel_rfl) (fun _ _ _ h => h) (Or.inl ⟨wanted_none rfl, fun w' hSw => ?_⟩) S0 ?_
    · go_simp
    try simp only [Act.put, List.setIfInBounds_toArray, List.set_cons_zero, List.set_cons_succ]
    refine wpAnyH_take (i := 3) (oi := ⟨_, _, _, _, _, _⟩) (v := .string s) rfl (by kernel_rfl) (by kernel_rfl) (by kernel_rfl) (fun _ _ _ h => h) (Or.inl ⟨wanted_none rfl, fun w' hSw => ?_⟩) S0 ?_
    · have q := (hSw.cell (p := ⟨b1, 1, none⟩) hl1).trans p1; go_simp
    try simp only [Act.put, List.setIfInBounds_toArray, List.set_cons_zero, List.set_cons_succ]
    refine wpAnyH_take (i := 4) (oi := ⟨_, _, _, _, _, _⟩) (v := .pointer (some ⟨b1, 2, none⟩)) rfl (by kernel_rfl) (by kernel_rfl) (by kernel_rfl) (fun _ _ _ h => h) (Or.inl ⟨wanted_none rfl, fun w' hSw => ?_⟩) S0 ?_
    · go_simp
    try simp only [Act.put, List.setIfInBounds_toArray, List.set_cons_zero, List.set_cons_succ]
    refine wpAnyH_take (i := 5) (oi := ⟨_, _, _, _, _, _⟩) (v := .int .i64 (z : Int)) rfl (by kernel_rfl) (by kernel_rfl) (by kernel_rfl) (fun _ _ _ h => h) (Or.inl ⟨wanted_none rfl, fun w' hSw => ?_⟩) S0 ?_
    · have q := (hSw.cell (p := ⟨b1, 2, none⟩) hl1).trans p2; go_simp
    try simp only [Act.put, List.setIfInBounds_toArray, List.set_cons_zero, List.set_cons_succ]
    generalize w1.drew = W at *
    have SW := S0
    refine wpAnyH_ready (rs := [1, 12]) (by kernel_rfl) (by simp) (AllReadyH.cons (o := ⟨_, _, _, _, _, _⟩) rfl (fun K hK => ?_) (AllReadyH.cons (o := ⟨_, _, _, _, _, _⟩) rfl (fun K hK => ?_) AllReadyH.nil))
    · as_aux_lemma =>
      rewrite [if_pos (wanted_none rfl)]
      go_simp
      refine (wordsOf_any g c r s (z : Int) W (HI1.out.below SW)).mono ?_
      rintro e Wc ⟨rfl, hBWc⟩
      have SWc : Below w1.heap.size w1 Wc := SW.trans (hBWc.mono SW.size)
      go_wp2_with fail
      refine hK.out _ _ SWc (fun _ => ?_)
      clear hK K
      refine wpAnyH_ready (rs := [6, 12]) (by kernel_rfl) (by simp) (AllReadyH.cons (o := ⟨_, _, _, _, _, _⟩) rfl (fun K hK => ?_) (AllReadyH.cons (o := ⟨_, _, _, _, _, _⟩) rfl (fun K hK => ?_) AllReadyH.nil))
      · as_aux_lemma =>
        rewrite [if_pos (wanted_none rfl)]
        go_simp
        refine (pad_any z Wc hz).mono ?_
        rintro e Wcc ⟨rfl, hBWcc⟩
        rw [hPd]
        have SWcc : Below w1.heap.size w1 Wcc := SWc.trans (hBWcc.mono SWc.size)
        go_wp2_with fail
        refine hK.out _ _ SWcc (fun _ => ?_)
        clear hK K
        refine wpAnyH_take (i := 7) (oi := ⟨_, _, _, _, _, _⟩) (v := .string u) rfl (by kernel_rfl) (by kernel_rfl) (by kernel_rfl) (fun _ _ _ h => h) (Or.inl ⟨wanted_none rfl, fun w' hSw => ?_⟩) SWcc ?_
        · go_simp
        try simp only [Act.put, List.setIfInBounds_toArray, List.set_cons_zero, List.set_cons_succ]
        refine wpAnyH_ready (rs := [8, 12]) (by kernel_rfl) (by simp) (AllReadyH.cons (o := ⟨_, _, _, _, _, _⟩) rfl (fun K hK => ?_) (AllReadyH.cons (o := ⟨_, _, _, _, _, _⟩) rfl (fun K hK => ?_) AllReadyH.nil))
        · as_aux_lemma =>
          rewrite [if_pos (wanted_none rfl)]
          go_simp
          refine (hbk Wcc (HK1.out.below SWcc hk1) (Nat.lt_of_lt_of_le hk1 SWcc.size)).mono ?_
          rintro e Wccc ⟨rfl, hBWccc⟩
          have SWccc : Below w1.heap.size w1 Wccc := SWcc.trans (hBWccc.mono SWcc.size)
          go_wp2_with fail
          refine hK.out _ _ SWccc (fun _ => ?_)
          clear hK K
          refine wpAnyH_take (i := 9) (oi := ⟨_, _, _, _, _, _⟩) (v := .tuple #[aggU q.list, .string lf]) rfl (by kernel_rfl) (by kernel_rfl) (by kernel_rfl) (fun _ _ _ h => h) (Or.inl ⟨wanted_none rfl, fun w' hSw => ?_⟩) SWccc ?_
          · go_simp
          try simp only [Act.put, List.setIfInBounds_toArray, List.set_cons_zero, List.set_cons_succ]
          refine wpAnyH_take (i := 10) (oi := ⟨_, _, _, _, _, _⟩) (v := aggU q.list) rfl (by kernel_rfl) (by kernel_rfl) (by kernel_rfl) (fun _ _ _ h => h) (Or.inl ⟨wanted_none rfl, fun w' hSw => ?_⟩) SWccc ?_
          · go_simp
          try simp only [Act.put, List.setIfInBounds_toArray, List.set_cons_zero, List.set_cons_succ]
          refine wpAnyH_take (i := 11) (oi := ⟨_, _, _, _, _, _⟩) (v := .string lf) rfl (by kernel_rfl) (by kernel_rfl) (by kernel_rfl) (fun _ _ _ h => h) (Or.inl ⟨wanted_none rfl, fun w' hSw => ?_⟩) SWccc ?_
          · go_simp
          try simp only [Act.put, List.setIfInBounds_toArray, List.set_cons_zero, List.set_cons_succ]
          refine wpAnyH_ready (rs := [12]) (by kernel_rfl) (by simp) (AllReadyH.cons (o := ⟨_, _, _, _, _, _⟩) rfl (fun K hK => ?_) AllReadyH.nil)
          rewrite [if_pos (wanted_none rfl)]
          with_reducible refine wp_allocU 128 (by with_unfolding_all rfl) 8 Tryd.infoA8 ?_
          intro Wccca AWccca hBWccca hZWccca
          have SWccca : Below w1.heap.size w1 Wccca := SWccc.trans (hBWccca.mono SWccc.size)
          obtain ⟨b, hb⟩ : ∃ b, Wccc.heap.size = b := ⟨_, rfl⟩
          have hb1 : w1.heap.size ≤ b := by rw [← hb]; exact SWccc.size
          rw [hb] at AWccca ⊢
          simp only [Act.put, List.setIfInBounds_toArray, List.set_cons_zero, List.set_cons_succ]
          refine hK.out _ _ SWccca (fun _ => ?_)
          clear hK K
          refine wpAnyH_ready (rs := [13]) (by kernel_rfl) (by simp) (AllReadyH.cons (o := ⟨_, _, _, _, _, _⟩) rfl (fun K hK => ?_) AllReadyH.nil)
          rewrite [if_pos (wanted_none rfl)]
          with_reducible refine wp_store_mid 128 (.tmp 3) (.tmp 21) (by with_unfolding_all rfl) b 0 (us q.list).toArray (by with_unfolding_all rfl) (by with_unfolding_all rfl) (by with_unfolding_all exact AWccca.ths) (by with_unfolding_all exact Tryd.sizeA8) (us_one _) ?_
          have F9 : ArrU (Wccca.setCells b 0 (us q.list)) b q.list ∧ Below w1.heap.size w1 (Wccca.setCells b 0 (us q.list)) := ⟨AWccca.put rfl, SWccca.trans (Lib.below_setCells_w hb1 _ _ _)⟩
          dsimp only
          generalize Wccca.setCells b 0 (us q.list) = w9 at *
          refine hK.out _ _ F9.2 (fun _ => ?_)
          clear hK K
          refine wpAnyH_ready (rs := [14]) (by kernel_rfl) (by simp) (AllReadyH.cons (o := ⟨_, _, _, _, _, _⟩) rfl (fun K hK => ?_) AllReadyH.nil)
          rewrite [if_pos (wanted_none rfl)]
          go_simp
          refine hK.out _ _ F9.2 (fun _ => ?_)
          clear hK K
          refine wpAnyH_done (by kernel_rfl) ?_ _
          go_wp2_with fail
          go_meet
          exact ⟨b, rfl, F9.1, F9.2, hb1⟩
        · as_aux_lemma =>
          rewrite [if_pos (wanted_none rfl)]
          with_reducible refine wp_allocU 128 (by with_unfolding_all rfl) 8 Tryd.infoA8 ?_
          intro Wcca AWcca hBWcca hZWcca
          have SWcca : Below w1.heap.size w1 Wcca := SWcc.trans (hBWcca.mono SWcc.size)
          obtain ⟨b, hb⟩ : ∃ b, Wcc.heap.size = b := ⟨_, rfl⟩
          have hb1 : w1.heap.size ≤ b := by rw [← hb]; exact SWcc.size
          rw [hb] at AWcca ⊢
          simp only [Act.put, List.setIfInBounds_toArray, List.set_cons_zero, List.set_cons_succ]
          refine hK.out _ _ SWcca (fun _ => ?_)
          clear hK K
          refine wpAnyH_ready (rs := [8]) (by kernel_rfl) (by simp) (AllReadyH.cons (o := ⟨_, _, _, _, _, _⟩) rfl (fun K hK => ?_) AllReadyH.nil)
          rewrite [if_pos (wanted_none rfl)]
          go_simp
          refine (hbk Wcca (HK1.out.below SWcca hk1) (Nat.lt_of_lt_of_le hk1 SWcca.size)).mono ?_
          rintro e Wccac ⟨rfl, hBWccac⟩
          have SWccac : Below w1.heap.size w1 Wccac := SWcca.trans (hBWccac.mono SWcca.size)
          have AWccac := AWcca.below hBWccac (AWcca.lt (by decide))
          go_wp2_with fail
          refine hK.out _ _ SWccac (fun _ => ?_)
          clear hK K
          refine wpAnyH_take (i := 9) (oi := ⟨_, _, _, _, _, _⟩) (v := .tuple #[aggU q.list, .string lf]) rfl (by kernel_rfl) (by kernel_rfl) (by kernel_rfl) (fun _ _ _ h => h) (Or.inl ⟨wanted_none rfl, fun w' hSw => ?_⟩) SWccac ?_
          · go_simp
          try simp only [Act.put, List.setIfInBounds_toArray, List.set_cons_zero, List.set_cons_succ]
          refine wpAnyH_take (i := 10) (oi := ⟨_, _, _, _, _, _⟩) (v := aggU q.list) rfl (by kernel_rfl) (by kernel_rfl) (by kernel_rfl) (fun _ _ _ h => h) (Or.inl ⟨wanted_none rfl, fun w' hSw => ?_⟩) SWccac ?_
          · go_simp
          try simp only [Act.put, List.setIfInBounds_toArray, List.set_cons_zero, List.set_cons_succ]
          refine wpAnyH_take (i := 11) (oi := ⟨_, _, _, _, _, _⟩) (v := .string lf) rfl (by kernel_rfl) (by kernel_rfl) (by kernel_rfl) (fun _ _ _ h => h) (Or.inl ⟨wanted_none rfl, fun w' hSw => ?_⟩) SWccac ?_
          · go_simp
          try simp only [Act.put, List.setIfInBounds_toArray, List.set_cons_zero, List.set_cons_succ]
          refine wpAnyH_ready (rs := [13]) (by kernel_rfl) (by simp) (AllReadyH.cons (o := ⟨_, _, _, _, _, _⟩) rfl (fun K hK => ?_) AllReadyH.nil)
          rewrite [if_pos (wanted_none rfl)]
          with_reducible refine wp_store_mid 128 (.tmp 3) (.tmp 21) (by with_unfolding_all rfl) b 0 (us q.list).toArray (by with_unfolding_all rfl) (by with_unfolding_all rfl) (by with_unfolding_all exact AWccac.ths) (by with_unfolding_all exact Tryd.sizeA8) (us_one _) ?_
          have F9 : ArrU (Wccac.setCells b 0 (us q.list)) b q.list ∧ Below w1.heap.size w1 (Wccac.setCells b 0 (us q.list)) := ⟨AWccac.put rfl, SWccac.trans (Lib.below_setCells_w hb1 _ _ _)⟩
          dsimp only
          generalize Wccac.setCells b 0 (us q.list) = w9 at *
          refine hK.out _ _ F9.2 (fun _ => ?_)
          clear hK K
          refine wpAnyH_ready (rs := [14]) (by kernel_rfl) (by simp) (AllReadyH.cons (o := ⟨_, _, _, _, _, _⟩) rfl (fun K hK => ?_) AllReadyH.nil)
          rewrite [if_pos (wanted_none rfl)]
          go_simp
          refine hK.out _ _ F9.2 (fun _ => ?_)
          clear hK K
          refine wpAnyH_done (by kernel_rfl) ?_ _
          go_wp2_with fail
          go_meet
          exact ⟨b, rfl, F9.1, F9.2, hb1⟩
      · as_aux_lemma =>
        rewrite [if_pos (wanted_none rfl)]
        with_reducible refine wp_allocU 128 (by with_unfolding_all rfl) 8 Tryd.infoA8 ?_
        intro Wca AWca hBWca hZWca
        have SWca : Below w1.heap.size w1 Wca := SWc.trans (hBWca.mono SWc.size)
        obtain ⟨b, hb⟩ : ∃ b, Wc.heap.size = b := ⟨_, rfl⟩
        have hb1 : w1.heap.size ≤ b := by rw [← hb]; exact SWc.size
        rw [hb] at AWca ⊢
        simp only [Act.put, List.setIfInBounds_toArray, List.set_cons_zero, List.set_cons_succ]
        refine hK.out _ _ SWca (fun _ => ?_)
        clear hK K
        refine wpAnyH_ready (rs := [6]) (by kernel_rfl) (by simp) (AllReadyH.cons (o := ⟨_, _, _, _, _, _⟩) rfl (fun K hK => ?_) AllReadyH.nil)
        rewrite [if_pos (wanted_none rfl)]
        go_simp
        refine (pad_any z Wca hz).mono ?_
        rintro e Wcac ⟨rfl, hBWcac⟩
        rw [hPd]
        have SWcac : Below w1.heap.size w1 Wcac := SWca.trans (hBWcac.mono SWca.size)
        have AWcac := AWca.below hBWcac (AWca.lt (by decide))
        go_wp2_with fail
        refine hK.out _ _ SWcac (fun _ => ?_)
        clear hK K
        refine wpAnyH_take (i := 7) (oi := ⟨_, _, _, _, _, _⟩) (v := .string u) rfl (by kernel_rfl) (by kernel_rfl) (by kernel_rfl) (fun _ _ _ h => h) (Or.inl ⟨wanted_none rfl, fun w' hSw => ?_⟩) SWcac ?_
        · go_simp
        try simp only [Act.put, List.setIfInBounds_toArray, List.set_cons_zero, List.set_cons_succ]
        refine wpAnyH_ready (rs := [8]) (by kernel_rfl) (by simp) (AllReadyH.cons (o := ⟨_, _, _, _, _, _⟩) rfl (fun K hK => ?_) AllReadyH.nil)
        rewrite [if_pos (wanted_none rfl)]
        go_simp
        refine (hbk Wcac (HK1.out.below SWcac hk1) (Nat.lt_of_lt_of_le hk1 SWcac.size)).mono ?_
        rintro e Wcacc ⟨rfl, hBWcacc⟩
        have SWcacc : Below w1.heap.size w1 Wcacc := SWcac.trans (hBWcacc.mono SWcac.size)
        have AWcacc := AWcac.below hBWcacc (AWcac.lt (by decide))
        go_wp2_with fail
        refine hK.out _ _ SWcacc (fun _ => ?_)
        clear hK K
        refine wpAnyH_take (i := 9) (oi := ⟨_, _, _, _, _, _⟩) (v := .tuple #[aggU q.list, .string lf]) rfl (by kernel_rfl) (by kernel_rfl) (by kernel_rfl) (fun _ _ _ h => h) (Or.inl ⟨wanted_none rfl, fun w' hSw => ?_⟩) SWcacc ?_
        · go_simp
        try simp only [Act.put, List.setIfInBounds_toArray, List.set_cons_zero, List.set_cons_succ]
        refine wpAnyH_take (i := 10) (oi := ⟨_, _, _, _, _, _⟩) (v := aggU q.list) rfl (by kernel_rfl) (by kernel_rfl) (by kernel_rfl) (fun _ _ _ h => h) (Or.inl ⟨wanted_none rfl, fun w' hSw => ?_⟩) SWcacc ?_
        · go_simp
        try simp only [Act.put, List.setIfInBounds_toArray, List.set_cons_zero, List.set_cons_succ]
        refine wpAnyH_take (i := 11) (oi := ⟨_, _, _, _, _, _⟩) (v := .string lf) rfl (by kernel_rfl) (by kernel_rfl) (by kernel_rfl) (fun _ _ _ h => h) (Or.inl ⟨wanted_none rfl, fun w' hSw => ?_⟩) SWcacc ?_
        · go_simp
        try simp only [Act.put, List.setIfInBounds_toArray, List.set_cons_zero, List.set_cons_succ]
        refine wpAnyH_ready (rs := [13]) (by kernel_rfl) (by simp) (AllReadyH.cons (o := ⟨_, _, _, _, _, _⟩) rfl (fun K hK => ?_) AllReadyH.nil)
        rewrite [if_pos (wanted_none rfl)]
        with_reducible refine wp_store_mid 128 (.tmp 3) (.tmp 21) (by with_unfolding_all rfl) b 0 (us q.list).toArray (by with_unfolding_all rfl) (by with_unfolding_all rfl) (by with_unfolding_all exact AWcacc.ths) (by with_unfolding_all exact Tryd.sizeA8) (us_one _) ?_
        have F9 : ArrU (Wcacc.setCells b 0 (us q.list)) b q.list ∧ Below w1.heap.size w1 (Wcacc.setCells b 0 (us q.list)) := ⟨AWcacc.put rfl, SWcacc.trans (Lib.below_setCells_w hb1 _ _ _)⟩
        dsimp only
        generalize Wcacc.setCells b 0 (us q.list) = w9 at *
        refine hK.out _ _ F9.2 (fun _ => ?_)
        clear hK K
        refine wpAnyH_ready (rs := [14]) (by kernel_rfl) (by simp) (AllReadyH.cons (o := ⟨_, _, _, _, _, _⟩) rfl (fun K hK => ?_) AllReadyH.nil)
        rewrite [if_pos (wanted_none rfl)]
        go_simp
        refine hK.out _ _ F9.2 (fun _ => ?_)
        clear hK K
        refine wpAnyH_done (by kernel_rfl) ?_ _
        go_wp2_with fail
        go_meet
        exact ⟨b, rfl, F9.1, F9.2, hb1⟩
    · as_aux_lemma =>
      rewrite [if_pos (wanted_none rfl)]
      with_reducible refine wp_allocU 128 (by with_unfolding_all rfl) 8 Tryd.infoA8 ?_
      intro Wa AWa hBWa hZWa
      have SWa : Below w1.heap.size w1 Wa := SW.trans (hBWa.mono SW.size)
      obtain ⟨b, hb⟩ : ∃ b, W.heap.size = b := ⟨_, rfl⟩
      have hb1 : w1.heap.size ≤ b := by rw [← hb]; exact SW.size
      rw [hb] at AWa ⊢
      simp only [Act.put, List.setIfInBounds_toArray, List.set_cons_zero, List.set_cons_succ]
      refine hK.out _ _ SWa (fun _ => ?_)
      clear hK K
      refine wpAnyH_ready (rs := [1]) (by kernel_rfl) (by simp) (AllReadyH.cons (o := ⟨_, _, _, _, _, _⟩) rfl (fun K hK => ?_) AllReadyH.nil)
      rewrite [if_pos (wanted_none rfl)]
      go_simp
      refine (wordsOf_any g c r s (z : Int) Wa (HI1.out.below SWa)).mono ?_
      rintro e Wac ⟨rfl, hBWac⟩
      have SWac : Below w1.heap.size w1 Wac := SWa.trans (hBWac.mono SWa.size)
      have AWac := AWa.below hBWac (AWa.lt (by decide))
      go_wp2_with fail
      refine hK.out _ _ SWac (fun _ => ?_)
      clear hK K
      refine wpAnyH_ready (rs := [6]) (by kernel_rfl) (by simp) (AllReadyH.cons (o := ⟨_, _, _, _, _, _⟩) rfl (fun K hK => ?_) AllReadyH.nil)
      rewrite [if_pos (wanted_none rfl)]
      go_simp
      refine (pad_any z Wac hz).mono ?_
      rintro e Wacc ⟨rfl, hBWacc⟩
      rw [hPd]
      have SWacc : Below w1.heap.size w1 Wacc := SWac.trans (hBWacc.mono SWac.size)
      have AWacc := AWac.below hBWacc (AWac.lt (by decide))
      go_wp2_with fail
      refine hK.out _ _ SWacc (fun _ => ?_)
      clear hK K
      refine wpAnyH_take (i := 7) (oi := ⟨_, _, _, _, _, _⟩) (v := .string u) rfl (by kernel_rfl) (by kernel_rfl) (by kernel_rfl) (fun _ _ _ h => h) (Or.inl ⟨wanted_none rfl, fun w' hSw => ?_⟩) SWacc ?_
      · go_simp
      try simp only [Act.put, List.setIfInBounds_toArray, List.set_cons_zero, List.set_cons_succ]
      refine wpAnyH_ready (rs := [8]) (by kernel_rfl) (by simp) (AllReadyH.cons (o := ⟨_, _, _, _, _, _⟩) rfl (fun K hK => ?_) AllReadyH.nil)
      rewrite [if_pos (wanted_none rfl)]
      go_simp
      refine (hbk Wacc (HK1.out.below SWacc hk1) (Nat.lt_of_lt_of_le hk1 SWacc.size)).mono ?_
      rintro e Waccc ⟨rfl, hBWaccc⟩
      have SWaccc : Below w1.heap.size w1 Waccc := SWacc.trans (hBWaccc.mono SWacc.size)
      have AWaccc := AWacc.below hBWaccc (AWacc.lt (by decide))
      go_wp2_with fail
      refine hK.out _ _ SWaccc (fun _ => ?_)
      clear hK K
      refine wpAnyH_take (i := 9) (oi := ⟨_, _, _, _, _, _⟩) (v := .tuple #[aggU q.list, .string lf]) rfl (by kernel_rfl) (by kernel_rfl) (by kernel_rfl) (fun _ _ _ h => h) (Or.inl ⟨wanted_none rfl, fun w' hSw => ?_⟩) SWaccc ?_
      · go_simp
      try simp only [Act.put, List.setIfInBounds_toArray, List.set_cons_zero, List.set_cons_succ]
      refine wpAnyH_take (i := 10) (oi := ⟨_, _, _, _, _, _⟩) (v := aggU q.list) rfl (by kernel_rfl) (by kernel_rfl) (by kernel_rfl) (fun _ _ _ h => h) (Or.inl ⟨wanted_none rfl, fun w' hSw => ?_⟩) SWaccc ?_
      · go_simp
      try simp only [Act.put, List.setIfInBounds_toArray, List.set_cons_zero, List.set_cons_succ]
      refine wpAnyH_take (i := 11) (oi := ⟨_, _, _, _, _, _⟩) (v := .string lf) rfl (by kernel_rfl) (by kernel_rfl) (by kernel_rfl) (fun _ _ _ h => h) (Or.inl ⟨wanted_none rfl, fun w' hSw => ?_⟩) SWaccc ?_
      · go_simp
      try simp only [Act.put, List.setIfInBounds_toArray, List.set_cons_zero, List.set_cons_succ]
      refine wpAnyH_ready (rs := [13]) (by kernel_rfl) (by simp) (AllReadyH.cons (o := ⟨_, _, _, _, _, _⟩) rfl (fun K hK => ?_) AllReadyH.nil)
      rewrite [if_pos (wanted_none rfl)]
      with_reducible refine wp_store_mid 128 (.tmp 3) (.tmp 21) (by with_unfolding_all rfl) b 0 (us q.list).toArray (by with_unfolding_all rfl) (by with_unfolding_all rfl) (by with_unfolding_all exact AWaccc.ths) (by with_unfolding_all exact Tryd.sizeA8) (us_one _) ?_
      have F9 : ArrU (Waccc.setCells b 0 (us q.list)) b q.list ∧ Below w1.heap.size w1 (Waccc.setCells b 0 (us q.list)) := ⟨AWaccc.put rfl, SWaccc.trans (Lib.below_setCells_w hb1 _ _ _)⟩
      dsimp only
      generalize Waccc.setCells b 0 (us q.list) = w9 at *
      refine hK.out _ _ F9.2 (fun _ => ?_)
      clear hK K
      refine wpAnyH_ready (rs := [14]) (by kernel_rfl) (by simp) (AllReadyH.cons (o := ⟨_, _, _, _, _, _⟩) rfl (fun K hK => ?_) AllReadyH.nil)
      rewrite [if_pos (wanted_none rfl)]
      go_simp
      refine hK.out _ _ F9.2 (fun _ => ?_)
      clear hK K
      refine wpAnyH_done (by kernel_rfl) ?_ _
      go_wp2_with fail
      go_meet
      exact ⟨b, rfl, F9.1, F9.2, hb1⟩
  case rest =>
    obtain ⟨b, rfl, hA, hB, hbl⟩ := hcut
    clear V1 p1 p2 HI1 HK1 hrt hbk hu
    have hz1 := hB.size
    go_wp2_with (first
      | (at_make; refine wpList_make_cap wc rfl _ _ 80 rfl 5 Tryd.underlying80 Tryd.infoU8 _ _ 0 32 rfl rfl (by omega) (by omega) ?_; intro w2 hO2 hB2; have hA2 := hA.below hB2 (hA.lt (by show 0 < 8; omega)))
      | (with_reducible refine wpList_loadU (w := w2) (by with_unfolding_all rfl) 128 (.tmp 3) (by with_unfolding_all rfl) b q.list (by with_unfolding_all rfl) hA2 8 127 Tryd.undA8 Tryd.sizeA8 (by with_unfolding_all rfl) ?_))
    obtain ⟨b7, hb7⟩ : ∃ b7, wc.heap.size = b7 := ⟨_, rfl⟩
    have HO : Hid (w2.ownsRow b7 5 1 (.slice (some ⟨b7, 0, none⟩) 0 32) (4 * 0) (bvs (digs8 q 0))) := by rw [← hb7]; exact hO2
    have HBw : Hid (Below w.heap.size w w2 ∧ b7 ≤ w2.heap.size ∧ w.heap.size ≤ b7) := ⟨(HB.out.1.trans (hB.mono (by have := HB.out.2; omega))).trans (hB2.mono (by have := HB.out.2; omega)), by rw [← hb7]; exact hB2.size, by have := HB.out.2; omega⟩
    rw [hb7]
    clear hO2 hB2 hA2 hA hB HB hbl
    go_loopw [5, 25] (fun v i wr => ∃ k : Nat, i = .int .i64 (k : Int) ∧ k ≤ 8 ∧ wr.ownsRow b7 5 1 v (4 * k) (bvs (digs8 q k)) ∧ Below b7 w2 wr) (fun _ i _ => 8 - (intOf i).toNat)
    case atStart => exact ⟨0, rfl, Nat.zero_le _, HO.out, Below.refl _ _⟩
    case round =>
      clear HO
      obtain ⟨k, rfl, hk, hO, hB⟩ := hrel
      have hzr := hB.size
      have hbz := HBw.out.2.1
      by_cases hlt : k < 8
      · as_aux_lemma =>
        have hix := idx8 q hlt
        have HDS : Hid (True → digs8 q (k + 1) = digs8 q k ++ dig4 (q.at k)) := fun _ => digs8_succ q hlt
        obtain ⟨x, hx⟩ : ∃ x, q.at k = x := ⟨_, rfl⟩
        rw [hx] at hix HDS
        have HCS : Hid ((bvs (dig4 x)).toArray = #[.int .u8 (((sr x 24).toNat % 256 : Nat) : Int), .int .u8 (((sr x 16).toNat % 256 : Nat) : Int), .int .u8 (((sr x 8).toNat % 256 : Nat) : Int), .int .u8 ((x.toNat % 256 : Nat) : Int)]) := dig4_sr x
        have c3 := fun (w0 : World) => U_to_u8 (P := Tryd.prog) w0 127 5 (sr x 24) Tryd.underlying127 Tryd.underlying5
        have c2 := fun (w0 : World) => U_to_u8 (P := Tryd.prog) w0 127 5 (sr x 16) Tryd.underlying127 Tryd.underlying5
        have c1 := fun (w0 : World) => U_to_u8 (P := Tryd.prog) w0 127 5 (sr x 8) Tryd.underlying127 Tryd.underlying5
        have c0 := fun (w0 : World) => U_to_u8 (P := Tryd.prog) w0 127 5 x Tryd.underlying127 Tryd.underlying5
        obtain ⟨y3, g3⟩ : ∃ y, (sr x 24).toNat % 256 = y := ⟨_, rfl⟩
        obtain ⟨y2, g2⟩ : ∃ y, (sr x 16).toNat % 256 = y := ⟨_, rfl⟩
        obtain ⟨y1, g1⟩ : ∃ y, (sr x 8).toNat % 256 = y := ⟨_, rfl⟩
        obtain ⟨y0, g0⟩ : ∃ y, x.toNat % 256 = y := ⟨_, rfl⟩
        rw [g3, g2, g1, g0] at HCS
        rw [g3] at c3
        rw [g2] at c2
        rw [g1] at c1
        rw [g0] at c0
        have HLn : Hid ((dig4 x).length = 4) := rfl
        have lk : (k : Int) < 8 := by omega
        have l0 : (0 : Int) ≤ k := by omega
        clear hx g3 g2 g1 g0
        obtain ⟨D, hD⟩ : ∃ D, digs8 q k = D := ⟨_, rfl⟩
        rw [hD] at hO HDS
        generalize aggU q.list = ag at *
        go_wp2_with (first
          | (at_builtin; refine wpList_append_bytes rfl _ _ 80 rfl b7 5 Tryd.underlying80 Tryd.infoU8 u5 D (4 * k) rfl hO (dig4 x) _ HCS.out 4 4 HLn.out (by omega) rfl (by omega) (by omega) ?_; intro g9 c9 w9 hO9 hB9))
        go_roundw
        case rel => exact ⟨k + 1, by go_num, hlt, by rw [HDS.out trivial]; exact hO9, hB.trans hB9⟩
        case measure => simp [intOf]; omega
      · as_aux_lemma =>
        obtain rfl : k = 8 := by omega
        have hconv := run_conv_own 80 Tryd.underlying80 Tryd.underlying5 hO 9 Tryd.underlying9
        clear hO
        go_wp2
        go_ret
        exact ⟨rfl, HBw.out.1.trans (hB.mono HBw.out.2.2)⟩
end Go.Proofs.YtchfpiadfmnphaaDoor
namespace Go.Proofs.YtchfpiadfmnphaaDoor
open Go.RowKit
set_option linter.unusedVariables false
attribute [local go_sem ↓] Go.wp_at_zero Go.wp_at_succ

theorem IAt.st {w : World} {g : Nat} {r : R8} (h : IAt w (some ⟨g, 0, none⟩) r.ints) : StAt w g r := by
  obtain ⟨g', hg', hc⟩ := h (by intro e; have := congrArg List.length e; rw [ints_length] at this; simp at this)
  injection hg' with hg'
  injection hg' with hg'
  subst hg'
  have hl := ints_length r
  exact ⟨(hc 0 (by omega)).1, (hc 1 (by omega)).1, (hc 2 (by omega)).1, (hc 3 (by omega)).1, (hc 4 (by omega)).1, (hc 5 (by omega)).1, (hc 6 (by omega)).1, (hc 7 (by omega)).1, fun k hk => (hc k (by omega)).2⟩

theorem StAt.iat {w : World} {g : Nat} {r : R8} (h : StAt w g r) : IAt w (some ⟨g, 0, none⟩) r.ints := fun _ =>
  ⟨g, rfl, fun k hk => ⟨by rw [ints_get]; exact h.at hk, h.fz k hk⟩⟩
theorem StAt.same {w w' : World} {g : Nat} {r : R8} (h : StAt w g r) (hs : ∀ k, w'.cell? ⟨g, k, none⟩ = w.cell? ⟨g, k, none⟩ ∧ w'.frozen? ⟨g, k, none⟩ = w.frozen? ⟨g, k, none⟩) : StAt w' g r :=
  ⟨(hs 0).1.trans h.c0, (hs 1).1.trans h.c1, (hs 2).1.trans h.c2, (hs 3).1.trans h.c3, (hs 4).1.trans h.c4, (hs 5).1.trans h.c5, (hs 6).1.trans h.c6, (hs 7).1.trans h.c7, fun k hk => (hs k).2.trans (h.fz k hk)⟩
theorem IAt.setsFar {w : World} {g b : Nat} {l : List Int} (h : IAt w (some ⟨g, 0, none⟩) l) (hne : g ≠ b) (vs : List Value) : IAt (w.setCells b 0 vs) (some ⟨g, 0, none⟩) l := fun hl => by
  obtain ⟨g', hg', hc⟩ := h hl
  injection hg' with hg'
  injection hg' with hg'
  subst hg'
  exact ⟨g, rfl, fun j hj => ⟨(World.cell?_setCells_out b vs 0 w _ (fun e => absurd e hne)).trans (hc j hj).1, by rw [World.frozen?_setCells]; exact (hc j hj).2⟩⟩
set_option maxRecDepth 100000 in
theorem wp_append8 {W : World} {o : Oper} {a : Act} {K : Act → World → Prop} {Q : Exit → Act → World → Prop} (s x : Operand) (ho : o.op = .call { callee := .builtin .append, args := #[s, x], argTypes := #[75, 75] })
    (base B g c : Nat) (r : R8) (hs : a.eval s = .slice (some ⟨B, 0, none⟩) 0 0) (hx : a.eval x = .slice (some ⟨g, 0, none⟩) 8 c) (hown : W.ownsRow base 2 1 (.slice (some ⟨B, 0, none⟩) 0 0) 0 (is [])) (hI : IAt W (some ⟨g, 0, none⟩) r.ints) (hbase : base ≤ W.heap.size)
    (h : ∀ g1 cap w', IAt w' (some ⟨g1, 0, none⟩) r.ints → W.grownBy w' (some B) → base ≤ g1 → (g1 = B ∨ g1 = W.heap.size) → g1 < w'.heap.size → K (a.put o.dst (.slice (some ⟨g1, 0, none⟩) 8 cap)) w') : Oper.wp Tryd.prog o a W K Q := by
  obtain ⟨i0, hi, hz0, hz1, hz2⟩ := info_parts Tryd.infoI64
  obtain ⟨g', hg', hc⟩ := hI (by intro e; have := congrArg List.length e; rw [ints_length] at this; simp at this)
  injection hg' with hg'
  injection hg' with hg'
  subst hg'
  refine wp_append_lies W s x 75 ho base 2 i0 (.int .i64 0) 1 8 Tryd.underlying75 hi hz0 hz1 hz2 rfl (by decide) _ 0 (is []) hs hown ⟨g, 0, none⟩ 8 c (is r.list) hx rfl
    (fun j u hj => ?_) (by intro u hu; unfold is at hu; obtain ⟨b, _, rfl⟩ := List.mem_map.1 hu; rfl) (by omega) (by unfold maxLen; omega) (by omega) hbase _ rfl ?_
  · have hj8 : j < 8 := by have := (List.getElem?_eq_some_iff.1 hj).1; simpa [is, R8.list] using this
    have he : (⟨g, 0, none⟩ : Addr).add j = ⟨g, j, none⟩ := by unfold Addr.add; split <;> simp_all
    have hj' : j < r.ints.length := hj8
    rw [he, (hc j hj').1, ← hj, ints_get r hj', is, List.getElem?_map, list_get r hj8]
    rfl
  · intro g1 cap w' h1 h2 h3 h4
    refine h g1 cap w' (ints_of (base := base) (e := 2) (by simpa [is] using h1)) h2 (h1.lt g1 rfl).1 ?_ h4
    rcases h3 with h3 | h3
    · left
      exact (Option.some.inj (show (some B : Option Nat) = some g1 from h3)).symm
    · exact .inr h3

set_option maxRecDepth 100000 in
set_option maxHeartbeats 1000000 in
theorem moreS_any (g c : Nat) (r : R8) (s t : ByteArray) (z : Nat) (w : World) (h : IAt w (some ⟨g, 0, none⟩) r.ints) (hs : s.size ≤ 64) (ht : t.size ≤ 1048576) (hz : z ≤ 1099511627776) :
    Calls Tryd.prog 48 #[HVal (some ⟨g, 0, none⟩) 8 c s (z : Int), .string t] w fun e w' => ∃ g2 c2, e = .returned (HVal (some ⟨g2, 0, none⟩) 8 c2 (left (s ++ t) ((s ++ t).size / 64)) ((z + t.size : Nat) : Int)) ∧ w.heap.size ≤ g2 ∧ g2 < w'.heap.size ∧ StAt w' g2 (stN r (s ++ t) ((s ++ t).size / 64)) ∧ Below w.heap.size w w' := by
  have HI : Hid (IAt w (some ⟨g, 0, none⟩) r.ints) := h
  clear h
  go_enter Tryd.func48, Tryd.ntmps48
  go_wp2_with (first
    | (with_reducible refine wpList_boxV (w := w) (by with_unfolding_all rfl) 77 (.tmp 0) (by with_unfolding_all rfl) (hvs (some ⟨g, 0, none⟩) 8 c s z) (by with_unfolding_all rfl) ?_; intro w1 hA1 hB1 hS1)
    | (with_reducible refine wpList_allocV (w := w1) (by with_unfolding_all rfl) 77 (by with_unfolding_all rfl) (hvs none 0 0 ⟨#[]⟩ 0) Tryd.infoH ?_; intro w2 hA2 hB2 hS2))
  have V2 := hA1.below hB2 (by omega)
  have p0 := V2.cell (k := 0) rfl
  have p1 := V2.cell (k := 1) rfl
  have p2 := V2.cell (k := 2) rfl
  have hlt : w.heap.size < w2.heap.size := by omega
  obtain ⟨u, hu⟩ : ∃ u, s ++ t = u := ⟨_, rfl⟩
  have hsm : s.size + t.size ≤ 9223372036854775807 := by omega
  obtain ⟨Z, hZ⟩ : ∃ Z : Nat, z + t.size = Z := ⟨_, rfl⟩
  have hZi : (z : Int) + (t.size : Int) = (Z : Int) := by omega
  have hZw : IntKind.i64.wrap (Z : Int) = (Z : Int) := by simp [IntKind.wrap, IntKind.signed, IntKind.bits]; omega
  have HIr : Hid (IAt w2 (some ⟨g, 0, none⟩) r.ints ∧ Below w.heap.size w w2) := ⟨(HI.out.below hB1).below hB2, hB1.trans (hB2.mono (by omega))⟩
  simp only [Act.put, List.setIfInBounds_toArray, List.set_cons_zero, List.set_cons_succ]
  rw [hS1]
  go_cut [5] from 7 to 20 (fun v wx => ∃ b5 g1 c1 : Nat, v = .pointer (some ⟨b5, 0, none⟩) ∧ RowV wx b5 (hvs (some ⟨g1, 0, none⟩) 8 c1 u (Z : Int)) ∧ IAt wx (some ⟨g1, 0, none⟩) r.ints ∧ Below w2.heap.size w2 wx ∧ w2.heap.size ≤ b5 ∧ w2.heap.size ≤ g1 ∧ b5 ≠ g1)
  case rest =>
    obtain ⟨b5, g1, c1, rfl, hV, hI, hB, hb5, hg1, hne⟩ := hcut
    have HA2 : RowV wc (w.heap.size + 1) (hvs none 0 0 ⟨#[]⟩ 0) := by rw [← hS1]; exact hA2.below hB (by omega)
    have HR0 : Hid (RowV wc b5 (hvs (some ⟨g1, 0, none⟩) 8 c1 u (Z : Int)) ∧ StAt wc g1 (stN r u 0) ∧ g1 < wc.heap.size ∧ w2.heap.size ≤ g1 ∧ b5 ≠ g1 ∧ RowV wc (w.heap.size + 1) (hvs none 0 0 ⟨#[]⟩ 0) ∧ Below w2.heap.size w2 wc) := ⟨hV, hI.st, hI.st.lt, hg1, hne, HA2, hB⟩
    have HU : Hid (True → s ++ t = u) := fun _ => hu
    have HZ : Hid (True → z + t.size = Z) := fun _ => hZ
    have hul : u.size ≤ 2000000 := by rw [← hu, ByteArray.size_append]; omega
    clear hV hI hA1 hA2 V2 p0 p1 p2 HI hsm hZi hZw HA2 hu hZ hne hg1
    go_wp2_with fail
    go_loopw [6] (fun i wr => ∃ n g1 c1 : Nat, i = .int .i64 ((64 * n : Nat) : Int) ∧ 64 * n ≤ u.size ∧ RowV wr b5 (hvs (some ⟨g1, 0, none⟩) 8 c1 u (Z : Int)) ∧ StAt wr g1 (stN r u n) ∧ g1 < wr.heap.size ∧ w2.heap.size ≤ g1 ∧ b5 ≠ g1 ∧ RowV wr (w.heap.size + 1) (hvs none 0 0 ⟨#[]⟩ 0) ∧ Below w2.heap.size w2 wr) (fun i _ => u.size - (intOf i).toNat)
    case atStart => exact ⟨0, g1, c1, rfl, by omega, HR0.out⟩
    case round =>
      clear HR0
      obtain ⟨n, g1, c1, rfl, hn, hV, hS, hgl, hgb, hne, hR, hB⟩ := hrel
      have HR1 : Hid (RowV wr b5 (hvs (some ⟨g1, 0, none⟩) 8 c1 u (Z : Int)) ∧ StAt wr g1 (stN r u n) ∧ g1 < wr.heap.size ∧ w2.heap.size ≤ g1 ∧ b5 ≠ g1 ∧ RowV wr (w.heap.size + 1) (hvs none 0 0 ⟨#[]⟩ 0) ∧ Below w2.heap.size w2 wr) := ⟨hV, hS, hgl, hgb, hne, hR, hB⟩
      have p0 := hV.cell (k := 0) rfl
      have p1 := hV.cell (k := 1) rfl
      obtain ⟨m, hm⟩ : ∃ m, 64 * n = m := ⟨_, rfl⟩
      rw [hm] at hn ⊢
      have HMn : Hid (64 * n = m) := hm
      by_cases hlt : m + 64 ≤ u.size
      · as_aux_lemma =>
        have k1 : ¬ ((u.size : Int) - (m : Int) < 64) := by omega
        have k2 : (64 : Int) ≤ (u.size : Int) - (m : Int) := by omega
        have e1 : IntKind.i64.wrap ((u.size : Int) - (m : Int)) = (u.size : Int) - m := by simp [IntKind.wrap, IntKind.signed, IntKind.bits]; omega
        have e2 : IntKind.i64.wrap ((m + 64 : Nat) : Int) = ((m + 64 : Nat) : Int) := by simp [IntKind.wrap, IntKind.signed, IntKind.bits]; omega
        have e2' : (m : Int) + 64 = ((m + 64 : Nat) : Int) := by omega
        obtain ⟨m2, hm2⟩ : ∃ m2, m + 64 = m2 := ⟨_, rfl⟩
        rw [hm2] at e2 e2'
        have HM2 : Hid (m + 64 = m2) := hm2
        have l2 : (m2 : Int) ≤ (u.size : Int) := by omega
        have l1 : (m : Int) ≤ (m2 : Int) := by omega
        have l0 : (0 : Int) ≤ (m : Int) := by omega
        obtain ⟨v, hv⟩ : ∃ v, u.extract m m2 = v := ⟨_, rfl⟩
        have hvs' : v.size = 64 := by rw [← hv, ByteArray.size_extract]; omega
        obtain ⟨q, hq⟩ : ∃ q, stN r u n = q := ⟨_, rfl⟩
        obtain ⟨q2, hq2⟩ : ∃ q2, blk q v = q2 := ⟨_, rfl⟩
        have HQ : Hid (True → stN r u (n + 1) = q2) := fun _ => by rw [stN_succ, hq, HMn.out, hm2, hv, hq2]
        rw [hq] at hS
        have hbk : ∀ w0 : World, StAt w0 g1 q → Calls Tryd.prog 67 #[.slice (some ⟨g1, 0, none⟩) 8 c1, .string v] w0 fun e w' => ∃ g' cap', e = .returned (.slice (some ⟨g', 0, none⟩) 8 cap') ∧ w0.heap.size ≤ g' ∧ StAt w' g' q2 ∧ Below w0.heap.size w0 w' := fun w0 h => by rw [← hq2]; exact block_any g1 c1 q v w0 hvs' h
        have hb5l := hV.lt (hvs_ne _ _ _ _ _)
        have hR' := hR
        clear hq hq2 hm HR1 hm2
        go_wp2_with fail
        refine wp_region_held_drew (S := fun w' => w'.cell? ⟨b5, 1, none⟩ = some (.string u)) (by kernel_rfl) p1 (fun hHeld => ?_)
        refine wpAnyH_take (i := 0) (oi := ⟨_, _, _, _, _, _⟩) (v := .pointer (some ⟨b5, 0, none⟩)) rfl (by kernel_rfl) (by kernel_rfl) (by kernel_rfl) (fun _ _ _ h => h) (Or.inl ⟨wanted_none rfl, fun w' hSw => ?_⟩) hHeld ?_
        · go_simp
        simp only [Act.put, List.setIfInBounds_toArray, List.set_cons_zero, List.set_cons_succ]
        refine wpAnyH_take (i := 2) (oi := ⟨_, _, _, _, _, _⟩) (v := .pointer (some ⟨b5, 1, none⟩)) rfl (by kernel_rfl) (by kernel_rfl) (by kernel_rfl) (fun _ _ _ h => h) (Or.inl ⟨wanted_none rfl, fun w' hSw => ?_⟩) hHeld ?_
        · go_simp
        simp only [Act.put, List.setIfInBounds_toArray, List.set_cons_zero, List.set_cons_succ]
        refine wpAnyH_take (i := 3) (oi := ⟨_, _, _, _, _, _⟩) (v := .string u) rfl (by kernel_rfl) (by kernel_rfl) (by kernel_rfl) (fun _ _ _ h => h) (Or.inl ⟨wanted_none rfl, fun w' hSw => ?_⟩) hHeld ?_
        · go_simp
        simp only [Act.put, List.setIfInBounds_toArray, List.set_cons_zero, List.set_cons_succ]
        refine wpAnyH_take (i := 4) (oi := ⟨_, _, _, _, _, _⟩) (v := .int .i64 (m : Int)) rfl (by kernel_rfl) (by kernel_rfl) (by kernel_rfl) (fun _ _ _ h => h) (Or.inl ⟨wanted_none rfl, fun w' hSw => ?_⟩) hHeld ?_
        · go_simp
        simp only [Act.put, List.setIfInBounds_toArray, List.set_cons_zero, List.set_cons_succ]
        refine wpAnyH_take (i := 5) (oi := ⟨_, _, _, _, _, _⟩) (v := .int .i64 (m : Int)) rfl (by kernel_rfl) (by kernel_rfl) (by kernel_rfl) (fun _ _ _ h => h) (Or.inl ⟨wanted_none rfl, fun w' hSw => ?_⟩) hHeld ?_
        · go_simp
        simp only [Act.put, List.setIfInBounds_toArray, List.set_cons_zero, List.set_cons_succ]
        refine wpAnyH_take (i := 6) (oi := ⟨_, _, _, _, _, _⟩) (v := .int .i64 (m2 : Int)) rfl (by kernel_rfl) (by kernel_rfl) (by kernel_rfl) (fun _ _ _ h => h) (Or.inl ⟨wanted_none rfl, fun w' hSw => ?_⟩) hHeld ?_
        · go_simp
        simp only [Act.put, List.setIfInBounds_toArray, List.set_cons_zero, List.set_cons_succ]
        refine wpAnyH_take (i := 7) (oi := ⟨_, _, _, _, _, _⟩) (v := .string v) rfl (by kernel_rfl) (by kernel_rfl) (by kernel_rfl) (fun _ _ _ h => h) (Or.inl ⟨wanted_none rfl, fun w' hSw => ?_⟩) hHeld ?_
        · go_simp
        simp only [Act.put, List.setIfInBounds_toArray, List.set_cons_zero, List.set_cons_succ]
        refine wpAnyH_ready (rs := [1]) (by kernel_rfl) (by simp) (AllReadyH.cons (o := ⟨_, _, _, _, _, _⟩) rfl (fun K hK => ?_) AllReadyH.nil)
        rewrite [if_pos (wanted_none rfl)]
        have p0d : wr.drew.cell? ⟨b5, 0, none⟩ = some (.slice (some ⟨g1, 0, none⟩) 8 c1) := p0
        go_simp
        refine hK.out _ _ hHeld (fun _ => ?_)
        clear hK K
        refine wpAnyH_ready (rs := [8]) (by kernel_rfl) (by simp) (AllReadyH.cons (o := ⟨_, _, _, _, _, _⟩) rfl (fun K hK => ?_) AllReadyH.nil)
        rewrite [if_pos (wanted_none rfl)]
        go_simp
        refine (hbk wr.drew (hS.same fun _ => ⟨rfl, rfl⟩)).mono ?_
        rintro e w3 ⟨g2, cap2, rfl, hg2, hst2, hB3⟩
        go_wp2_with fail
        have hB3' : Below wr.heap.size wr w3 := ((Below.refl _ _).drew).trans hB3
        have hg2' : wr.heap.size ≤ g2 := hg2
        have s3 := (hB3'.cell (p := ⟨b5, 1, none⟩) hb5l).trans p1
        refine hK.out _ _ s3 (fun _ => ?_)
        clear hK K
        refine wpAnyH_take (i := 9) (oi := ⟨_, _, _, _, _, _⟩) (v := .pointer (some ⟨b5, 0, none⟩)) rfl (by kernel_rfl) (by kernel_rfl) (by kernel_rfl) (fun _ _ _ h => h) (Or.inl ⟨wanted_none rfl, fun w' hSw => ?_⟩) s3 ?_
        · go_simp
        try simp only [Act.put, List.setIfInBounds_toArray, List.set_cons_zero, List.set_cons_succ]
        have V3 := hV.below hB3' hb5l
        have q0 := V3.cell (k := 0) rfl
        have f0 := V3.frozen (k := 0) (by simp [hvs])
        have R3 := hR'.below hB3' (hR'.lt (hvs_ne _ _ _ _ _))
        have hl3 := hst2.lt
        refine wpAnyH_ready (rs := [10]) (by kernel_rfl) (by simp) (AllReadyH.cons (o := ⟨_, _, _, _, _, _⟩) rfl (fun K hK => ?_) AllReadyH.nil)
        rewrite [if_pos (wanted_none rfl)]
        go_simp
        have F9 : RowV (w3.setCell ⟨b5, 0, none⟩ (.slice (some ⟨g2, 0, none⟩) 8 cap2)) b5 (hvs (some ⟨g2, 0, none⟩) 8 cap2 u (Z : Int)) ∧ StAt (w3.setCell ⟨b5, 0, none⟩ (.slice (some ⟨g2, 0, none⟩) 8 cap2)) g2 q2 ∧ g2 < (w3.setCell ⟨b5, 0, none⟩ (.slice (some ⟨g2, 0, none⟩) 8 cap2)).heap.size ∧ w2.heap.size ≤ g2 ∧ b5 ≠ g2 ∧ RowV (w3.setCell ⟨b5, 0, none⟩ (.slice (some ⟨g2, 0, none⟩) 8 cap2)) (w.heap.size + 1) (hvs none 0 0 ⟨#[]⟩ 0) ∧ Below w2.heap.size w2 (w3.setCell ⟨b5, 0, none⟩ (.slice (some ⟨g2, 0, none⟩) 8 cap2)) :=
          ⟨V3.setAt (k := 0) (by simp [hvs]) rfl, hst2.same fun k => ⟨World.cell?_setCell_other w3 _ _ _ (by intro e; injection e with e _ _; omega), World.frozen?_setCell ..⟩, by rw [World.size_setCell]; exact hl3, by have := hB.size; omega, by omega, R3.far (by omega), (hB.trans (hB3'.mono hB.size)).setCell hb5 _⟩
        have s9 : (w3.setCell ⟨b5, 0, none⟩ (.slice (some ⟨g2, 0, none⟩) 8 cap2)).cell? ⟨b5, 1, none⟩ = some (.string u) := F9.1.cell (k := 1) rfl
        generalize (w3.setCell ⟨b5, 0, none⟩ (.slice (some ⟨g2, 0, none⟩) 8 cap2)) = w9 at *
        refine hK.out _ _ s9 (fun _ => ?_)
        clear hK K
        refine wpAnyH_done (by kernel_rfl) ?_ _
        go_wp2
        go_roundw
        case rel => exact ⟨n + 1, g2, cap2, by have := HMn.out; have := HM2.out; go_num, by have := HMn.out; omega, F9.1, by rw [HQ.out trivial]; exact F9.2.1, F9.2.2.1, F9.2.2.2.1, F9.2.2.2.2.1, F9.2.2.2.2.2.1, F9.2.2.2.2.2.2⟩
        case measure => have := HM2.out; simp [intOf]; omega
      · as_aux_lemma =>
        have c1' : (u.size : Int) - (m : Int) < 64 := by omega
        have e1 : IntKind.i64.wrap ((u.size : Int) - (m : Int)) = (u.size : Int) - m := by simp [IntKind.wrap, IntKind.signed, IntKind.bits]; omega
        have l1 : (m : Int) ≤ (u.size : Int) := by omega
        have l0 : (0 : Int) ≤ (m : Int) := by omega
        obtain ⟨lf, hlf⟩ : ∃ lf, u.extract m u.size = lf := ⟨_, rfl⟩
        have hnn : n = u.size / 64 := by have := HMn.out; omega
        have HF : Hid (True → left (s ++ t) ((s ++ t).size / 64) = lf ∧ stN r (s ++ t) ((s ++ t).size / 64) = stN r u n ∧ ((z + t.size : Nat) : Int) = (Z : Int)) := fun _ => by
          rw [HU.out trivial, HZ.out trivial, ← hnn, left, HMn.out]
          exact ⟨hlf, rfl, rfl⟩
        have f1 := hV.frozen (k := 1) (by simp [hvs])
        have V9 : RowV (wr.setCell ⟨b5, 1, none⟩ (.string lf)) b5 (hvs (some ⟨g1, 0, none⟩) 8 c1 lf (Z : Int)) := hV.setAt (k := 1) (by simp [hvs]) rfl
        have R9 : RowV (wr.setCell ⟨b5, 1, none⟩ (.string lf)) (w.heap.size + 1) (hvs none 0 0 ⟨#[]⟩ 0) := hR.far (by omega)
        have S9 : StAt (wr.setCell ⟨b5, 1, none⟩ (.string lf)) g1 (stN r u n) := hS.same fun k => ⟨World.cell?_setCell_other wr _ _ _ (by intro e; injection e with e _ _; exact hne e), World.frozen?_setCell ..⟩
        have B9 : Below w2.heap.size w2 (wr.setCell ⟨b5, 1, none⟩ (.string lf)) := hB.setCell hb5 _
        have G9 : g1 < (wr.setCell ⟨b5, 1, none⟩ (.string lf)).heap.size := by rw [World.size_setCell]; exact hgl
        clear hnn HR1
        go_wp2_with (first
          | (with_reducible refine wpList_loadV (w := wr.setCell ⟨b5, 1, none⟩ (.string lf)) (by with_unfolding_all rfl) 77 (.tmp 5) (by with_unfolding_all rfl) b5 (hvs (some ⟨g1, 0, none⟩) 8 c1 lf (Z : Int)) (by with_unfolding_all rfl) V9 Tryd.undH 3 Tryd.sizeH (by with_unfolding_all rfl) ?_)
          | (with_reducible refine wpList_storeV (w := wr.setCell ⟨b5, 1, none⟩ (.string lf)) (by with_unfolding_all rfl) 77 (.tmp 4) (.tmp 44) (by with_unfolding_all rfl) (w.heap.size + 1) (hvs none 0 0 ⟨#[]⟩ 0) (hvs (some ⟨g1, 0, none⟩) 8 c1 lf (Z : Int)) (by with_unfolding_all rfl) (by with_unfolding_all rfl) R9 3 Tryd.sizeH (by with_unfolding_all rfl) (by with_unfolding_all rfl) (hvs_one _ _ _ _ _) ?_; intro w9 hA9 hB9 hF9 hS9))
        refine bodyPost_ret (results_V (t := 77) rfl _ (w.heap.size + 1) _ rfl hA9 Tryd.undH 3 Tryd.sizeH rfl) rfl ⟨g1, c1, by rw [(HF.out trivial).1, (HF.out trivial).2.2], by omega, by omega, by rw [(HF.out trivial).2.1]; exact S9.same fun k => hF9 ⟨g1, k, none⟩ (by show g1 ≠ w.heap.size + 1; omega), (HIr.out.2.trans (B9.mono (by omega))).trans (hB9 _ (by omega))⟩
  case first =>
    refine wp_region_held_drew (S := fun w' => Below w2.heap.size w2 w') (by kernel_rfl) (Below.refl _ _).drew (fun hHeld => ?_)
    refine wpAnyH_take (i := 1) (oi := ⟨_, _, _, _, _, _⟩) (v := .pointer (some ⟨w.heap.size, 0, none⟩)) rfl (by kernel_rfl) (by kernel_rfl) (by kernel_rfl) (fun _ _ _ h => h) (Or.inl ⟨wanted_none rfl, fun w' hSw => ?_⟩) hHeld ?_
    · go_simp
    simp only [Act.put, List.setIfInBounds_toArray, List.set_cons_zero, List.set_cons_succ]
    refine wpAnyH_take (i := 2) (oi := ⟨_, _, _, _, _, _⟩) (v := .slice (some ⟨g, 0, none⟩) 8 c) rfl (by kernel_rfl) (by kernel_rfl) (by kernel_rfl) (fun _ _ _ h => h) (Or.inl ⟨wanted_none rfl, fun w' hSw => ?_⟩) hHeld ?_
    · have q := (hSw.cell (p := ⟨w.heap.size, 0, none⟩) hlt).trans p0; go_simp
    simp only [Act.put, List.setIfInBounds_toArray, List.set_cons_zero, List.set_cons_succ]
    refine wpAnyH_take (i := 4) (oi := ⟨_, _, _, _, _, _⟩) (v := .pointer (some ⟨w.heap.size, 1, none⟩)) rfl (by kernel_rfl) (by kernel_rfl) (by kernel_rfl) (fun _ _ _ h => h) (Or.inl ⟨wanted_none rfl, fun w' hSw => ?_⟩) hHeld ?_
    · go_simp
    simp only [Act.put, List.setIfInBounds_toArray, List.set_cons_zero, List.set_cons_succ]
    refine wpAnyH_take (i := 5) (oi := ⟨_, _, _, _, _, _⟩) (v := .string s) rfl (by kernel_rfl) (by kernel_rfl) (by kernel_rfl) (fun _ _ _ h => h) (Or.inl ⟨wanted_none rfl, fun w' hSw => ?_⟩) hHeld ?_
    · have q := (hSw.cell (p := ⟨w.heap.size, 1, none⟩) hlt).trans p1; go_simp
    simp only [Act.put, List.setIfInBounds_toArray, List.set_cons_zero, List.set_cons_succ]
    refine wpAnyH_take (i := 6) (oi := ⟨_, _, _, _, _, _⟩) (v := .string t) rfl (by kernel_rfl) (by kernel_rfl) (by kernel_rfl) (fun _ _ _ h => h) (Or.inl ⟨wanted_none rfl, fun w' hSw => ?_⟩) hHeld ?_
    · go_simp
    simp only [Act.put, List.setIfInBounds_toArray, List.set_cons_zero, List.set_cons_succ]
    refine wpAnyH_take (i := 7) (oi := ⟨_, _, _, _, _, _⟩) (v := .string u) rfl (by kernel_rfl) (by kernel_rfl) (by kernel_rfl) (fun _ _ _ h => h) (Or.inl ⟨wanted_none rfl, fun w' hSw => ?_⟩) hHeld ?_
    · go_simp
    simp only [Act.put, List.setIfInBounds_toArray, List.set_cons_zero, List.set_cons_succ]
    refine wpAnyH_take (i := 8) (oi := ⟨_, _, _, _, _, _⟩) (v := .pointer (some ⟨w.heap.size, 2, none⟩)) rfl (by kernel_rfl) (by kernel_rfl) (by kernel_rfl) (fun _ _ _ h => h) (Or.inl ⟨wanted_none rfl, fun w' hSw => ?_⟩) hHeld ?_
    · go_simp
    simp only [Act.put, List.setIfInBounds_toArray, List.set_cons_zero, List.set_cons_succ]
    refine wpAnyH_take (i := 9) (oi := ⟨_, _, _, _, _, _⟩) (v := .int .i64 (z : Int)) rfl (by kernel_rfl) (by kernel_rfl) (by kernel_rfl) (fun _ _ _ h => h) (Or.inl ⟨wanted_none rfl, fun w' hSw => ?_⟩) hHeld ?_
    · have q := (hSw.cell (p := ⟨w.heap.size, 2, none⟩) hlt).trans p2; go_simp
    simp only [Act.put, List.setIfInBounds_toArray, List.set_cons_zero, List.set_cons_succ]
    refine wpAnyH_take (i := 10) (oi := ⟨_, _, _, _, _, _⟩) (v := .string t) rfl (by kernel_rfl) (by kernel_rfl) (by kernel_rfl) (fun _ _ _ h => h) (Or.inl ⟨wanted_none rfl, fun w' hSw => ?_⟩) hHeld ?_
    · go_simp
    simp only [Act.put, List.setIfInBounds_toArray, List.set_cons_zero, List.set_cons_succ]
    refine wpAnyH_take (i := 11) (oi := ⟨_, _, _, _, _, _⟩) (v := .int .i64 (t.size : Int)) rfl (by kernel_rfl) (by kernel_rfl) (by kernel_rfl) (fun _ _ _ h => h) (Or.inl ⟨wanted_none rfl, fun w' hSw => ?_⟩) hHeld ?_
    · go_simp
    simp only [Act.put, List.setIfInBounds_toArray, List.set_cons_zero, List.set_cons_succ]
    refine wpAnyH_take (i := 12) (oi := ⟨_, _, _, _, _, _⟩) (v := .int .i64 (Z : Int)) rfl (by kernel_rfl) (by kernel_rfl) (by kernel_rfl) (fun _ _ _ h => h) (Or.inl ⟨wanted_none rfl, fun w' hSw => ?_⟩) hHeld ?_
    · go_simp
    simp only [Act.put, List.setIfInBounds_toArray, List.set_cons_zero, List.set_cons_succ]
    refine wpAnyH_ready (rs := [0, 14]) (by kernel_rfl) (by simp) (AllReadyH.cons (o := ⟨_, _, _, _, _, _⟩) rfl (fun K hK => ?_) (AllReadyH.cons (o := ⟨_, _, _, _, _, _⟩) rfl (fun K hK => ?_) AllReadyH.nil))
    · rewrite [if_pos (wanted_none rfl)]
      go_simp
      have S1 : Below w2.heap.size w2 (w2.alloc (.cells #[] 2)).drew := ((Below.refl _ _).alloc (Nat.le_refl _) _).drew
      have O1 : (w2.alloc (.cells #[] 2)).drew.ownsRow w2.heap.size 2 1 (.slice (some ⟨w2.heap.size, 0, none⟩) 0 0) 0 (is []) := World.ownsRow_made w2 #[] 0 (Nat.le_refl _) (Nat.zero_le _) rfl
      have z1 : (w2.alloc (.cells #[] 2)).drew.heap.size = w2.heap.size + 1 := size_alloc _ _
      have I1 := HIr.out.1.below S1
      rw [show w2.heap.size = w.heap.size + 1 + 1 by omega] at O1 z1
      generalize (w2.alloc (.cells #[] 2)).drew = Wa at *
      refine hK.out _ _ S1 (fun _ => ?_)
      clear hK K
      refine wpAnyH_ready (rs := [3, 14]) (by kernel_rfl) (by simp) (AllReadyH.cons (o := ⟨_, _, _, _, _, _⟩) rfl (fun K hK => ?_) (AllReadyH.cons (o := ⟨_, _, _, _, _, _⟩) rfl (fun K hK => ?_) AllReadyH.nil))
      · rewrite [if_pos (wanted_none rfl)]
        with_reducible refine wp_append8 (.tmp 7) (.tmp 9) (by with_unfolding_all rfl) (w.heap.size + 1 + 1) (w.heap.size + 1 + 1) g c r (by with_unfolding_all rfl) (by with_unfolding_all rfl) O1 I1 (by omega) ?_
        intro g1 cap w5 hI5 hG5 hg1 hor hl5
        have S5 : Below w2.heap.size w2 w5 := S1.grown hG5 (by omega) (fun k hk => by injection hk with hk; omega)
        refine hK.out _ _ S5 (fun _ => ?_)
        clear hK K
        refine wpAnyH_take (i := 13) (oi := ⟨_, _, _, _, _, _⟩) (v := .agg (hvs (some ⟨g1, 0, none⟩) 8 cap u (Z : Int)).toArray) rfl (by kernel_rfl) (by kernel_rfl) (by kernel_rfl) (fun _ _ _ h => h) (Or.inl ⟨wanted_none rfl, fun w' hSw => ?_⟩) S5 ?_
        · go_simp
          rfl
        simp only [Act.put, List.setIfInBounds_toArray, List.set_cons_zero, List.set_cons_succ]
        refine wpAnyH_ready (rs := [14]) (by kernel_rfl) (by simp) (AllReadyH.cons (o := ⟨_, _, _, _, _, _⟩) rfl (fun K hK => ?_) AllReadyH.nil)
        rewrite [if_pos (wanted_none rfl)]
        go_simp
        have V6 : RowV (w5.alloc (.cells #[.slice none 0 0, .string ⟨#[]⟩, .int .i64 0] 77)) w5.heap.size (hvs none 0 0 ⟨#[]⟩ 0) := RowV.new w5 (hvs none 0 0 ⟨#[]⟩ 0) 77
        have B6 : Below w5.heap.size w5 (w5.alloc (.cells #[.slice none 0 0, .string ⟨#[]⟩, .int .i64 0] 77)) := (Below.refl _ _).alloc (Nat.le_refl _) _
        have S6 := S5.trans (B6.mono S5.size)
        have I6 := hI5.below B6
        generalize (w5.alloc (.cells #[.slice none 0 0, .string ⟨#[]⟩, .int .i64 0] 77)) = W6 at *
        refine hK.out _ _ S6 (fun _ => ?_)
        clear hK K
        refine wpAnyH_ready (rs := [15]) (by kernel_rfl) (by simp) (AllReadyH.cons (o := ⟨_, _, _, _, _, _⟩) rfl (fun K hK => ?_) AllReadyH.nil)
        rewrite [if_pos (wanted_none rfl)]
        with_reducible refine wp_store_mid 77 (.tmp 5) (.tmp 20) (by with_unfolding_all rfl) w5.heap.size 0 (hvs (some ⟨g1, 0, none⟩) 8 cap u (Z : Int)).toArray (by with_unfolding_all rfl) (by with_unfolding_all rfl) (by with_unfolding_all exact V6.ths) (by with_unfolding_all exact Tryd.sizeH) (by rw [Array.all_eq_true_iff_forall_mem]; intro v hv; exact hvs_one _ _ _ _ _ v (by simpa using hv)) ?_
        have F7 : RowV (W6.setCells w5.heap.size 0 (hvs (some ⟨g1, 0, none⟩) 8 cap u (Z : Int))) w5.heap.size (hvs (some ⟨g1, 0, none⟩) 8 cap u (Z : Int)) ∧ IAt (W6.setCells w5.heap.size 0 (hvs (some ⟨g1, 0, none⟩) 8 cap u (Z : Int))) (some ⟨g1, 0, none⟩) r.ints ∧ Below w2.heap.size w2 (W6.setCells w5.heap.size 0 (hvs (some ⟨g1, 0, none⟩) 8 cap u (Z : Int))) := ⟨V6.put rfl, I6.setsFar (Nat.ne_of_lt hl5) _, S6.trans (Lib.below_setCells_w S5.size _ _ _)⟩
        dsimp only
        generalize W6.setCells w5.heap.size 0 (hvs (some ⟨g1, 0, none⟩) 8 cap u (Z : Int)) = w7 at *
        refine hK.out _ _ F7.2.2 (fun _ => ?_)
        clear hK K
        refine wpAnyH_done (by kernel_rfl) ?_ _
        go_wp2_with fail
        go_meet
        exact ⟨w5.heap.size, g1, cap, rfl, F7.1, F7.2.1, F7.2.2, S5.size, (by omega), fun e => (Nat.ne_of_lt hl5) e.symm⟩
      · rewrite [if_pos (wanted_none rfl)]
        go_simp
        have V6 : RowV (Wa.alloc (.cells #[.slice none 0 0, .string ⟨#[]⟩, .int .i64 0] 77)) Wa.heap.size (hvs none 0 0 ⟨#[]⟩ 0) := RowV.new Wa (hvs none 0 0 ⟨#[]⟩ 0) 77
        have B6 : Below Wa.heap.size Wa (Wa.alloc (.cells #[.slice none 0 0, .string ⟨#[]⟩, .int .i64 0] 77)) := (Below.refl _ _).alloc (Nat.le_refl _) _
        have S6 := S1.trans (B6.mono S1.size)
        have I6 := I1.below B6
        have O6 := O1.alloc (.cells #[.slice none 0 0, .string ⟨#[]⟩, .int .i64 0] 77)
        have z6 := size_alloc Wa (.cells #[.slice none 0 0, .string ⟨#[]⟩, .int .i64 0] 77)
        rw [z1] at V6 z6
        generalize (Wa.alloc (.cells #[.slice none 0 0, .string ⟨#[]⟩, .int .i64 0] 77)) = W6 at *
        refine hK.out _ _ S6 (fun _ => ?_)
        clear hK K
        refine wpAnyH_ready (rs := [3]) (by kernel_rfl) (by simp) (AllReadyH.cons (o := ⟨_, _, _, _, _, _⟩) rfl (fun K hK => ?_) AllReadyH.nil)
        rewrite [if_pos (wanted_none rfl)]
        with_reducible refine wp_append8 (.tmp 7) (.tmp 9) (by with_unfolding_all rfl) (w.heap.size + 1 + 1) (w.heap.size + 1 + 1) g c r (by with_unfolding_all rfl) (by with_unfolding_all rfl) O6 I6 (by omega) ?_
        intro g1 cap w5 hI5 hG5 hg1 hor hl5
        have S5 : Below w2.heap.size w2 w5 := S6.grown hG5 (by omega) (fun k hk => by injection hk with hk; omega)
        have V5 : RowV w5 (w.heap.size + 1 + 1 + 1) (hvs none 0 0 ⟨#[]⟩ 0) := V6.same fun k => ⟨hG5.cell_far ⟨_, k, none⟩ (by show w.heap.size + 1 + 1 + 1 < W6.heap.size; omega) (by show (some (w.heap.size + 1 + 1 + 1) : Option Nat) ≠ some (w.heap.size + 1 + 1); intro e; injection e with e; omega), hG5.frozen_far ⟨_, k, none⟩ (by show w.heap.size + 1 + 1 + 1 < W6.heap.size; omega) (by show (some (w.heap.size + 1 + 1 + 1) : Option Nat) ≠ some (w.heap.size + 1 + 1); intro e; injection e with e; omega)⟩
        have n5 : g1 ≠ w.heap.size + 1 + 1 + 1 := by rcases hor with h | h <;> omega
        refine hK.out _ _ S5 (fun _ => ?_)
        clear hK K
        refine wpAnyH_take (i := 13) (oi := ⟨_, _, _, _, _, _⟩) (v := .agg (hvs (some ⟨g1, 0, none⟩) 8 cap u (Z : Int)).toArray) rfl (by kernel_rfl) (by kernel_rfl) (by kernel_rfl) (fun _ _ _ h => h) (Or.inl ⟨wanted_none rfl, fun w' hSw => ?_⟩) S5 ?_
        · go_simp
          rfl
        simp only [Act.put, List.setIfInBounds_toArray, List.set_cons_zero, List.set_cons_succ]
        refine wpAnyH_ready (rs := [15]) (by kernel_rfl) (by simp) (AllReadyH.cons (o := ⟨_, _, _, _, _, _⟩) rfl (fun K hK => ?_) AllReadyH.nil)
        rewrite [if_pos (wanted_none rfl)]
        with_reducible refine wp_store_mid 77 (.tmp 5) (.tmp 20) (by with_unfolding_all rfl) (w.heap.size + 1 + 1 + 1) 0 (hvs (some ⟨g1, 0, none⟩) 8 cap u (Z : Int)).toArray (by with_unfolding_all rfl) (by with_unfolding_all rfl) (by with_unfolding_all exact V5.ths) (by with_unfolding_all exact Tryd.sizeH) (by rw [Array.all_eq_true_iff_forall_mem]; intro v hv; exact hvs_one _ _ _ _ _ v (by simpa using hv)) ?_
        have F7 : RowV (w5.setCells (w.heap.size + 1 + 1 + 1) 0 (hvs (some ⟨g1, 0, none⟩) 8 cap u (Z : Int))) (w.heap.size + 1 + 1 + 1) (hvs (some ⟨g1, 0, none⟩) 8 cap u (Z : Int)) ∧ IAt (w5.setCells (w.heap.size + 1 + 1 + 1) 0 (hvs (some ⟨g1, 0, none⟩) 8 cap u (Z : Int))) (some ⟨g1, 0, none⟩) r.ints ∧ Below w2.heap.size w2 (w5.setCells (w.heap.size + 1 + 1 + 1) 0 (hvs (some ⟨g1, 0, none⟩) 8 cap u (Z : Int))) := ⟨V5.put rfl, hI5.setsFar n5 _, S5.trans (Lib.below_setCells_w (by omega) _ _ _)⟩
        dsimp only
        generalize w5.setCells (w.heap.size + 1 + 1 + 1) 0 (hvs (some ⟨g1, 0, none⟩) 8 cap u (Z : Int)) = w7 at *
        refine hK.out _ _ F7.2.2 (fun _ => ?_)
        clear hK K
        refine wpAnyH_done (by kernel_rfl) ?_ _
        go_wp2_with fail
        go_meet
        exact ⟨(w.heap.size + 1 + 1 + 1), g1, cap, rfl, F7.1, F7.2.1, F7.2.2, (by omega), (by omega), fun e => n5 e.symm⟩
    · rewrite [if_pos (wanted_none rfl)]
      go_simp
      have S1 : Below w2.heap.size w2 (w2.alloc (.cells #[.slice none 0 0, .string ⟨#[]⟩, .int .i64 0] 77)).drew := ((Below.refl _ _).alloc (Nat.le_refl _) _).drew
      have V1 : RowV (w2.alloc (.cells #[.slice none 0 0, .string ⟨#[]⟩, .int .i64 0] 77)).drew w2.heap.size (hvs none 0 0 ⟨#[]⟩ 0) := (RowV.new w2 (hvs none 0 0 ⟨#[]⟩ 0) 77).drew
      have z1 : (w2.alloc (.cells #[.slice none 0 0, .string ⟨#[]⟩, .int .i64 0] 77)).drew.heap.size = w2.heap.size + 1 := size_alloc _ _
      have I1 := HIr.out.1.below S1
      rw [show w2.heap.size = w.heap.size + 1 + 1 by omega] at V1 z1
      generalize (w2.alloc (.cells #[.slice none 0 0, .string ⟨#[]⟩, .int .i64 0] 77)).drew = Wc at *
      refine hK.out _ _ S1 (fun _ => ?_)
      clear hK K
      refine wpAnyH_ready (rs := [0]) (by kernel_rfl) (by simp) (AllReadyH.cons (o := ⟨_, _, _, _, _, _⟩) rfl (fun K hK => ?_) AllReadyH.nil)
      rewrite [if_pos (wanted_none rfl)]
      go_simp
      have B6 : Below Wc.heap.size Wc (Wc.alloc (.cells #[] 2)) := (Below.refl _ _).alloc (Nat.le_refl _) _
      have S6 := S1.trans (B6.mono S1.size)
      have I6 := I1.below B6
      have V6 := V1.below B6 (by omega)
      have z6 := size_alloc Wc (.cells #[] 2)
      have O6 : (Wc.alloc (.cells #[] 2)).ownsRow Wc.heap.size 2 1 (.slice (some ⟨Wc.heap.size, 0, none⟩) 0 0) 0 (is []) := World.ownsRow_made Wc #[] 0 (Nat.le_refl _) (Nat.zero_le _) rfl
      rw [z1] at O6 z6
      generalize (Wc.alloc (.cells #[] 2)) = W6 at *
      refine hK.out _ _ S6 (fun _ => ?_)
      clear hK K
      refine wpAnyH_ready (rs := [3]) (by kernel_rfl) (by simp) (AllReadyH.cons (o := ⟨_, _, _, _, _, _⟩) rfl (fun K hK => ?_) AllReadyH.nil)
      rewrite [if_pos (wanted_none rfl)]
      with_reducible refine wp_append8 (.tmp 7) (.tmp 9) (by with_unfolding_all rfl) (w.heap.size + 1 + 1 + 1) (w.heap.size + 1 + 1 + 1) g c r (by with_unfolding_all rfl) (by with_unfolding_all rfl) O6 I6 (by omega) ?_
      intro g1 cap w5 hI5 hG5 hg1 hor hl5
      have S5 : Below w2.heap.size w2 w5 := S6.grown hG5 (by omega) (fun k hk => by injection hk with hk; omega)
      have V5 : RowV w5 (w.heap.size + 1 + 1) (hvs none 0 0 ⟨#[]⟩ 0) := V6.same fun k => ⟨hG5.cell_far ⟨_, k, none⟩ (by show w.heap.size + 1 + 1 < W6.heap.size; omega) (by show (some (w.heap.size + 1 + 1) : Option Nat) ≠ some (w.heap.size + 1 + 1 + 1); intro e; injection e with e; omega), hG5.frozen_far ⟨_, k, none⟩ (by show w.heap.size + 1 + 1 < W6.heap.size; omega) (by show (some (w.heap.size + 1 + 1) : Option Nat) ≠ some (w.heap.size + 1 + 1 + 1); intro e; injection e with e; omega)⟩
      have n5 : g1 ≠ w.heap.size + 1 + 1 := by omega
      refine hK.out _ _ S5 (fun _ => ?_)
      clear hK K
      refine wpAnyH_take (i := 13) (oi := ⟨_, _, _, _, _, _⟩) (v := .agg (hvs (some ⟨g1, 0, none⟩) 8 cap u (Z : Int)).toArray) rfl (by kernel_rfl) (by kernel_rfl) (by kernel_rfl) (fun _ _ _ h => h) (Or.inl ⟨wanted_none rfl, fun w' hSw => ?_⟩) S5 ?_
      · go_simp
        rfl
      simp only [Act.put, List.setIfInBounds_toArray, List.set_cons_zero, List.set_cons_succ]
      refine wpAnyH_ready (rs := [15]) (by kernel_rfl) (by simp) (AllReadyH.cons (o := ⟨_, _, _, _, _, _⟩) rfl (fun K hK => ?_) AllReadyH.nil)
      rewrite [if_pos (wanted_none rfl)]
      with_reducible refine wp_store_mid 77 (.tmp 5) (.tmp 20) (by with_unfolding_all rfl) (w.heap.size + 1 + 1) 0 (hvs (some ⟨g1, 0, none⟩) 8 cap u (Z : Int)).toArray (by with_unfolding_all rfl) (by with_unfolding_all rfl) (by with_unfolding_all exact V5.ths) (by with_unfolding_all exact Tryd.sizeH) (by rw [Array.all_eq_true_iff_forall_mem]; intro v hv; exact hvs_one _ _ _ _ _ v (by simpa using hv)) ?_
      have F7 : RowV (w5.setCells (w.heap.size + 1 + 1) 0 (hvs (some ⟨g1, 0, none⟩) 8 cap u (Z : Int))) (w.heap.size + 1 + 1) (hvs (some ⟨g1, 0, none⟩) 8 cap u (Z : Int)) ∧ IAt (w5.setCells (w.heap.size + 1 + 1) 0 (hvs (some ⟨g1, 0, none⟩) 8 cap u (Z : Int))) (some ⟨g1, 0, none⟩) r.ints ∧ Below w2.heap.size w2 (w5.setCells (w.heap.size + 1 + 1) 0 (hvs (some ⟨g1, 0, none⟩) 8 cap u (Z : Int))) := ⟨V5.put rfl, hI5.setsFar n5 _, S5.trans (Lib.below_setCells_w (by omega) _ _ _)⟩
      dsimp only
      generalize w5.setCells (w.heap.size + 1 + 1) 0 (hvs (some ⟨g1, 0, none⟩) 8 cap u (Z : Int)) = w7 at *
      refine hK.out _ _ F7.2.2 (fun _ => ?_)
      clear hK K
      refine wpAnyH_done (by kernel_rfl) ?_ _
      go_wp2_with fail
      go_meet
      exact ⟨(w.heap.size + 1 + 1), g1, cap, rfl, F7.1, F7.2.1, F7.2.2, (by omega), (by omega), fun e => n5 e.symm⟩
end Go.Proofs.YtchfpiadfmnphaaDoor
