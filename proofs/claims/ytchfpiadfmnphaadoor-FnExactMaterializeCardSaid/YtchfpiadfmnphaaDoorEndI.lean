/- The program's HashEnd, of a right Hash. -/
import Derived.Test.YtchfpiadfmnphaaDoorJn24
import Derived.Test.YtchfpiadfmnphaaDoorEndS
import Derived.Test.YtchfpiadfmnphaaDoorJn4
import Derived.Deep.CutRange
namespace Go.Proofs.YtchfpiadfmnphaaDoor
open Go.RowKit
set_option linter.unusedVariables false
attribute [local go_sem] U_shr
attribute [local go_sem ↓] Go.wp_at_zero Go.wp_at_succ

theorem wp_allocU {P : Program} {o : Oper} {a : Act} {w : World} {K : Act → World → Prop} {Q : Exit → Act → World → Prop} (t : TypeId) (ho : o.op = .alloc t) (n : Nat)
    (hi : (P.info? t).map (fun i => i.zero) = some (some (aggU (List.replicate n 0))))
    (h : ∀ w', ArrU w' w.heap.size (List.replicate n 0) → Below w.heap.size w w' → w'.heap.size = w.heap.size + 1 → K (a.put o.dst (.pointer (some ⟨w.heap.size, 0, none⟩))) w') : Oper.wp P o a w K Q := by
  cases hq : P.info? t with
  | none => simp [hq] at hi
  | some i =>
    have hz : i.zero = some (aggU (List.replicate n 0)) := by simpa [hq] using hi
    unfold Oper.wp execOp
    simp only [ho, Sem.run_bind, Instr.alloc, zeroValue, run_typeInfo w hq, hz, newVar, newRow, run_newObj_alloc, Sem.run_pure, Result.andThen_ok]
    exact h _ (ArrU.new w _ t) ((Below.refl _ _).alloc (Nat.le_refl _) _) (Array.size_push _)
theorem right_ints {r : R8} {s : ByteArray} {z : Nat} (hs : s.size = z % 64) (hz : z ≤ 1099511627776) : rightB r.ints s (z : Int) = true := by
  refine right_yes ⟨rfl, by omega, by omega, ?_, ?_⟩
  · rw [Int.tmod_eq_emod_of_nonneg (by omega)]; omega
  · intro x hx
    unfold R8.ints at hx
    obtain ⟨y, _, rfl⟩ := List.mem_map.1 hx
    have := u32lt y
    exact ⟨by omega, by omega⟩
theorem U_to_u8 {P : Program} (w : World) (src dst : TypeId) (x : UInt32) (hs : P.underlying src = some (.int .u32)) (hd : P.underlying dst = some (.int .u8)) :
    (convert src dst (U x)).run P w = .ok (.int .u8 ((x.toNat % 256 : Nat) : Int)) w := by
  have hk : P.intKind dst = .u8 := by simp [Program.intKind, hd]
  unfold U
  rw [run_convert_int w src dst .u32 _ (by rw [hs]; rfl) (by rw [hk]; exact hd), hk]
  simp [IntKind.wrap, IntKind.signed, IntKind.bits]
theorem sr_nat (x : UInt32) (k : Nat) (hk : k < 32) : (sr x (k : Int)).toNat = x.toNat / 2 ^ k := by
  unfold sr
  rw [UInt32.toNat_shiftRight]
  have : (UInt32.ofNat ((k : Int).toNat)).toNat = k := by simp; omega
  rw [this, Nat.mod_eq_of_lt (by omega), Nat.shiftRight_eq_div_pow]
theorem dig4_sr (x : UInt32) : (bvs (dig4 x)).toArray = #[.int .u8 (((sr x 24).toNat % 256 : Nat) : Int), .int .u8 (((sr x 16).toNat % 256 : Nat) : Int), .int .u8 (((sr x 8).toNat % 256 : Nat) : Int), .int .u8 ((x.toNat % 256 : Nat) : Int)] := by
  have h1 := sr_nat x 24 (by omega)
  have h2 := sr_nat x 16 (by omega)
  have h3 := sr_nat x 8 (by omega)
  simp only [Int.cast_ofNat_Int] at h1 h2 h3
  rw [h1, h2, h3, dig4]
  simp only [bvs, List.map]
  rw [BV_ofNat _ (Nat.mod_lt _ (by omega)), BV_ofNat _ (Nat.mod_lt _ (by omega)), BV_ofNat _ (Nat.mod_lt _ (by omega)), BV_ofNat _ (Nat.mod_lt _ (by omega))]

set_option maxRecDepth 100000 in
set_option maxHeartbeats 1000000 in
theorem endI_any (g c : Nat) (r : R8) (s : ByteArray) (z : Nat) (w : World) (h : IAt w (some ⟨g, 0, none⟩) r.ints) (hs : s.size = z % 64) (hz : z ≤ 1099511627776) (hk : ArrU w 0 keys) (h0 : 0 < w.heap.size) :
    Calls Tryd.prog 60 #[HVal (some ⟨g, 0, none⟩) 8 c s (z : Int)] w fun e w' => e = .returned (.string ⟨(digs8 (stN r (s ++ ⟨(padL z).toArray⟩) ((s ++ ⟨(padL z).toArray⟩ : ByteArray).size / 64)) 8).toArray⟩) ∧ Below w.heap.size w w' := by
  have HI : Hid (IAt w (some ⟨g, 0, none⟩) r.ints ∧ ArrU w 0 keys) := ⟨h, hk⟩
  have hrt : ∀ w0, IAt w0 (some ⟨g, 0, none⟩) r.ints → Calls Tryd.prog 86 #[HVal (some ⟨g, 0, none⟩) 8 c s (z : Int)] w0 fun e w' => e = .returned (.bool true) ∧ Below w0.heap.size w0 w' := fun w0 h => by
    have := rightI_any (some ⟨g, 0, none⟩) c 8 r.ints s (z : Int) w0 rfl h (by omega) (by unfold maxLen; omega)
    rw [right_ints hs hz] at this
    exact this
  clear h hk
  obtain ⟨dH, hdH, hrH⟩ := Tryd.undH
  obtain ⟨Pd, hPd⟩ : ∃ Pd : ByteArray, ⟨(padL z).toArray⟩ = Pd := ⟨_, rfl⟩
  have hPs : Pd.size ≤ 1048576 := by
    rw [← hPd]
    show (padL z).toArray.size ≤ 1048576
    have : padN z < 64 := by unfold padN; exact Nat.mod_lt _ (by omega)
    simp [padL, padH, bes]
    omega
  rw [hPd]
  obtain ⟨u, hu⟩ : ∃ u, s ++ Pd = u := ⟨_, rfl⟩
  have hul : u.size ≤ 1000000000 := by rw [← hu, ByteArray.size_append]; omega
  rw [hu]
  obtain ⟨q, hq⟩ : ∃ q, stN r u (u.size / 64) = q := ⟨_, rfl⟩
  obtain ⟨lf, hlf⟩ : ∃ lf, left u (u.size / 64) = lf := ⟨_, rfl⟩
  have hbk : ∀ w0 : World, ArrU w0 0 keys → 0 < w0.heap.size → Calls Tryd.prog 87 #[aggU r.list, .string u] w0 fun e w' => e = .returned (.tuple #[aggU q.list, .string lf]) ∧ Below w0.heap.size w0 w' := fun w0 h1 h2 => by
    have := blocks_any r u w0 hul h1 h2
    rw [hq, hlf] at this
    exact this
  rw [hq]
  clear hq hlf
  have hsz : s.size + Pd.size ≤ 9223372036854775807 := by omega
  clear hs
  go_enter Tryd.func60, Tryd.ntmps60
  go_wp2_with (first
    | (with_reducible refine wpList_boxV (w := w) (by with_unfolding_all rfl) 77 (.tmp 0) (by with_unfolding_all rfl) (hvs (some ⟨g, 0, none⟩) 8 c s (z : Int)) (by with_unfolding_all rfl) ?_; intro w0 hA0 hB0 hS0)
    | (with_reducible refine wpList_loadV (w := w0) (by with_unfolding_all rfl) 77 (.tmp 1) (by with_unfolding_all rfl) w.heap.size (hvs (some ⟨g, 0, none⟩) 8 c s (z : Int)) (by with_unfolding_all rfl) hA0 Tryd.undH 3 Tryd.sizeH (by with_unfolding_all rfl) ?_)
    | (go_at_call 86; refine (hrt w0 (HI.out.1.below hB0)).mono ?_; rintro e w1 ⟨rfl, hB1⟩))
  obtain ⟨b1, hb1⟩ : ∃ b1, w.heap.size = b1 := ⟨_, rfl⟩
  have V1 : RowV w1 b1 (hvs (some ⟨g, 0, none⟩) 8 c s (z : Int)) := by rw [← hb1]; exact hA0.below hB1 (by omega)
  have p1 := V1.cell (k := 1) rfl
  have p2 := V1.cell (k := 2) rfl
  have B01 : Below w.heap.size w w1 := hB0.trans (hB1.mono (by omega))
  have HI1 : Hid (IAt w1 (some ⟨g, 0, none⟩) r.ints) := HI.out.1.below B01
  have HK1 : Hid (ArrU w1 0 keys) := HI.out.2.below B01 h0
  have hl1 : b1 < w1.heap.size := V1.lt (hvs_ne _ _ _ _ _)
  have hk1 : 0 < w1.heap.size := by omega
  have HB : Hid (Below w.heap.size w w1 ∧ w.heap.size + 1 ≤ w1.heap.size) := ⟨B01, by omega⟩
  rw [hb1]
  try simp only [Act.put, List.setIfInBounds_toArray, List.set_cons_zero, List.set_cons_succ]
  clear hA0 hB0 hS0 hB1 B01 HI
  go_cut [3, 4] from 11 to 22 (fun v _ wx => ∃ b : Nat, v = .pointer (some ⟨b, 0, none⟩) ∧ ArrU wx b q.list ∧ Below w1.heap.size w1 wx ∧ w1.heap.size ≤ b)
  case first =>
    refine wp_region_held_drew (S := fun w' => Below w1.heap.size w1 w') (by kernel_rfl) ((Below.refl _ _).drew) (fun S0 => ?_)
    refine wpAnyH_take (i := 0) (oi := ⟨_, _, _, _, _, _⟩) (v := HVal (some ⟨g, 0, none⟩) 8 c s (z : Int)) rfl (by kernel_rfl) (by kernel_rfl) (by kernel_rfl) (fun _ _ _ h => h) (yieldsIf_load_mid (wanted_none rfl) 77 (.tmp 1) rfl b1 0 rfl (hvs (some ⟨g, 0, none⟩) 8 c s (z : Int)) dH (fun w' hw => (V1.below hw hl1).rng) hdH hrH Tryd.sizeH) S0 ?_
    dsimp only
    try simp only [Act.put, List.setIfInBounds_toArray, List.set_cons_zero, List.set_cons_succ]
    refine wpAnyH_take (i := 2) (oi := ⟨_, _, _, _, _, _⟩) (v := .pointer (some ⟨b1, 1, none⟩)) rfl (by kernel_rfl) (by kernel_rfl) (by kernel_rfl) (fun _ _ _ h => h) (Or.inl ⟨wanted_none rfl, fun w' hSw => ?_⟩) S0 ?_
    · go_simp
    try simp only [Act.put, List.setIfInBounds_toArray, List.set_cons_zero, List.set_cons_succ]
    refine wpAnyH_take (i := 3) (oi := ⟨_, _, _, _, _, _⟩) (v := .string s) rfl (by kernel_rfl) (by kernel_rfl) (by kernel_rfl) (fun _ _ _ h => h) (Or.inl ⟨wanted_none rfl, fun w' hSw => ?_⟩) S0 ?_
    · have q := (hSw.cell (p := ⟨b1, 1, none⟩) hl1).trans p1; go_simp
    try simp only [Act.put, List.setIfInBounds_toArray, List.set_cons_zero, List.set_cons_succ]
    refine wpAnyH_take (i := 4) (oi := ⟨_, _, _, _, _, _⟩) (v := .pointer (some ⟨b1, 2, none⟩)) rfl (by kernel_rfl) (by kernel_rfl) (by kernel_rfl) (fun _ _ _ h => h) (Or.inl ⟨wanted_none rfl, fun w' hSw => ?_⟩) S0 ?_
    · go_simp
    try simp only [Act.put, List.setIfInBounds_toArray, List.set_cons_zero, List.set_cons_succ]
    refine wpAnyH_take (i := 5) (oi := ⟨_, _, _, _, _, _⟩) (v := .int .i64 (z : Int)) rfl (by kernel_rfl) (by kernel_rfl) (by kernel_rfl) (fun _ _ _ h => h) (Or.inl ⟨wanted_none rfl, fun w' hSw => ?_⟩) S0 ?_
    · have q := (hSw.cell (p := ⟨b1, 2, none⟩) hl1).trans p2; go_simp
    try simp only [Act.put, List.setIfInBounds_toArray, List.set_cons_zero, List.set_cons_succ]
    generalize w1.drew = W at *
    have SW := S0
    refine wpAnyH_ready (rs := [1, 12]) (by kernel_rfl) (by simp) (AllReadyH.cons (o := ⟨_, _, _, _, _, _⟩) rfl (fun K hK => ?_) (AllReadyH.cons (o := ⟨_, _, _, _, _, _⟩) rfl (fun K hK => ?_) AllReadyH.nil))
    · as_aux_lemma =>
      rewrite [if_pos (wanted_none rfl)]
      go_simp
      refine (wordsOf_any g c r s (z : Int) W (HI1.out.below SW)).mono ?_
      rintro e Wc ⟨rfl, hBWc⟩
      have SWc : Below w1.heap.size w1 Wc := SW.trans (hBWc.mono SW.size)
      go_wp2_with fail
      refine hK.out _ _ SWc (fun _ => ?_)
      clear hK K
      refine wpAnyH_ready (rs := [6, 12]) (by kernel_rfl) (by simp) (AllReadyH.cons (o := ⟨_, _, _, _, _, _⟩) rfl (fun K hK => ?_) (AllReadyH.cons (o := ⟨_, _, _, _, _, _⟩) rfl (fun K hK => ?_) AllReadyH.nil))
      · as_aux_lemma =>
        rewrite [if_pos (wanted_none rfl)]
        go_simp
        refine (pad_any z Wc hz).mono ?_
        rintro e Wcc ⟨rfl, hBWcc⟩
        rw [hPd]
        have SWcc : Below w1.heap.size w1 Wcc := SWc.trans (hBWcc.mono SWc.size)
        go_wp2_with fail
        refine hK.out _ _ SWcc (fun _ => ?_)
        clear hK K
        refine wpAnyH_take (i := 7) (oi := ⟨_, _, _, _, _, _⟩) (v := .string u) rfl (by kernel_rfl) (by kernel_rfl) (by kernel_rfl) (fun _ _ _ h => h) (Or.inl ⟨wanted_none rfl, fun w' hSw => ?_⟩) SWcc ?_
        · go_simp
        try simp only [Act.put, List.setIfInBounds_toArray, List.set_cons_zero, List.set_cons_succ]
        refine wpAnyH_ready (rs := [8, 12]) (by kernel_rfl) (by simp) (AllReadyH.cons (o := ⟨_, _, _, _, _, _⟩) rfl (fun K hK => ?_) (AllReadyH.cons (o := ⟨_, _, _, _, _, _⟩) rfl (fun K hK => ?_) AllReadyH.nil))
        · as_aux_lemma =>
          rewrite [if_pos (wanted_none rfl)]
          go_simp
          refine (hbk Wcc (HK1.out.below SWcc hk1) (Nat.lt_of_lt_of_le hk1 SWcc.size)).mono ?_
          rintro e Wccc ⟨rfl, hBWccc⟩
          have SWccc : Below w1.heap.size w1 Wccc := SWcc.trans (hBWccc.mono SWcc.size)
          go_wp2_with fail
          refine hK.out _ _ SWccc (fun _ => ?_)
          clear hK K
          refine wpAnyH_take (i := 9) (oi := ⟨_, _, _, _, _, _⟩) (v := .tuple #[aggU q.list, .string lf]) rfl (by kernel_rfl) (by kernel_rfl) (by kernel_rfl) (fun _ _ _ h => h) (Or.inl ⟨wanted_none rfl, fun w' hSw => ?_⟩) SWccc ?_
          · go_simp
          try simp only [Act.put, List.setIfInBounds_toArray, List.set_cons_zero, List.set_cons_succ]
          refine wpAnyH_take (i := 10) (oi := ⟨_, _, _, _, _, _⟩) (v := aggU q.list) rfl (by kernel_rfl) (by kernel_rfl) (by kernel_rfl) (fun _ _ _ h => h) (Or.inl ⟨wanted_none rfl, fun w' hSw => ?_⟩) SWccc ?_
          · go_simp
          try simp only [Act.put, List.setIfInBounds_toArray, List.set_cons_zero, List.set_cons_succ]
          refine wpAnyH_take (i := 11) (oi := ⟨_, _, _, _, _, _⟩) (v := .string lf) rfl (by kernel_rfl) (by kernel_rfl) (by kernel_rfl) (fun _ _ _ h => h) (Or.inl ⟨wanted_none rfl, fun w' hSw => ?_⟩) SWccc ?_
          · go_simp
          try simp only [Act.put, List.setIfInBounds_toArray, List.set_cons_zero, List.set_cons_succ]
          refine wpAnyH_ready (rs := [12]) (by kernel_rfl) (by simp) (AllReadyH.cons (o := ⟨_, _, _, _, _, _⟩) rfl (fun K hK => ?_) AllReadyH.nil)
          rewrite [if_pos (wanted_none rfl)]
          with_reducible refine wp_allocU 128 (by with_unfolding_all rfl) 8 Tryd.infoA8 ?_
          intro Wccca AWccca hBWccca hZWccca
          have SWccca : Below w1.heap.size w1 Wccca := SWccc.trans (hBWccca.mono SWccc.size)
          obtain ⟨b, hb⟩ : ∃ b, Wccc.heap.size = b := ⟨_, rfl⟩
          have hb1 : w1.heap.size ≤ b := by rw [← hb]; exact SWccc.size
          rw [hb] at AWccca ⊢
          simp only [Act.put, List.setIfInBounds_toArray, List.set_cons_zero, List.set_cons_succ]
          refine hK.out _ _ SWccca (fun _ => ?_)
          clear hK K
          refine wpAnyH_ready (rs := [13]) (by kernel_rfl) (by simp) (AllReadyH.cons (o := ⟨_, _, _, _, _, _⟩) rfl (fun K hK => ?_) AllReadyH.nil)
          rewrite [if_pos (wanted_none rfl)]
          with_reducible refine wp_store_mid 128 (.tmp 3) (.tmp 21) (by with_unfolding_all rfl) b 0 (us q.list).toArray (by with_unfolding_all rfl) (by with_unfolding_all rfl) (by with_unfolding_all exact AWccca.ths) (by with_unfolding_all exact Tryd.sizeA8) (us_one _) ?_
          have F9 : ArrU (Wccca.setCells b 0 (us q.list)) b q.list ∧ Below w1.heap.size w1 (Wccca.setCells b 0 (us q.list)) := ⟨AWccca.put rfl, SWccca.trans (Lib.below_setCells_w hb1 _ _ _)⟩
          dsimp only
          generalize Wccca.setCells b 0 (us q.list) = w9 at *
          refine hK.out _ _ F9.2 (fun _ => ?_)
          clear hK K
          refine wpAnyH_ready (rs := [14]) (by kernel_rfl) (by simp) (AllReadyH.cons (o := ⟨_, _, _, _, _, _⟩) rfl (fun K hK => ?_) AllReadyH.nil)
          rewrite [if_pos (wanted_none rfl)]
          go_simp
          refine hK.out _ _ F9.2 (fun _ => ?_)
          clear hK K
          refine wpAnyH_done (by kernel_rfl) ?_ _
          go_wp2_with fail
          go_meet
          exact ⟨b, rfl, F9.1, F9.2, hb1⟩
        · as_aux_lemma =>
          rewrite [if_pos (wanted_none rfl)]
          with_reducible refine wp_allocU 128 (by with_unfolding_all rfl) 8 Tryd.infoA8 ?_
          intro Wcca AWcca hBWcca hZWcca
          have SWcca : Below w1.heap.size w1 Wcca := SWcc.trans (hBWcca.mono SWcc.size)
          obtain ⟨b, hb⟩ : ∃ b, Wcc.heap.size = b := ⟨_, rfl⟩
          have hb1 : w1.heap.size ≤ b := by rw [← hb]; exact SWcc.size
          rw [hb] at AWcca ⊢
          simp only [Act.put, List.setIfInBounds_toArray, List.set_cons_zero, List.set_cons_succ]
          refine hK.out _ _ SWcca (fun _ => ?_)
          clear hK K
          refine wpAnyH_ready (rs := [8]) (by kernel_rfl) (by simp) (AllReadyH.cons (o := ⟨_, _, _, _, _, _⟩) rfl (fun K hK => ?_) AllReadyH.nil)
          rewrite [if_pos (wanted_none rfl)]
          go_simp
          refine (hbk Wcca (HK1.out.below SWcca hk1) (Nat.lt_of_lt_of_le hk1 SWcca.size)).mono ?_
          rintro e Wccac ⟨rfl, hBWccac⟩
          have SWccac : Below w1.heap.size w1 Wccac := SWcca.trans (hBWccac.mono SWcca.size)
          have AWccac := AWcca.below hBWccac (AWcca.lt (by decide))
          go_wp2_with fail
          refine hK.out _ _ SWccac (fun _ => ?_)
          clear hK K
          refine wpAnyH_take (i := 9) (oi := ⟨_, _, _, _, _, _⟩) (v := .tuple #[aggU q.list, .string lf]) rfl (by kernel_rfl) (by kernel_rfl) (by kernel_rfl) (fun _ _ _ h => h) (Or.inl ⟨wanted_none rfl, fun w' hSw => ?_⟩) SWccac ?_
          · go_simp
          try simp only [Act.put, List.setIfInBounds_toArray, List.set_cons_zero, List.set_cons_succ]
          refine wpAnyH_take (i := 10) (oi := ⟨_, _, _, _, _, _⟩) (v := aggU q.list) rfl (by kernel_rfl) (by kernel_rfl) (by kernel_rfl) (fun _ _ _ h => h) (Or.inl ⟨wanted_none rfl, fun w' hSw => ?_⟩) SWccac ?_
          · go_simp
          try simp only [Act.put, List.setIfInBounds_toArray, List.set_cons_zero, List.set_cons_succ]
          refine wpAnyH_take (i := 11) (oi := ⟨_, _, _, _, _, _⟩) (v := .string lf) rfl (by kernel_rfl) (by kernel_rfl) (by kernel_rfl) (fun _ _ _ h => h) (Or.inl ⟨wanted_none rfl, fun w' hSw => ?_⟩) SWccac ?_
          · go_simp
          try simp only [Act.put, List.setIfInBounds_toArray, List.set_cons_zero, List.set_cons_succ]
          refine wpAnyH_ready (rs := [13]) (by kernel_rfl) (by simp) (AllReadyH.cons (o := ⟨_, _, _, _, _, _⟩) rfl (fun K hK => ?_) AllReadyH.nil)
          rewrite [if_pos (wanted_none rfl)]
          with_reducible refine wp_store_mid 128 (.tmp 3) (.tmp 21) (by with_unfolding_all rfl) b 0 (us q.list).toArray (by with_unfolding_all rfl) (by with_unfolding_all rfl) (by with_unfolding_all exact AWccac.ths) (by with_unfolding_all exact Tryd.sizeA8) (us_one _) ?_
          have F9 : ArrU (Wccac.setCells b 0 (us q.list)) b q.list ∧ Below w1.heap.size w1 (Wccac.setCells b 0 (us q.list)) := ⟨AWccac.put rfl, SWccac.trans (Lib.below_setCells_w hb1 _ _ _)⟩
          dsimp only
          generalize Wccac.setCells b 0 (us q.list) = w9 at *
          refine hK.out _ _ F9.2 (fun _ => ?_)
          clear hK K
          refine wpAnyH_ready (rs := [14]) (by kernel_rfl) (by simp) (AllReadyH.cons (o := ⟨_, _, _, _, _, _⟩) rfl (fun K hK => ?_) AllReadyH.nil)
          rewrite [if_pos (wanted_none rfl)]
          go_simp
          refine hK.out _ _ F9.2 (fun _ => ?_)
          clear hK K
          refine wpAnyH_done (by kernel_rfl) ?_ _
          go_wp2_with fail
          go_meet
          exact ⟨b, rfl, F9.1, F9.2, hb1⟩
      · as_aux_lemma =>
        rewrite [if_pos (wanted_none rfl)]
        with_reducible refine wp_allocU 128 (by with_unfolding_all rfl) 8 Tryd.infoA8 ?_
        intro Wca AWca hBWca hZWca
        have SWca : Below w1.heap.size w1 Wca := SWc.trans (hBWca.mono SWc.size)
        obtain ⟨b, hb⟩ : ∃ b, Wc.heap.size = b := ⟨_, rfl⟩
        have hb1 : w1.heap.size ≤ b := by rw [← hb]; exact SWc.size
        rw [hb] at AWca ⊢
        simp only [Act.put, List.setIfInBounds_toArray, List.set_cons_zero, List.set_cons_succ]
        refine hK.out _ _ SWca (fun _ => ?_)
        clear hK K
        refine wpAnyH_ready (rs := [6]) (by kernel_rfl) (by simp) (AllReadyH.cons (o := ⟨_, _, _, _, _, _⟩) rfl (fun K hK => ?_) AllReadyH.nil)
        rewrite [if_pos (wanted_none rfl)]
        go_simp
        refine (pad_any z Wca hz).mono ?_
        rintro e Wcac ⟨rfl, hBWcac⟩
        rw [hPd]
        have SWcac : Below w1.heap.size w1 Wcac := SWca.trans (hBWcac.mono SWca.size)
        have AWcac := AWca.below hBWcac (AWca.lt (by decide))
        go_wp2_with fail
        refine hK.out _ _ SWcac (fun _ => ?_)
        clear hK K
        refine wpAnyH_take (i := 7) (oi := ⟨_, _, _, _, _, _⟩) (v := .string u) rfl (by kernel_rfl) (by kernel_rfl) (by kernel_rfl) (fun _ _ _ h => h) (Or.inl ⟨wanted_none rfl, fun w' hSw => ?_⟩) SWcac ?_
        · go_simp
        try simp only [Act.put, List.setIfInBounds_toArray, List.set_cons_zero, List.set_cons_succ]
        refine wpAnyH_ready (rs := [8]) (by kernel_rfl) (by simp) (AllReadyH.cons (o := ⟨_, _, _, _, _, _⟩) rfl (fun K hK => ?_) AllReadyH.nil)
        rewrite [if_pos (wanted_none rfl)]
        go_simp
        refine (hbk Wcac (HK1.out.below SWcac hk1) (Nat.lt_of_lt_of_le hk1 SWcac.size)).mono ?_
        rintro e Wcacc ⟨rfl, hBWcacc⟩
        have SWcacc : Below w1.heap.size w1 Wcacc := SWcac.trans (hBWcacc.mono SWcac.size)
        have AWcacc := AWcac.below hBWcacc (AWcac.lt (by decide))
        go_wp2_with fail
        refine hK.out _ _ SWcacc (fun _ => ?_)
        clear hK K
        refine wpAnyH_take (i := 9) (oi := ⟨_, _, _, _, _, _⟩) (v := .tuple #[aggU q.list, .string lf]) rfl (by kernel_rfl) (by kernel_rfl) (by kernel_rfl) (fun _ _ _ h => h) (Or.inl ⟨wanted_none rfl, fun w' hSw => ?_⟩) SWcacc ?_
        · go_simp
        try simp only [Act.put, List.setIfInBounds_toArray, List.set_cons_zero, List.set_cons_succ]
        refine wpAnyH_take (i := 10) (oi := ⟨_, _, _, _, _, _⟩) (v := aggU q.list) rfl (by kernel_rfl) (by kernel_rfl) (by kernel_rfl) (fun _ _ _ h => h) (Or.inl ⟨wanted_none rfl, fun w' hSw => ?_⟩) SWcacc ?_
        · go_simp
        try simp only [Act.put, List.setIfInBounds_toArray, List.set_cons_zero, List.set_cons_succ]
        refine wpAnyH_take (i := 11) (oi := ⟨_, _, _, _, _, _⟩) (v := .string lf) rfl (by kernel_rfl) (by kernel_rfl) (by kernel_rfl) (fun _ _ _ h => h) (Or.inl ⟨wanted_none rfl, fun w' hSw => ?_⟩) SWcacc ?_
        · go_simp
        try simp only [Act.put, List.setIfInBounds_toArray, List.set_cons_zero, List.set_cons_succ]
        refine wpAnyH_ready (rs := [13]) (by kernel_rfl) (by simp) (AllReadyH.cons (o := ⟨_, _, _, _, _, _⟩) rfl (fun K hK => ?_) AllReadyH.nil)
        rewrite [if_pos (wanted_none rfl)]
        with_reducible refine wp_store_mid 128 (.tmp 3) (.tmp 21) (by with_unfolding_all rfl) b 0 (us q.list).toArray (by with_unfolding_all rfl) (by with_unfolding_all rfl) (by with_unfolding_all exact AWcacc.ths) (by with_unfolding_all exact Tryd.sizeA8) (us_one _) ?_
        have F9 : ArrU (Wcacc.setCells b 0 (us q.list)) b q.list ∧ Below w1.heap.size w1 (Wcacc.setCells b 0 (us q.list)) := ⟨AWcacc.put rfl, SWcacc.trans (Lib.below_setCells_w hb1 _ _ _)⟩
        dsimp only
        generalize Wcacc.setCells b 0 (us q.list) = w9 at *
        refine hK.out _ _ F9.2 (fun _ => ?_)
        clear hK K
        refine wpAnyH_ready (rs := [14]) (by kernel_rfl) (by simp) (AllReadyH.cons (o := ⟨_, _, _, _, _, _⟩) rfl (fun K hK => ?_) AllReadyH.nil)
        rewrite [if_pos (wanted_none rfl)]
        go_simp
        refine hK.out _ _ F9.2 (fun _ => ?_)
        clear hK K
        refine wpAnyH_done (by kernel_rfl) ?_ _
        go_wp2_with fail
        go_meet
        exact ⟨b, rfl, F9.1, F9.2, hb1⟩
    · as_aux_lemma =>
      rewrite [if_pos (wanted_none rfl)]
      with_reducible refine wp_allocU 128 (by with_unfolding_all rfl) 8 Tryd.infoA8 ?_
      intro Wa AWa hBWa hZWa
      have SWa : Below w1.heap.size w1 Wa := SW.trans (hBWa.mono SW.size)
      obtain ⟨b, hb⟩ : ∃ b, W.heap.size = b := ⟨_, rfl⟩
      have hb1 : w1.heap.size ≤ b := by rw [← hb]; exact SW.size
      rw [hb] at AWa ⊢
      simp only [Act.put, List.setIfInBounds_toArray, List.set_cons_zero, List.set_cons_succ]
      refine hK.out _ _ SWa (fun _ => ?_)
      clear hK K
      refine wpAnyH_ready (rs := [1]) (by kernel_rfl) (by simp) (AllReadyH.cons (o := ⟨_, _, _, _, _, _⟩) rfl (fun K hK => ?_) AllReadyH.nil)
      rewrite [if_pos (wanted_none rfl)]
      go_simp
      refine (wordsOf_any g c r s (z : Int) Wa (HI1.out.below SWa)).mono ?_
      rintro e Wac ⟨rfl, hBWac⟩
      have SWac : Below w1.heap.size w1 Wac := SWa.trans (hBWac.mono SWa.size)
      have AWac := AWa.below hBWac (AWa.lt (by decide))
      go_wp2_with fail
      refine hK.out _ _ SWac (fun _ => ?_)
      clear hK K
      refine wpAnyH_ready (rs := [6]) (by kernel_rfl) (by simp) (AllReadyH.cons (o := ⟨_, _, _, _, _, _⟩) rfl (fun K hK => ?_) AllReadyH.nil)
      rewrite [if_pos (wanted_none rfl)]
      go_simp
      refine (pad_any z Wac hz).mono ?_
      rintro e Wacc ⟨rfl, hBWacc⟩
      rw [hPd]
      have SWacc : Below w1.heap.size w1 Wacc := SWac.trans (hBWacc.mono SWac.size)
      have AWacc := AWac.below hBWacc (AWac.lt (by decide))
      go_wp2_with fail
      refine hK.out _ _ SWacc (fun _ => ?_)
      clear hK K
      refine wpAnyH_take (i := 7) (oi := ⟨_, _, _, _, _, _⟩) (v := .string u) rfl (by kernel_rfl) (by kernel_rfl) (by kernel_rfl) (fun _ _ _ h => h) (Or.inl ⟨wanted_none rfl, fun w' hSw => ?_⟩) SWacc ?_
      · go_simp
      try simp only [Act.put, List.setIfInBounds_toArray, List.set_cons_zero, List.set_cons_succ]
      refine wpAnyH_ready (rs := [8]) (by kernel_rfl) (by simp) (AllReadyH.cons (o := ⟨_, _, _, _, _, _⟩) rfl (fun K hK => ?_) AllReadyH.nil)
      rewrite [if_pos (wanted_none rfl)]
      go_simp
      refine (hbk Wacc (HK1.out.below SWacc hk1) (Nat.lt_of_lt_of_le hk1 SWacc.size)).mono ?_
      rintro e Waccc ⟨rfl, hBWaccc⟩
      have SWaccc : Below w1.heap.size w1 Waccc := SWacc.trans (hBWaccc.mono SWacc.size)
      have AWaccc := AWacc.below hBWaccc (AWacc.lt (by decide))
      go_wp2_with fail
      refine hK.out _ _ SWaccc (fun _ => ?_)
      clear hK K
      refine wpAnyH_take (i := 9) (oi := ⟨_, _, _, _, _, _⟩) (v := .tuple #[aggU q.list, .string lf]) rfl (by kernel_rfl) (by kernel_rfl) (by kernel_rfl) (fun _ _ _ h => h) (Or.inl ⟨wanted_none rfl, fun w' hSw => ?_⟩) SWaccc ?_
      · go_simp
      try simp only [Act.put, List.setIfInBounds_toArray, List.set_cons_zero, List.set_cons_succ]
      refine wpAnyH_take (i := 10) (oi := ⟨_, _, _, _, _, _⟩) (v := aggU q.list) rfl (by kernel_rfl) (by kernel_rfl) (by kernel_rfl) (fun _ _ _ h => h) (Or.inl ⟨wanted_none rfl, fun w' hSw => ?_⟩) SWaccc ?_
      · go_simp
      try simp only [Act.put, List.setIfInBounds_toArray, List.set_cons_zero, List.set_cons_succ]
      refine wpAnyH_take (i := 11) (oi := ⟨_, _, _, _, _, _⟩) (v := .string lf) rfl (by kernel_rfl) (by kernel_rfl) (by kernel_rfl) (fun _ _ _ h => h) (Or.inl ⟨wanted_none rfl, fun w' hSw => ?_⟩) SWaccc ?_
      · go_simp
      try simp only [Act.put, List.setIfInBounds_toArray, List.set_cons_zero, List.set_cons_succ]
      refine wpAnyH_ready (rs := [13]) (by kernel_rfl) (by simp) (AllReadyH.cons (o := ⟨_, _, _, _, _, _⟩) rfl (fun K hK => ?_) AllReadyH.nil)
      rewrite [if_pos (wanted_none rfl)]
      with_reducible refine wp_store_mid 128 (.tmp 3) (.tmp 21) (by with_unfolding_all rfl) b 0 (us q.list).toArray (by with_unfolding_all rfl) (by with_unfolding_all rfl) (by with_unfolding_all exact AWaccc.ths) (by with_unfolding_all exact Tryd.sizeA8) (us_one _) ?_
      have F9 : ArrU (Waccc.setCells b 0 (us q.list)) b q.list ∧ Below w1.heap.size w1 (Waccc.setCells b 0 (us q.list)) := ⟨AWaccc.put rfl, SWaccc.trans (Lib.below_setCells_w hb1 _ _ _)⟩
      dsimp only
      generalize Waccc.setCells b 0 (us q.list) = w9 at *
      refine hK.out _ _ F9.2 (fun _ => ?_)
      clear hK K
      refine wpAnyH_ready (rs := [14]) (by kernel_rfl) (by simp) (AllReadyH.cons (o := ⟨_, _, _, _, _, _⟩) rfl (fun K hK => ?_) AllReadyH.nil)
      rewrite [if_pos (wanted_none rfl)]
      go_simp
      refine hK.out _ _ F9.2 (fun _ => ?_)
      clear hK K
      refine wpAnyH_done (by kernel_rfl) ?_ _
      go_wp2_with fail
      go_meet
      exact ⟨b, rfl, F9.1, F9.2, hb1⟩
  case rest =>
    obtain ⟨b, rfl, hA, hB, hbl⟩ := hcut
    clear V1 p1 p2 HI1 HK1 hrt hbk hu
    have hz1 := hB.size
    go_wp2_with (first
      | (at_make; refine wpList_make_cap wc rfl _ _ 80 rfl 5 Tryd.underlying80 Tryd.infoU8 _ _ 0 32 rfl rfl (by omega) (by omega) ?_; intro w2 hO2 hB2; have hA2 := hA.below hB2 (hA.lt (by show 0 < 8; omega)))
      | (with_reducible refine wpList_loadU (w := w2) (by with_unfolding_all rfl) 128 (.tmp 3) (by with_unfolding_all rfl) b q.list (by with_unfolding_all rfl) hA2 8 127 Tryd.undA8 Tryd.sizeA8 (by with_unfolding_all rfl) ?_))
    obtain ⟨b7, hb7⟩ : ∃ b7, wc.heap.size = b7 := ⟨_, rfl⟩
    have HO : Hid (w2.ownsRow b7 5 1 (.slice (some ⟨b7, 0, none⟩) 0 32) (4 * 0) (bvs (digs8 q 0))) := by rw [← hb7]; exact hO2
    have HBw : Hid (Below w.heap.size w w2 ∧ b7 ≤ w2.heap.size ∧ w.heap.size ≤ b7) := ⟨(HB.out.1.trans (hB.mono (by have := HB.out.2; omega))).trans (hB2.mono (by have := HB.out.2; omega)), by rw [← hb7]; exact hB2.size, by have := HB.out.2; omega⟩
    rw [hb7]
    clear hO2 hB2 hA2 hA hB HB hbl
    go_loopw [5, 25] (fun v i wr => ∃ k : Nat, i = .int .i64 (k : Int) ∧ k ≤ 8 ∧ wr.ownsRow b7 5 1 v (4 * k) (bvs (digs8 q k)) ∧ Below b7 w2 wr) (fun _ i _ => 8 - (intOf i).toNat)
    case atStart => exact ⟨0, rfl, Nat.zero_le _, HO.out, Below.refl _ _⟩
    case round =>
      clear HO
      obtain ⟨k, rfl, hk, hO, hB⟩ := hrel
      have hzr := hB.size
      have hbz := HBw.out.2.1
      by_cases hlt : k < 8
      · as_aux_lemma =>
        have hix := idx8 q hlt
        have HDS : Hid (True → digs8 q (k + 1) = digs8 q k ++ dig4 (q.at k)) := fun _ => digs8_succ q hlt
        obtain ⟨x, hx⟩ : ∃ x, q.at k = x := ⟨_, rfl⟩
        rw [hx] at hix HDS
        have HCS : Hid ((bvs (dig4 x)).toArray = #[.int .u8 (((sr x 24).toNat % 256 : Nat) : Int), .int .u8 (((sr x 16).toNat % 256 : Nat) : Int), .int .u8 (((sr x 8).toNat % 256 : Nat) : Int), .int .u8 ((x.toNat % 256 : Nat) : Int)]) := dig4_sr x
        have c3 := fun (w0 : World) => U_to_u8 (P := Tryd.prog) w0 127 5 (sr x 24) Tryd.underlying127 Tryd.underlying5
        have c2 := fun (w0 : World) => U_to_u8 (P := Tryd.prog) w0 127 5 (sr x 16) Tryd.underlying127 Tryd.underlying5
        have c1 := fun (w0 : World) => U_to_u8 (P := Tryd.prog) w0 127 5 (sr x 8) Tryd.underlying127 Tryd.underlying5
        have c0 := fun (w0 : World) => U_to_u8 (P := Tryd.prog) w0 127 5 x Tryd.underlying127 Tryd.underlying5
        obtain ⟨y3, g3⟩ : ∃ y, (sr x 24).toNat % 256 = y := ⟨_, rfl⟩
        obtain ⟨y2, g2⟩ : ∃ y, (sr x 16).toNat % 256 = y := ⟨_, rfl⟩
        obtain ⟨y1, g1⟩ : ∃ y, (sr x 8).toNat % 256 = y := ⟨_, rfl⟩
        obtain ⟨y0, g0⟩ : ∃ y, x.toNat % 256 = y := ⟨_, rfl⟩
        rw [g3, g2, g1, g0] at HCS
        rw [g3] at c3
        rw [g2] at c2
        rw [g1] at c1
        rw [g0] at c0
        have HLn : Hid ((dig4 x).length = 4) := rfl
        have lk : (k : Int) < 8 := by omega
        have l0 : (0 : Int) ≤ k := by omega
        clear hx g3 g2 g1 g0
        obtain ⟨D, hD⟩ : ∃ D, digs8 q k = D := ⟨_, rfl⟩
        rw [hD] at hO HDS
        generalize aggU q.list = ag at *
        go_wp2_with (first
          | (at_builtin; refine wpList_append_bytes rfl _ _ 80 rfl b7 5 Tryd.underlying80 Tryd.infoU8 u5 D (4 * k) rfl hO (dig4 x) _ HCS.out 4 4 HLn.out (by omega) rfl (by omega) (by omega) ?_; intro g9 c9 w9 hO9 hB9))
        go_roundw
        case rel => exact ⟨k + 1, by go_num, hlt, by rw [HDS.out trivial]; exact hO9, hB.trans hB9⟩
        case measure => simp [intOf]; omega
      · as_aux_lemma =>
        obtain rfl : k = 8 := by omega
        have hconv := run_conv_own 80 Tryd.underlying80 Tryd.underlying5 hO 9 Tryd.underlying9
        clear hO
        go_wp2
        go_ret
        exact ⟨rfl, HBw.out.1.trans (hB.mono HBw.out.2.2)⟩
end Go.Proofs.YtchfpiadfmnphaaDoor
