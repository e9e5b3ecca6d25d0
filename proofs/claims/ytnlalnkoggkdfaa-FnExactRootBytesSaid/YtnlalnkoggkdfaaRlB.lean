/- The bytes of a root, on the program's side. -/
import Derived.Test.YtnlalnkoggkdfaaRlI
namespace Go.Proofs.Ytnlalnkoggkdfaa
open Go.RowKit
set_option linter.unusedVariables false

structure KpRY (w : World) (v e : Int) (a : Option Addr) (c : Nat) (rs : List RoleV) (G5 : Nat) (nd : Int) (ka : Option Addr) (m kc : Nat) (w' : World) : Prop where
  kp : KpRt w w.heap.size v e a 5 c rs w'
  row : RowV w' G5 (rlv nd ka m kc)
theorem rlv_ne2 (z : Int) (a : Option Addr) (n c : Nat) : rlv z a n c ≠ [] := by simp [rlv]
theorem KpRY.start {w w' : World} {v e : Int} {a : Option Addr} {c : Nat} {rs : List RoleV} (nd : Int) (ka : Option Addr) (m kc : Nat) (h : Hid (KpRt w w.heap.size v e a 5 c rs w')) (ty : TypeId) : Hid (KpRY w v e a c rs w'.heap.size nd ka m kc (w'.alloc (.cells #[.int .i64 nd, .slice ka m kc] ty))) :=
  ⟨(KpRt.call h (below_alloc _ _)).out, RowV.new w' (rlv nd ka m kc) ty⟩
theorem KpRY.call {w w' w2 : World} {v e : Int} {a : Option Addr} {c : Nat} {rs : List RoleV} {G5 : Nat} {nd : Int} {ka : Option Addr} {m kc : Nat} (h : Hid (KpRY w v e a c rs G5 nd ka m kc w')) (hb : Below w'.heap.size w' w2) : Hid (KpRY w v e a c rs G5 nd ka m kc w2) :=
  ⟨(KpRt.call h.out.kp hb).out, h.out.row.below hb (h.out.row.lt (rlv_ne2 _ _ _ _))⟩
theorem KpRY.drew {w w' : World} {v e : Int} {a : Option Addr} {c : Nat} {rs : List RoleV} {G5 : Nat} {nd : Int} {ka : Option Addr} {m kc : Nat} (h : Hid (KpRY w v e a c rs G5 nd ka m kc w')) : Hid (KpRY w v e a c rs G5 nd ka m kc w'.drew) := ⟨(KpRt.drew h.out.kp).out, h.out.row.drew⟩
theorem KpRY.kpH {w w' : World} {v e : Int} {a : Option Addr} {c : Nat} {rs : List RoleV} {G5 : Nat} {nd : Int} {ka : Option Addr} {m kc : Nat} (h : Hid (KpRY w v e a c rs G5 nd ka m kc w')) : Hid (KpRt w w.heap.size v e a 5 c rs w') := h.out.kp
theorem KpRY.two {w w' : World} {v e : Int} {a : Option Addr} {c : Nat} {rs : List RoleV} {G5 : Nat} {nd : Int} {ka : Option Addr} {m kc : Nat} (h : Hid (KpRY w v e a c rs G5 nd ka m kc w')) : w'.cell? ⟨G5, 0, none⟩ = some (.int .i64 nd) ∧ w'.cell? ⟨G5, 1, none⟩ = some (.slice ka m kc) ∧ Hid (KpRY w v e a c rs G5 nd ka m kc w') := ⟨h.out.row.rl.1, h.out.row.rl.2, h⟩
theorem pair_ai (w : World) (x y : Int) (ty : TypeId) : AI (w.alloc (.cells #[.int .i64 x, .int .i64 y] ty)) (some ⟨w.heap.size, 0, none⟩) [x, y] := RowV.ai (RowV.new w (ivs [x, y]) ty)
theorem wanted_none {o : Oper} {y : Nat → Option Bool} (h : o.guard = none) : Region.wanted o y = true := by simp [Region.wanted, h]
theorem wp_build2 {o : Oper} {a : Act} {w : World} {K : Act → World → Prop} {Q : Exit → Act → World → Prop} (x0 x1 : Operand)
    (ho : o.op = .buildSlice 91 2 #[(0, x0), (1, x1)]) (v0 v1 : Int) (e0 : a.eval x0 = .int .i64 v0) (e1 : a.eval x1 = .int .i64 v1)
    (h : ∀ w', AI w' (some ⟨w.heap.size, 0, none⟩) [v0, v1] → Below w.heap.size w w' → K (a.put o.dst (.slice (some ⟨w.heap.size, 0, none⟩) 2 2)) w') : o.wp Try.prog a w K Q := by
  obtain ⟨i0, hi, hz0, hz1, hz2⟩ := info_parts Try.infoNum
  refine wp_buildSlice 91 2 2 _ ho (ivs [v0, v1]).toArray i0 (.int .i64 0) Try.underlying91 hi hz0 (by rw [hz1]; omega) (by rw [hz1]; omega) ?_ (h _ (RowV.ai (RowV.new w (ivs [v0, v1]) 2)) ((Below.refl _ _).alloc (Nat.le_refl _) _))
  rw [hz1]
  simp only [List.map_toArray, List.map, e0, e1]
  exact Great.fill_flat (ivs [v0, v1]) _ (fun v hv => by simp [ivs] at hv; rcases hv with h | h <;> (rw [h]; rfl)) (by simp [ivs])
set_option maxRecDepth 100000 in
set_option maxHeartbeats 4000000 in
theorem implRootB (v e : Int) (a : Option Addr) (c n : Nat) (rs : List RoleV) (w : World) (hn : rs.length = n) (h : RlsAt w a rs) (hnm : n ≤ maxLen) (hw : ∀ r ∈ rs, RoleW r) (hv : I64 v) (he : I64 e) :
    Calls Try.prog 20 #[.agg #[.int .i64 v, .int .i64 e, .slice a n c]] w fun r w' => r = .returned (.string (rootBy v e rs)) ∧ Below w.heap.size w w' := by
  have HN : Hid (rs.length = n) := hn
  have HA : Hid (RlsAt w a rs) := h
  have HW : Hid (∀ r ∈ rs, RoleW r) := hw
  have hR : ∀ w0, Hid (KpRt w w.heap.size v e a n c rs w0) → Calls Try.prog 17 #[.agg #[.int .i64 v, .int .i64 e, .slice a n c]] w0 fun r w' => r = .returned (.bool (rootB v e rs)) ∧ Below w0.heap.size w0 w' := fun w0 h0 => implRootR v e a c n rs w0 hn h0.out.rl hnm hw
  unfold maxLen at hnm
  have HR : Hid (rootBy v e rs = if rootB v e rs then rootT v e rs else ⟨#[]⟩) := rfl
  obtain ⟨R, hRR⟩ : ∃ R, rootBy v e rs = R := ⟨_, rfl⟩
  rw [hRR] at HR ⊢
  clear h hn hw hRR
  cases hb : rootB v e rs with
  | false =>
    have HF : Hid (R = ⟨#[]⟩) := by show _ = _; rw [HR.out, hb]; rfl
    rw [hb] at hR
    clear HR hb
    go_enter Try.func20, Try.ntmps20
    go_wp2_with (first
      | (with_reducible refine wpList_boxV (w := w) (by with_unfolding_all rfl) 29 (.tmp 0) (by with_unfolding_all rfl) (rtv v e a n c) (by with_unfolding_all rfl) ?_; intro w1 hA1 hB1 hS1; obtain ⟨p0, p1, p2⟩ := hA1.rt3; clear hS1)
      | (go_at_call 17; refine (hR w1 (KpRt.mk hB1 hA1 (HA.out.below hB1))).mono ?_; rintro r w2 ⟨rfl, hB2⟩))
    go_ret
    exact ⟨by rw [HF.out]; rfl, hB1.trans (hB2.mono hB1.size)⟩
  | true =>
  obtain ⟨h5, hro⟩ := rootB_of hb
  have HRo : Hid (∀ k (hk : k < rs.length), roleB rs[k].need rs[k].ks = true) := hro
  have HF : Hid (R = putRls (⟨#[82]⟩ ++ putKs ⟨#[]⟩ [v, e]) (rs.drop 0)) := by show _ = _; rw [HR.out, hb, putKs_app, app_nil]; rfl
  rw [hb] at hR
  rw [HN.out] at h5
  subst h5
  have hP : ∀ w0 a, AI w0 a [v, e] → Calls Try.prog 66 #[.slice a 2 2] w0 fun r w' => r = .returned (.string (putKs ⟨#[]⟩ [v, e])) ∧ Below w0.heap.size w0 w' := fun w0 a h0 => putNumsI a 2 2 [v, e] w0 rfl h0 (by omega) (by simp [hv, he])
  have hz : (putKs ⟨#[]⟩ [v, e]).size ≤ 20 := putKs_size ⟨#[]⟩ [v, e]
  generalize putKs ⟨#[]⟩ [v, e] = X at *
  obtain ⟨Y, hY⟩ : ∃ Y, (⟨#[82]⟩ : ByteArray) ++ X = Y := ⟨_, rfl⟩
  have hYs : Y.size ≤ 21 := by rw [← hY, ByteArray.size_append]; show 1 + _ ≤ _; omega
  rw [hY] at HF
  have y1 : ¬ 9223372036854775807 < 1 + X.size := by omega
  clear HR hb hro
  go_enter Try.func20, Try.ntmps20
  go_wp2_with (first
    | (with_reducible refine wpList_boxV (w := w) (by with_unfolding_all rfl) 29 (.tmp 0) (by with_unfolding_all rfl) (rtv v e a 5 c) (by with_unfolding_all rfl) ?_; intro w1 hA1 hB1 hS1; obtain ⟨p0, p1, p2⟩ := hA1.rt3; clear hS1)
    | (go_at_call 17; refine (hR w1 (KpRt.mk hB1 hA1 (HA.out.below hB1))).mono ?_; rintro r w2 ⟨rfl, hB2⟩; have HS2 : Hid (KpRt w w.heap.size v e a 5 c rs w2) := KpRt.call (show Hid (KpRt w w.heap.size v e a 5 c rs w1) from KpRt.mk hB1 hA1 (HA.out.below hB1)) hB2; obtain ⟨q0, q1, _⟩ := KpRt.three HS2)
    | (with_reducible refine wpList_build2 (w := w2) (by with_unfolding_all rfl) (.tmp 10) (.tmp 12) (by with_unfolding_all rfl) v e (by with_unfolding_all rfl) (by with_unfolding_all rfl) ?_; intro w3 hA3 hB3; have HS3 := KpRt.call HS2 hB3)
    | (go_at_call 66; refine (hP _ _ hA3).mono ?_; rintro r w4 ⟨rfl, hB4⟩; have HS4 := KpRt.call HS3 hB4; have r2 := (HS4.out).row.rt3.2.2))
  clear HS3 HS2 p0 p1 p2 q0 q1 hA1 hB1 hB2 hB3 hA3 hR HA hP y1 hY hz
  go_loopw [3, 19] (fun vt vi wr => ∃ (i : Nat) (T : ByteArray), vi = .int .i64 (i : Int) ∧ vt = .string T ∧ i ≤ 5 ∧ T.size ≤ 21 + 120 * i ∧ Hid (R = putRls T (rs.drop i)) ∧ Hid (KpRt w w.heap.size v e a 5 c rs wr)) (fun _ vi _ => 5 - (intOf vi).toNat)
  case atStart => exact ⟨0, Y, rfl, rfl, Nat.zero_le _, by omega, HF, HS4⟩
  case round =>
  clear HF HS4 hYs r2
  obtain ⟨i, T, rfl, rfl, hi, hTs, HT, HS⟩ := hrel
  by_cases hlt : i < 5
  case neg =>
    obtain rfl : i = 5 := by omega
    have HE : Hid (R = T) := by
      show _ = _
      have := HT.out
      rw [← HN.out, putRls_end] at this
      exact this
    go_wp2
    go_ret
    exact ⟨by rw [HE.out]; rfl, HS.out.below⟩
  have hil : i < rs.length := by have := HN.out; omega
  obtain ⟨b, o, rfl, hc0, hc1, hai⟩ := HS.out.rl i hil
  have HAi : Hid (∀ w0, Hid (KpRt w w.heap.size v e (some ⟨b, o, none⟩) 5 c rs w0) → AI w0 rs[i].ka rs[i].ks) := fun w0 h0 => by
    obtain ⟨_, _, _, _, _, h4⟩ := h0.out.rl i hil
    exact h4
  obtain ⟨x1, x2, x3⟩ := HW.out rs[i] (List.getElem_mem hil)
  have hm8 := roleB_len (HRo.out i hil)
  have HT2 : Hid (R = putRls (T ++ (putKs ⟨#[]⟩ [rs[i].need, (rs[i].ks.length : Int)] ++ putKs ⟨#[]⟩ rs[i].ks)) (rs.drop (i + 1))) := by
    show _ = _
    rw [HT.out, putRls_step hil, putKs_app, app_nil, putKs_app, putKs_app, app_nil]
    rfl
  have hK2 : ∀ w0, Hid (KpRt w w.heap.size v e (some ⟨b, o, none⟩) 5 c rs w0) → Calls Try.prog 66 #[.slice rs[i].ka rs[i].ks.length rs[i].kc] w0 fun r w' => r = .returned (.string (putKs ⟨#[]⟩ rs[i].ks)) ∧ Below w0.heap.size w0 w' := fun w0 h0 => putNumsI rs[i].ka rs[i].kc _ rs[i].ks w0 rfl (HAi.out w0 h0) (by omega) x3
  have hzk := putKs_size ⟨#[]⟩ rs[i].ks
  rw [show (⟨#[]⟩ : ByteArray).size = 0 from rfl] at hzk
  obtain ⟨nd, hnd⟩ : ∃ nd, rs[i].need = nd := ⟨_, rfl⟩
  obtain ⟨ka, hka⟩ : ∃ ka, rs[i].ka = ka := ⟨_, rfl⟩
  obtain ⟨kc, hkc⟩ : ∃ kc, rs[i].kc = kc := ⟨_, rfl⟩
  obtain ⟨m, hm⟩ : ∃ m, rs[i].ks.length = m := ⟨_, rfl⟩
  obtain ⟨Y2, hY2⟩ : ∃ Y2, putKs ⟨#[]⟩ rs[i].ks = Y2 := ⟨_, rfl⟩
  rw [hnd, hm, hY2] at HT2
  rw [hka, hkc, hm, hY2] at hK2
  rw [hnd] at hc0 x1
  rw [hka, hkc, hm] at hc1
  rw [hm, hY2] at hzk
  rw [hm] at hm8
  have hP : ∀ w0 a, AI w0 a [nd, (m : Int)] → Calls Try.prog 66 #[.slice a 2 2] w0 fun r w' => r = .returned (.string (putKs ⟨#[]⟩ [nd, (m : Int)])) ∧ Below w0.heap.size w0 w' := fun w0 a h0 => putNumsI a 2 2 [nd, (m : Int)] w0 rfl h0 (by omega) (by simp [x1, i64_len (show m ≤ 9223372036854775807 by omega)])
  have hz : (putKs ⟨#[]⟩ [nd, (m : Int)]).size ≤ 20 := putKs_size ⟨#[]⟩ [nd, (m : Int)]
  generalize putKs ⟨#[]⟩ [nd, (m : Int)] = X2 at *
  obtain ⟨Z2, hZ2⟩ : ∃ Z2, X2 ++ Y2 = Z2 := ⟨_, rfl⟩
  have hZs : Z2.size ≤ 100 := by rw [← hZ2, ByteArray.size_append]; omega
  obtain ⟨T3, hT3⟩ : ∃ T3, T ++ Z2 = T3 := ⟨_, rfl⟩
  have hT3s : T3.size ≤ 21 + 120 * (i + 1) := by rw [← hT3, ByteArray.size_append]; omega
  rw [hZ2, hT3] at HT2
  have y1 : ¬ 9223372036854775807 < X2.size + Y2.size := by omega
  have y2 : ¬ 9223372036854775807 < T.size + Z2.size := by omega
  have li : (i : Int) < 5 := by omega
  have l0 : (0 : Int) ≤ i := by omega
  clear hai hnd hka hkc hm hY2 x1 x2 x3 HT hil HAi
  have HY1 := KpRY.start nd ka m kc HS 93
  go_wp2_with fail
  generalize hG5 : wr.heap.size = G5 at *
  generalize wr.alloc (.cells #[.int .i64 nd, .slice ka m kc] 93) = w1 at *
  have HYd := KpRY.drew HY1
  clear HY1 HS hG5 hc0 hc1
  refine wp_region_held_drew (S := fun w' => w'.cell? ⟨G5, 0, none⟩ = some (.int .i64 nd) ∧ w'.cell? ⟨G5, 1, none⟩ = some (.slice ka m kc) ∧ Hid (KpRY w v e (some ⟨b, o, none⟩) c rs G5 nd ka m kc w')) (by kernel_rfl) (KpRY.two HYd) (fun hHeld => ?_)
  refine wpAnyH_take (i := 0) (oi := ⟨_, _, _, _, _, _⟩) (v := .string T) rfl (by kernel_rfl) (by kernel_rfl) (by kernel_rfl) (fun _ _ _ h => h) (Or.inl ⟨wanted_none rfl, fun w' hSw => ?_⟩) hHeld ?_
  · obtain ⟨c0, c1, _⟩ := hSw
    go_simp
  try simp only [Act.put, List.setIfInBounds_toArray, List.set_cons_zero, List.set_cons_succ]
  refine wpAnyH_take (i := 1) (oi := ⟨_, _, _, _, _, _⟩) (v := .pointer (some ⟨G5, 0, none⟩)) rfl (by kernel_rfl) (by kernel_rfl) (by kernel_rfl) (fun _ _ _ h => h) (Or.inl ⟨wanted_none rfl, fun w' hSw => ?_⟩) hHeld ?_
  · obtain ⟨c0, c1, _⟩ := hSw
    go_simp
  try simp only [Act.put, List.setIfInBounds_toArray, List.set_cons_zero, List.set_cons_succ]
  refine wpAnyH_take (i := 2) (oi := ⟨_, _, _, _, _, _⟩) (v := .int .i64 nd) rfl (by kernel_rfl) (by kernel_rfl) (by kernel_rfl) (fun _ _ _ h => h) (Or.inl ⟨wanted_none rfl, fun w' hSw => ?_⟩) hHeld ?_
  · obtain ⟨c0, c1, _⟩ := hSw
    go_simp
  try simp only [Act.put, List.setIfInBounds_toArray, List.set_cons_zero, List.set_cons_succ]
  refine wpAnyH_take (i := 3) (oi := ⟨_, _, _, _, _, _⟩) (v := .pointer (some ⟨G5, 1, none⟩)) rfl (by kernel_rfl) (by kernel_rfl) (by kernel_rfl) (fun _ _ _ h => h) (Or.inl ⟨wanted_none rfl, fun w' hSw => ?_⟩) hHeld ?_
  · obtain ⟨c0, c1, _⟩ := hSw
    go_simp
  try simp only [Act.put, List.setIfInBounds_toArray, List.set_cons_zero, List.set_cons_succ]
  refine wpAnyH_take (i := 4) (oi := ⟨_, _, _, _, _, _⟩) (v := .slice ka m kc) rfl (by kernel_rfl) (by kernel_rfl) (by kernel_rfl) (fun _ _ _ h => h) (Or.inl ⟨wanted_none rfl, fun w' hSw => ?_⟩) hHeld ?_
  · obtain ⟨c0, c1, _⟩ := hSw
    go_simp
  try simp only [Act.put, List.setIfInBounds_toArray, List.set_cons_zero, List.set_cons_succ]
  refine wpAnyH_take (i := 5) (oi := ⟨_, _, _, _, _, _⟩) (v := .int .i64 (m : Int)) rfl (by kernel_rfl) (by kernel_rfl) (by kernel_rfl) (fun _ _ _ h => h) (Or.inl ⟨wanted_none rfl, fun w' hSw => ?_⟩) hHeld ?_
  · obtain ⟨c0, c1, _⟩ := hSw
    go_simp
  try simp only [Act.put, List.setIfInBounds_toArray, List.set_cons_zero, List.set_cons_succ]
  refine wpAnyH_take (i := 8) (oi := ⟨_, _, _, _, _, _⟩) (v := .pointer (some ⟨G5, 1, none⟩)) rfl (by kernel_rfl) (by kernel_rfl) (by kernel_rfl) (fun _ _ _ h => h) (Or.inl ⟨wanted_none rfl, fun w' hSw => ?_⟩) hHeld ?_
  · obtain ⟨c0, c1, _⟩ := hSw
    go_simp
  try simp only [Act.put, List.setIfInBounds_toArray, List.set_cons_zero, List.set_cons_succ]
  refine wpAnyH_take (i := 9) (oi := ⟨_, _, _, _, _, _⟩) (v := .slice ka m kc) rfl (by kernel_rfl) (by kernel_rfl) (by kernel_rfl) (fun _ _ _ h => h) (Or.inl ⟨wanted_none rfl, fun w' hSw => ?_⟩) hHeld ?_
  · obtain ⟨c0, c1, _⟩ := hSw
    go_simp
  try simp only [Act.put, List.setIfInBounds_toArray, List.set_cons_zero, List.set_cons_succ]
  generalize w1.drew = w6 at *
  refine wpAnyH_ready (rs := [6]) (by kernel_rfl) (by simp) (AllReadyH.cons (o := ⟨_, _, _, _, _, _⟩) rfl (fun K hK => ?_) AllReadyH.nil)
  rewrite [if_pos (wanted_none rfl)]
  with_reducible refine wp_build2 (w := w6) (.tmp 25) (.tmp 28) (by with_unfolding_all rfl) nd (m : Int) (by with_unfolding_all rfl) (by with_unfolding_all rfl) ?_
  intro w7 hA7 hB7
  have HY7 := KpRY.call HYd hB7
  refine hK.out _ _ (KpRY.two HY7) (fun hHeld => ?_)
  clear hK K
  try simp only [Act.put, List.setIfInBounds_toArray, List.set_cons_zero, List.set_cons_succ]
  refine wpAnyH_ready (rs := [7]) (by kernel_rfl) (by simp) (AllReadyH.cons (o := ⟨_, _, _, _, _, _⟩) rfl (fun K hK => ?_) AllReadyH.nil)
  rewrite [if_pos (wanted_none rfl)]
  go_simp
  refine (hP _ _ hA7).mono ?_
  rintro r w8 ⟨rfl, h8⟩
  have HY8 := KpRY.call HY7 h8
  go_wp2_with fail
  refine hK.out _ _ (KpRY.two HY8) (fun hHeld => ?_)
  clear hK K
  try simp only [Act.put, List.setIfInBounds_toArray, List.set_cons_zero, List.set_cons_succ]
  refine wpAnyH_ready (rs := [10]) (by kernel_rfl) (by simp) (AllReadyH.cons (o := ⟨_, _, _, _, _, _⟩) rfl (fun K hK => ?_) AllReadyH.nil)
  rewrite [if_pos (wanted_none rfl)]
  go_simp
  refine (hK2 _ (KpRY.kpH HY8)).mono ?_
  rintro r w9 ⟨rfl, h9⟩
  have HY9 := KpRY.call HY8 h9
  go_wp2_with fail
  refine hK.out _ _ (KpRY.two HY9) (fun hHeld => ?_)
  clear hK K
  try simp only [Act.put, List.setIfInBounds_toArray, List.set_cons_zero, List.set_cons_succ]
  refine wpAnyH_ready (rs := [11]) (by kernel_rfl) (by simp) (AllReadyH.cons (o := ⟨_, _, _, _, _, _⟩) rfl (fun K hK => ?_) AllReadyH.nil)
  rewrite [if_pos (wanted_none rfl)]
  go_simp
  refine hK.out _ _ (KpRY.two HY9) (fun hHeld => ?_)
  clear hK K
  try simp only [Act.put, List.setIfInBounds_toArray, List.set_cons_zero, List.set_cons_succ]
  refine wpAnyH_ready (rs := [12]) (by kernel_rfl) (by simp) (AllReadyH.cons (o := ⟨_, _, _, _, _, _⟩) rfl (fun K hK => ?_) AllReadyH.nil)
  rewrite [if_pos (wanted_none rfl)]
  go_simp
  refine hK.out _ _ (KpRY.two HY9) (fun hHeld => ?_)
  clear hK K
  try simp only [Act.put, List.setIfInBounds_toArray, List.set_cons_zero, List.set_cons_succ]
  refine wpAnyH_ready (rs := [13]) (by kernel_rfl) (by simp) (AllReadyH.cons (o := ⟨_, _, _, _, _, _⟩) rfl (fun K hK => ?_) AllReadyH.nil)
  rewrite [if_pos (wanted_none rfl)]
  go_simp
  refine hK.out _ _ (KpRY.two HY9) (fun hHeld => ?_)
  clear hK K
  try simp only [Act.put, List.setIfInBounds_toArray, List.set_cons_zero, List.set_cons_succ]
  refine wpAnyH_done (by kernel_rfl) ?_ _
  have HZ9 := KpRY.kpH HY9
  clear HYd HY7 HY8 HY9 hHeld hP hK2 y1 y2
  go_wp2
  go_roundw
  case rel => exact ⟨i + 1, T3, by go_num, rfl, by omega, by omega, HT2, HZ9⟩
  case measure => simp [intOf]; omega
end Go.Proofs.Ytnlalnkoggkdfaa
