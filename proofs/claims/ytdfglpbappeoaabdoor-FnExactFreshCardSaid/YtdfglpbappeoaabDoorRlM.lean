/- Roles and roots turned to the program's, and held against others. -/
import Derived.Test.YtdfglpbappeoaabDoorRlL
import Derived.Deep.RegionHeld3
namespace Go.Proofs.YtdfglpbappeoaabDoor
open Go.RowKit
set_option linter.unusedVariables false

set_option maxRecDepth 100000 in
set_option maxHeartbeats 1000000 in
theorem toRl_any (nd : Int) (a : Option Addr) (c n : Nat) (ks : List Int) (w : World) (hn : ks.length = n) (h : AI w a ks) (hb : n ≤ 1048576) :
    Calls Tryd.prog 134 #[.agg #[.int .i64 nd, .slice a n c]] w fun e w' => ∃ g, e = .returned (.agg #[.int .i64 nd, .slice (some ⟨g, 0, none⟩) n n]) ∧ AI w' (some ⟨g, 0, none⟩) ks ∧ w.heap.size ≤ g ∧ Below w.heap.size w w' := by
  have HA : Hid (AI w a ks) := h
  have HTo : ∀ w0, AI w0 a ks → Calls Tryd.prog 156 #[.slice a n c] w0 fun e w' => e = .returned (.slice (some ⟨w0.heap.size, 0, none⟩) n n) ∧ IAt w' (some ⟨w0.heap.size, 0, none⟩) ks ∧ Below w0.heap.size w0 w' ∧ w0.heap.size < w'.heap.size := fun w0 h0 => toI_any a c n ks w0 hn h0 hb
  clear h hn
  go_enter Tryd.func134, Tryd.ntmps134
  go_wp2_with (first
    | (with_reducible refine wpList_boxV (w := w) (by with_unfolding_all rfl) 156 (.tmp 0) (by with_unfolding_all rfl) (rlv nd a n c) (by with_unfolding_all rfl) ?_; intro w1 hA1 hB1 hS1; have z1 : w.heap.size < w1.heap.size := (by omega); clear hS1)
    | (with_reducible refine wpList_allocV (w := w1) (by with_unfolding_all rfl) 161 (by with_unfolding_all rfl) (rlv 0 none 0 0) Tryd.infoRlz ?_; intro w2 hA2 hB2 hS2; have z2 : w1.heap.size < w2.heap.size := (by omega); clear hS2)
    | (with_reducible refine wpList_allocV (w := w2) (by with_unfolding_all rfl) 161 (by with_unfolding_all rfl) (rlv 0 none 0 0) Tryd.infoRlz ?_; intro w3 hA3 hB3 hS3; have z3 : w2.heap.size < w3.heap.size := (by omega); clear hS3; have V3 := (hA1.below hB2 z1).below hB3 (by omega); have R3 := hA2.below hB3 z2; have b03 : Below w.heap.size w w3 := (hB1.trans (hB2.mono (by omega))).trans (hB3.mono (by omega)); obtain ⟨q0, q1⟩ := V3.rl)
    | (with_reducible refine wpList_cellV (w := w3) (by with_unfolding_all rfl) 2 (.tmp 6) (.tmp 5) (by with_unfolding_all rfl) w2.heap.size 0 (rlv 0 none 0 0) (rlv nd none 0 0) (.int .i64 nd) (by with_unfolding_all rfl) (by with_unfolding_all rfl) rfl Tryd.size1Int hA3 (by decide) (by with_unfolding_all rfl) ?_; intro w4 hA4 hB4 hF4 hS4; have z4 : w2.heap.size < w4.heap.size := (by omega); clear hS4; have V4 := V3.below (hB4 _ (Nat.le_refl _)) (by omega); have R4 := R3.below (hB4 _ (Nat.le_refl _)) (by omega); have b04 : Below w.heap.size w w4 := b03.trans (hB4 _ (by omega)); obtain ⟨r0, r1⟩ := V4.rl)
    | (go_at_call 156; refine (HTo w4 (HA.out.below b04)).mono ?_; rintro e w5 ⟨rfl, hI5, hB5, hL5⟩; have V5 := V4.below hB5 (by omega); have A5 := hA4.below hB5 z4; have R5 := R4.below hB5 (by omega); have b05 : Below w.heap.size w w5 := b04.trans (hB5.mono (by omega)))
    | (with_reducible refine wpList_cellV (w := w5) (by with_unfolding_all rfl) 72 (.tmp 10) (.tmp 9) (by with_unfolding_all rfl) w2.heap.size 1 (rlv nd none 0 0) (rlv nd (some ⟨w4.heap.size, 0, none⟩) n n) (.slice (some ⟨w4.heap.size, 0, none⟩) n n) (by with_unfolding_all rfl) (by with_unfolding_all rfl) rfl Tryd.size1Is A5 (by simp [rlv]) (by with_unfolding_all rfl) ?_; intro w6 hA6 hB6 hF6 hS6; have z6 : w2.heap.size < w6.heap.size := (by omega); clear hS6; have R6 := R5.below (hB6 _ (Nat.le_refl _)) (by omega); have b06 : Below w.heap.size w w6 := b05.trans (hB6 _ (by omega)); have I6 := hI5.ai.other hF6 (by omega))
    | (with_reducible refine wpList_loadV (w := w6) (by with_unfolding_all rfl) 161 (.tmp 3) (by with_unfolding_all rfl) w2.heap.size (rlv nd (some ⟨w4.heap.size, 0, none⟩) n n) (by with_unfolding_all rfl) hA6 Tryd.undRl 2 Tryd.sizeRl (by with_unfolding_all rfl) ?_)
    | (with_reducible refine wpList_storeV (w := w6) (by with_unfolding_all rfl) 161 (.tmp 2) (.tmp 11) (by with_unfolding_all rfl) w1.heap.size (rlv 0 none 0 0) (rlv nd (some ⟨w4.heap.size, 0, none⟩) n n) (by with_unfolding_all rfl) (by with_unfolding_all rfl) R6 2 Tryd.sizeRl (by with_unfolding_all rfl) (by with_unfolding_all rfl) (rlv_one _ _ _ _) ?_; intro w7 hA7 hB7 hF7 hS7; have I7 := I6.other hF7 (by omega); have b07 : Below w.heap.size w w7 := b06.trans (hB7 _ (by omega))))
  exact bodyPost_ret (results_V (t := 161) rfl _ w1.heap.size _ rfl hA7 Tryd.undRl 2 Tryd.sizeRl rfl) rfl ⟨w4.heap.size, rfl, I7, by omega, b07⟩
def rlL (rs : List RoleV) : List (List Value) := rs.map fun r => rlv r.need r.ka r.ks.length r.kc
theorem rlL_len (rs : List RoleV) : (rlL rs).length = rs.length := List.length_map _
theorem rlL_get {rs : List RoleV} {i : Nat} (h : i < rs.length) : (rlL rs)[i]'(by rw [rlL_len]; exact h) = rlv rs[i].need rs[i].ka rs[i].ks.length rs[i].kc := by unfold rlL; rw [List.getElem_map]
theorem rlL_all (rs : List RoleV) : ∀ x ∈ rlL rs, x.length = 2 := fun x hx => by
  unfold rlL at hx
  obtain ⟨y, _, rfl⟩ := List.mem_map.1 hx
  rfl
theorem BldV.push {w : World} {g s n : Nat} {L : List (List Value)} {x : List Value} {d : Nat} (h : BldV w g s n L d) (hL : L.length = d) (hd : d < n) (hx : x.length = s) (hs : ∀ l ∈ L, l.length = s) : BldV (w.setCells g (d * s) x) g s n (L ++ [x]) (d + 1) := by
  refine ⟨World.there_setCells h.ths _ _ _, fun i hi hid => ?_⟩
  by_cases he : i = d
  · subst he
    have e : (L ++ [x])[i] = x := by rw [List.getElem_append_right (by omega)]; simp [hL]
    rw [e]
    refine World.rangeAt_setCells_same w g _ _ ?_
    rw [hx]
    exact there_part h.ths hd
  · have hid' : i < d := by omega
    have e : (L ++ [x])[i] = L[i]'(by omega) := List.getElem_append_left (by omega)
    rw [e]
    refine World.rangeAt_setCells_apart (h.rng i (by omega) hid') _ _ _ (.inr (.inl ?_))
    rw [hs _ (List.getElem_mem (by omega))]
    have : (i + 1) * s ≤ d * s := Nat.mul_le_mul_right s hid'
    rw [Nat.add_mul, Nat.one_mul] at this
    exact this
structure KpTR (w : World) (a : Option Addr) (rs : List RoleV) (g n : Nat) (rs' : List RoleV) (w' : World) : Prop where
  below : Below w.heap.size w w'
  rl : RlsAt w' a rs
  bld : BldV w' g 2 n (rlL rs') rs'.length
  ks : ∀ r ∈ rs', (∃ b, r.ka = some ⟨b, 0, none⟩ ∧ b ≠ g) ∧ AI w' r.ka r.ks
  lt : g < w'.heap.size
  ge : w.heap.size ≤ g
theorem KpTR.call {w w' w2 : World} {a : Option Addr} {rs rs' : List RoleV} {g n : Nat} (h : Hid (KpTR w a rs g n rs' w')) (hb : Below w'.heap.size w' w2) : Hid (KpTR w a rs g n rs' w2) :=
  ⟨h.out.below.trans (hb.mono h.out.below.size), h.out.rl.below hb, h.out.bld.below hb h.out.lt, fun r hr => ⟨(h.out.ks r hr).1, (h.out.ks r hr).2.below hb⟩, Nat.lt_of_lt_of_le h.out.lt hb.size, h.out.ge⟩
theorem KpTR.there {w w' : World} {a : Option Addr} {rs rs' : List RoleV} {g n k : Nat} (h : Hid (KpTR w a rs g n rs' w')) (hl : rs'.length = k) (hk : k < n) : w'.there g (k * 2) 2 := there_part h.out.bld.ths hk
theorem KpTR.step {w w' w2 : World} {a : Option Addr} {rs rs' : List RoleV} {g n k g8 m : Nat} {nd : Int} {ks : List Int} (h : Hid (KpTR w a rs g n rs' w')) (h0 : Hid (RlsAt w a rs)) (hk : k < n) (hl : rs'.length = k) (hm : ks.length = m) (hb : Below w'.heap.size w' w2) (hai : AI w2 (some ⟨g8, 0, none⟩) ks) (hge : w'.heap.size ≤ g8) :
    Hid (KpTR w a rs g n (rs' ++ [⟨nd, some ⟨g8, 0, none⟩, m, ks⟩]) (w2.setCells g (k * 2) (rlv nd (some ⟨g8, 0, none⟩) m m))) := by
  subst hm
  have h2 := (KpTR.call h hb).out
  have hne : g8 ≠ g := by have := h.out.lt; omega
  have hbw : Below w.heap.size w (w2.setCells g (k * 2) (rlv nd (some ⟨g8, 0, none⟩) ks.length ks.length)) := h2.below.trans (below_set h2.ge)
  refine ⟨hbw, h0.out.below hbw, ?_, ?_, by rw [setCells_size]; exact h2.lt, h2.ge⟩
  · have := (hl ▸ h2.bld).push (x := rlv nd (some ⟨g8, 0, none⟩) ks.length ks.length) (by rw [rlL_len, hl]) hk rfl (rlL_all _)
    have e : rlL (rs' ++ [⟨nd, some ⟨g8, 0, none⟩, ks.length, ks⟩]) = rlL rs' ++ [rlv nd (some ⟨g8, 0, none⟩) ks.length ks.length] := by unfold rlL; rw [List.map_append]; rfl
    rw [e, List.length_append, hl]
    exact this
  · intro r hr
    rcases List.mem_append.1 hr with hr | hr
    · obtain ⟨⟨b, hb1, hb2⟩, h3⟩ := h2.ks r hr
      refine ⟨⟨b, hb1, hb2⟩, ?_⟩
      rw [hb1] at h3 ⊢
      exact h3.other set_other hb2
    · obtain rfl := List.mem_singleton.1 hr
      exact ⟨⟨g8, rfl, hne⟩, hai.other set_other hne⟩
theorem KpTR.done {w w' : World} {a : Option Addr} {rs rs' : List RoleV} {g n : Nat} (h : Hid (KpTR w a rs g n rs' w')) : RlsAt w' (some ⟨g, 0, none⟩) rs' := fun i hi => by
  have h1 := h.out.bld.rng i (by rw [rlL_len]; exact hi) hi
  rw [rlL_get hi] at h1
  refine ⟨g, 0, rfl, ?_, ?_, (h.out.ks _ (List.getElem_mem hi)).2⟩
  · rw [Nat.zero_add]; exact h1 0 _ rfl
  · rw [Nat.zero_add]; exact h1 1 _ rfl
set_option maxRecDepth 100000 in
set_option maxHeartbeats 1000000 in
theorem toRls_any (a : Option Addr) (c n : Nat) (rs : List RoleV) (w : World) (hn : rs.length = n) (h : RlsAt w a rs) (hb : n ≤ 1048576) (hks : ∀ r ∈ rs, r.ks.length ≤ 1048576) :
    Calls Tryd.prog 109 #[.slice a n c] w fun e w' => ∃ rs', e = .returned (.slice (some ⟨w.heap.size, 0, none⟩) n n) ∧ rkeys rs' = rkeys rs ∧ RlsAt w' (some ⟨w.heap.size, 0, none⟩) rs' ∧ (∀ r ∈ rs', ∃ b, r.ka = some ⟨b, 0, none⟩ ∧ w.heap.size < b) ∧ Below w.heap.size w w' ∧ w.heap.size < w'.heap.size := by
  have HA : Hid (RlsAt w a rs) := h
  have HN : Hid (rs.length = n) := hn
  have HK : Hid (∀ r ∈ rs, r.ks.length ≤ 1048576) := hks
  clear h hn hks
  obtain ⟨i0, hi, hz0, hz1, hz2⟩ := info_parts Tryd.infoRl
  go_enter Tryd.func109, Tryd.ntmps109
  go_wp2_with (first
    | (at_make; refine wpList_make_full _ rfl _ _ 57 rfl w.heap.size 161 i0 _ 2 Tryd.underlying57 hi hz0 hz1 _ _ _ _ n rfl rfl (by omega) (by omega) (by rw [hz2]; omega) (by unfold maxLen; omega) (Nat.le_refl _) ?_))
  intro w1 hown1 hgr1
  have hb1 : Below w.heap.size w w1 := (Below.refl _ _).grown hgr1 (Nat.le_refl _) (fun _ h => by cases h)
  have HS1 : Hid (KpTR w a rs w.heap.size n [] w1) := ⟨hb1, HA.out.below hb1, BldV.made hown1, fun r hr => (by cases hr), (hown1.lt w.heap.size rfl).2, Nat.le_refl _⟩
  clear hown1 hgr1 hi hz0 hz1 hz2 hb1
  go_wp2_with fail
  go_loopw [4] (fun i wr => ∃ (k : Nat) (rs' : List RoleV), i = .int .i64 (k : Int) ∧ k ≤ n ∧ Hid (rs'.length = k ∧ rkeys rs' = rkeys (rs.take k)) ∧ Hid (∀ r ∈ rs', ∃ b, r.ka = some ⟨b, 0, none⟩ ∧ w.heap.size < b) ∧ Hid (KpTR w a rs w.heap.size n rs' wr)) (fun i _ => n - (intOf i).toNat)
  case atStart => exact ⟨0, [], rfl, Nat.zero_le _, ⟨rfl, rfl⟩, fun r hr => (by cases hr), HS1⟩
  case round =>
    clear HS1
    obtain ⟨k, rs', rfl, hk, HL, HG, HS⟩ := hrel
    by_cases hlt : k < n
    case neg =>
      obtain rfl : k = n := by omega
      have HF : Hid (rkeys rs' = rkeys rs) := by show _ = _; rw [HL.out.2, List.take_of_length_le (by have := HN.out; omega)]
      go_wp2
      go_ret
      exact ⟨rs', rfl, HF.out, KpTR.done HS, HG.out, HS.out.below, HS.out.lt⟩
    have hkl : k < rs.length := by have := HN.out; omega
    obtain ⟨b, o, rfl, c0, c1, hai⟩ := HS.out.rl k hkl
    have HKn : Hid (∀ r : RoleV, r.need = rs[k].need → r.ks = rs[k].ks → (rs' ++ [r]).length = k + 1 ∧ rkeys (rs' ++ [r]) = rkeys (rs.take (k + 1))) := fun r h1 h2 => ⟨by rw [List.length_append, HL.out.1]; rfl, rkeys_snoc HL.out.2 hkl h1 h2⟩
    have x2 := HK.out rs[k] (List.getElem_mem hkl)
    have hT : ∀ w0, AI w0 rs[k].ka rs[k].ks → Calls Tryd.prog 134 #[.agg #[.int .i64 rs[k].need, .slice rs[k].ka rs[k].ks.length rs[k].kc]] w0 fun e w' => ∃ g, e = .returned (.agg #[.int .i64 rs[k].need, .slice (some ⟨g, 0, none⟩) rs[k].ks.length rs[k].ks.length]) ∧ AI w' (some ⟨g, 0, none⟩) rs[k].ks ∧ w0.heap.size ≤ g ∧ Below w0.heap.size w0 w' := fun w0 h0 => toRl_any rs[k].need rs[k].ka rs[k].kc _ rs[k].ks w0 rfl h0 x2
    have HAi : Hid (AI wr rs[k].ka rs[k].ks) := hai
    generalize rs[k].need = nd at *
    generalize rs[k].ka = ka at *
    generalize rs[k].kc = kc at *
    generalize rs[k].ks = ks at *
    obtain ⟨m, hm⟩ : ∃ m, ks.length = m := ⟨_, rfl⟩
    rw [hm] at c1 hT
    have HM : Hid (ks.length = m) := hm
    have HL1 : Hid (rs'.length = k) := HL.out.1
    have lk : (k : Int) < n := by omega
    have l0 : (0 : Int) ≤ k := by omega
    clear hm hai HL hkl x2
    go_wp2_with (first
      | (go_at_call 134; with_reducible refine (hT _ HAi.out).mono ?_; rintro r w5 ⟨g8, rfl, hI5, hg5, hB5⟩; have HS5 := KpTR.call HS hB5; have HS6 := KpTR.step (nd := nd) HS HA hlt HL1.out HM.out hB5 hI5 hg5)
      | (with_reducible refine wpList_storeAt (w := w5) (by with_unfolding_all rfl) 161 (.tmp 21) (.tmp 20) (by with_unfolding_all rfl) w.heap.size (k * 2) 2 (rlv nd (some ⟨g8, 0, none⟩) m m) (by with_unfolding_all rfl) (by with_unfolding_all rfl) (KpTR.there HS5 HL1.out hlt) Tryd.sizeRl rfl (rlv_one _ _ _ _) ?_))
    have HG2 : Hid (∀ r ∈ rs' ++ [⟨nd, some ⟨g8, 0, none⟩, m, ks⟩], ∃ b, r.ka = some ⟨b, 0, none⟩ ∧ w.heap.size < b) := fun r hr => by
      rcases List.mem_append.1 hr with hr | hr
      · exact HG.out r hr
      · obtain rfl := List.mem_singleton.1 hr
        exact ⟨g8, rfl, by have := HS.out.lt; omega⟩
    go_roundw
    case rel => exact ⟨k + 1, rs' ++ [⟨nd, some ⟨g8, 0, none⟩, m, ks⟩], by go_num, hlt, HKn.out _ rfl rfl, HG2, HS6⟩
    case measure => simp [intOf]; omega
theorem RlsAt.other {w w' : World} {g b : Nat} {rs : List RoleV} (h : RlsAt w (some ⟨b, 0, none⟩) rs) (hk : ∀ r ∈ rs, ∃ x, r.ka = some ⟨x, 0, none⟩ ∧ x ≠ g) (hF : ∀ x : Addr, x.block ≠ g → w'.cell? x = w.cell? x ∧ w'.frozen? x = w.frozen? x) (hne : b ≠ g) : RlsAt w' (some ⟨b, 0, none⟩) rs := fun i hi => by
  obtain ⟨b', o', h1, h2, h3, h4⟩ := h i hi
  injection h1 with h1
  injection h1 with e1 e2
  subst e1 e2
  refine ⟨b, 0, rfl, ((hF _ hne).1).trans h2, ((hF _ hne).1).trans h3, ?_⟩
  obtain ⟨x, hx, hxg⟩ := hk _ (List.getElem_mem hi)
  rw [hx] at h4 ⊢
  exact h4.other hF hxg
set_option maxRecDepth 100000 in
set_option maxHeartbeats 1000000 in
theorem toRt_at (v e : Int) (a : Option Addr) (c n : Nat) (rs : List RoleV) (w : World) (hn : rs.length = n) (h : RlsAt w a rs) (hb : n ≤ 1048576) (hks : ∀ r ∈ rs, r.ks.length ≤ 1048576) :
    Calls Tryd.prog 71 #[.agg #[.int .i64 v, .int .i64 e, .slice a n c]] w fun r w' => ∃ g rs', r = .returned (.agg #[.int .i64 v, .int .i64 e, .slice (some ⟨g, 0, none⟩) n n]) ∧ rkeys rs' = rkeys rs ∧ RlsAt w' (some ⟨g, 0, none⟩) rs' ∧ w.heap.size < g ∧ (∀ r ∈ rs', ∃ b, r.ka = some ⟨b, 0, none⟩ ∧ w.heap.size < b) ∧ Below w.heap.size w w' := by
  have HA : Hid (RlsAt w a rs) := h
  have HTo : ∀ w0, RlsAt w0 a rs → Calls Tryd.prog 109 #[.slice a n c] w0 fun e w' => ∃ rs', e = .returned (.slice (some ⟨w0.heap.size, 0, none⟩) n n) ∧ rkeys rs' = rkeys rs ∧ RlsAt w' (some ⟨w0.heap.size, 0, none⟩) rs' ∧ (∀ r ∈ rs', ∃ b, r.ka = some ⟨b, 0, none⟩ ∧ w0.heap.size < b) ∧ Below w0.heap.size w0 w' ∧ w0.heap.size < w'.heap.size := fun w0 h0 => toRls_any a c n rs w0 hn h0 hb hks
  clear h hn hks
  go_enter Tryd.func71, Tryd.ntmps71
  go_wp2_with (first
    | (with_reducible refine wpList_boxV (w := w) (by with_unfolding_all rfl) 45 (.tmp 0) (by with_unfolding_all rfl) (rtv v e a n c) (by with_unfolding_all rfl) ?_; intro w1 hA1 hB1 hS1; have z1 : w.heap.size < w1.heap.size := (by omega); clear hS1)
    | (with_reducible refine wpList_allocV (w := w1) (by with_unfolding_all rfl) 59 (by with_unfolding_all rfl) (rtv 0 0 none 0 0) Tryd.infoRtz ?_; intro w2 hA2 hB2 hS2; have z2 : w1.heap.size < w2.heap.size := (by omega); clear hS2)
    | (with_reducible refine wpList_allocV (w := w2) (by with_unfolding_all rfl) 59 (by with_unfolding_all rfl) (rtv 0 0 none 0 0) Tryd.infoRtz ?_; intro w3 hA3 hB3 hS3; have z3 : w2.heap.size < w3.heap.size := (by omega); clear hS3; have V3 := (hA1.below hB2 z1).below hB3 (by omega); have R3 := hA2.below hB3 z2; have b03 : Below w.heap.size w w3 := (hB1.trans (hB2.mono (by omega))).trans (hB3.mono (by omega)); obtain ⟨q0, q1, q2⟩ := V3.rt3)
    | (with_reducible refine wpList_cellV (w := w3) (by with_unfolding_all rfl) 2 (.tmp 6) (.tmp 5) (by with_unfolding_all rfl) w2.heap.size 0 (rtv 0 0 none 0 0) (rtv v 0 none 0 0) (.int .i64 v) (by with_unfolding_all rfl) (by with_unfolding_all rfl) rfl Tryd.size1Int hA3 (by decide) (by with_unfolding_all rfl) ?_; intro wa hAa hBa hFa hSa; have za : w2.heap.size < wa.heap.size := (by omega); clear hSa; have Va := V3.below (hBa _ (Nat.le_refl _)) (by omega); have Ra := R3.below (hBa _ (Nat.le_refl _)) (by omega); have b0a : Below w.heap.size w wa := b03.trans (hBa _ (by omega)); obtain ⟨s0, s1, s2⟩ := Va.rt3)
    | (with_reducible refine wpList_cellV (w := wa) (by with_unfolding_all rfl) 2 (.tmp 9) (.tmp 8) (by with_unfolding_all rfl) w2.heap.size 1 (rtv v 0 none 0 0) (rtv v e none 0 0) (.int .i64 e) (by with_unfolding_all rfl) (by with_unfolding_all rfl) rfl Tryd.size1Int hAa (by simp [rtv]) (by with_unfolding_all rfl) ?_; intro w4 hA4 hB4 hF4 hS4; have z4 : w2.heap.size < w4.heap.size := (by omega); clear hS4; have V4 := Va.below (hB4 _ (Nat.le_refl _)) (by omega); have R4 := Ra.below (hB4 _ (Nat.le_refl _)) (by omega); have b04 : Below w.heap.size w w4 := b0a.trans (hB4 _ (by omega)); obtain ⟨r0, r1, r2⟩ := V4.rt3)
    | (go_at_call 109; refine (HTo w4 (HA.out.below b04)).mono ?_; rintro e w5 ⟨rs', rfl, hK5, hI5, hG5, hB5, hL5⟩; have V5 := V4.below hB5 (by omega); have A5 := hA4.below hB5 z4; have R5 := R4.below hB5 (by omega); have b05 : Below w.heap.size w w5 := b04.trans (hB5.mono (by omega)); have HK5 : Hid (rkeys rs' = rkeys rs) := hK5; have HG5 : Hid (∀ r ∈ rs', ∃ b, r.ka = some ⟨b, 0, none⟩ ∧ w4.heap.size < b) := hG5; clear hK5 hG5)
    | (with_reducible refine wpList_cellV (w := w5) (by with_unfolding_all rfl) 57 (.tmp 13) (.tmp 12) (by with_unfolding_all rfl) w2.heap.size 2 (rtv v e none 0 0) (rtv v e (some ⟨w4.heap.size, 0, none⟩) n n) (.slice (some ⟨w4.heap.size, 0, none⟩) n n) (by with_unfolding_all rfl) (by with_unfolding_all rfl) rfl Tryd.size1Rls A5 (by simp [rtv]) (by with_unfolding_all rfl) ?_; intro w6 hA6 hB6 hF6 hS6; have z6 : w2.heap.size < w6.heap.size := (by omega); clear hS6; have R6 := R5.below (hB6 _ (Nat.le_refl _)) (by omega); have b06 : Below w.heap.size w w6 := b05.trans (hB6 _ (by omega)); have I6 := hI5.other (fun r hr => (Exists.elim (HG5.out r hr) (fun b hb => ⟨b, hb.1, (by omega)⟩))) hF6 (by omega))
    | (with_reducible refine wpList_loadV (w := w6) (by with_unfolding_all rfl) 59 (.tmp 3) (by with_unfolding_all rfl) w2.heap.size (rtv v e (some ⟨w4.heap.size, 0, none⟩) n n) (by with_unfolding_all rfl) hA6 Tryd.undRt 3 Tryd.sizeRt (by with_unfolding_all rfl) ?_)
    | (with_reducible refine wpList_storeV (w := w6) (by with_unfolding_all rfl) 59 (.tmp 2) (.tmp 14) (by with_unfolding_all rfl) w1.heap.size (rtv 0 0 none 0 0) (rtv v e (some ⟨w4.heap.size, 0, none⟩) n n) (by with_unfolding_all rfl) (by with_unfolding_all rfl) R6 3 Tryd.sizeRt (by with_unfolding_all rfl) (by with_unfolding_all rfl) (rtv_one _ _ _ _ _) ?_; intro w7 hA7 hB7 hF7 hS7; have I7 := I6.other (fun r hr => (Exists.elim (HG5.out r hr) (fun b hb => ⟨b, hb.1, (by omega)⟩))) hF7 (by omega); have b07 : Below w.heap.size w w7 := b06.trans (hB7 _ (by omega))))
  exact bodyPost_ret (results_V (t := 59) rfl _ w1.heap.size _ rfl hA7 Tryd.undRt 3 Tryd.sizeRt rfl) rfl ⟨w4.heap.size, rs', rfl, HK5.out, I7, by omega, fun r hr => (Exists.elim (HG5.out r hr) (fun b hb => ⟨b, hb.1, by omega⟩)), b07⟩
theorem toRt_any (v e : Int) (a : Option Addr) (c n : Nat) (rs : List RoleV) (w : World) (hn : rs.length = n) (h : RlsAt w a rs) (hb : n ≤ 1048576) (hks : ∀ r ∈ rs, r.ks.length ≤ 1048576) :
    Calls Tryd.prog 71 #[.agg #[.int .i64 v, .int .i64 e, .slice a n c]] w fun r w' => ∃ g rs', r = .returned (.agg #[.int .i64 v, .int .i64 e, .slice (some ⟨g, 0, none⟩) n n]) ∧ rkeys rs' = rkeys rs ∧ RlsAt w' (some ⟨g, 0, none⟩) rs' ∧ Below w.heap.size w w' :=
  (toRt_at v e a c n rs w hn h hb hks).mono fun r w' ⟨g, rs', h1, h2, h3, _, _, h6⟩ => ⟨g, rs', h1, h2, h3, h6⟩
end Go.Proofs.YtdfglpbappeoaabDoor
