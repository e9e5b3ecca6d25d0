/- The laws' helpers of roles and roots: how much room they take, turned to the program's, held against others. Roles and roots turned to the program's, and held against others. Roles and roots held against others by the laws' helpers. Roles and roots, on the program's side: are they right? Rows of numbers of the call's own. -/
import Derived.Test.YtmahpmjkejnkfaaDoorMetR
import Derived.Test.YtmahpmjkejnkfaaDoorBld
import Derived.Deep.RegionHeld3
import Derived.Test.YtmahpmjkejnkfaaDoorMetB
import Derived.Test.YtmahpmjkejnkfaaDoorMjA
import Derived.Test.YtmahpmjkejnkfaaDoorOnl
import Derived.Maps.AppendAt
import Derived.Great.BuildSlice
import Derived.Great.FillDense
namespace Go.Proofs.YtmahpmjkejnkfaaDoor
open Go.RowKit
set_option linter.unusedVariables false

theorem IAt.ai {w : World} {a : Option Addr} {l : List Int} (h : IAt w a l) : AI w a l := fun k hk => by
  obtain ⟨g, ha, hc⟩ := h (fun e => by rw [e] at hk; exact absurd hk (Nat.not_lt_zero _))
  exact ⟨g, 0, ha, by rw [Nat.zero_add]; exact (hc k hk).1⟩
theorem AI.other {w w' : World} {g b : Nat} {l : List Int} (h : AI w (some ⟨b, 0, none⟩) l) (hF : ∀ x : Addr, x.block ≠ g → w'.cell? x = w.cell? x ∧ w'.frozen? x = w.frozen? x) (hne : b ≠ g) : AI w' (some ⟨b, 0, none⟩) l := fun k hk => by
  obtain ⟨b', o', h1, h2⟩ := h k hk
  injection h1 with h1
  injection h1 with e1 e2
  subst e1 e2
  exact ⟨b, 0, rfl, ((hF _ hne).1).trans h2⟩
theorem set_other {w : World} {g o : Nat} {l : List Value} : ∀ x : Addr, x.block ≠ g → (w.setCells g o l).cell? x = w.cell? x ∧ (w.setCells g o l).frozen? x = w.frozen? x :=
  fun x hx => ⟨World.cell?_setCells_out g _ _ _ x (fun e => absurd e hx), World.frozen?_setCells g _ _ _ x⟩
theorem Tryd.infoRl : (Tryd.prog.info? 31).map (fun i => (i.zero, i.size, i.bytes)) = some (some (.agg #[.int .i64 0, .slice none 0 0]), 2, 32) := by kernel_rfl
theorem Tryd.infoRlz : (Tryd.prog.info? 31).map (fun i => i.zero) = some (some (.agg (rlv 0 none 0 0).toArray)) := by kernel_rfl
theorem Tryd.undRl : ∃ d, Tryd.prog.underlying 31 = some d ∧ d.isRow = true := ⟨_, Tryd.underlying31, rfl⟩
theorem Tryd.sizeRl : (Tryd.prog.info? 31).map (·.size) = some 2 := by kernel_rfl
theorem Tryd.size1Int : (Tryd.prog.info? 2).map (·.size) = some 1 := by kernel_rfl
theorem Tryd.size1Is : (Tryd.prog.info? 22).map (·.size) = some 1 := by kernel_rfl
theorem rlv_one (z : Int) (a : Option Addr) (n c : Nat) : ∀ v ∈ rlv z a n c, v.oneCell' = true := by
  intro v hv
  simp [rlv] at hv
  rcases hv with h | h <;> (rw [h]; rfl)
theorem rlv_ne (z : Int) (a : Option Addr) (n c : Nat) : rlv z a n c ≠ [] := by simp [rlv]
theorem rtv_one (v e : Int) (a : Option Addr) (n c : Nat) : ∀ x ∈ rtv v e a n c, x.oneCell' = true := by
  intro v hv
  simp [rtv] at hv
  rcases hv with h | h | h <;> (rw [h]; rfl)
def RoleV.key (r : RoleV) : Int × List Int := (r.need, r.ks)
def rkeys (rs : List RoleV) : List (Int × List Int) := rs.map RoleV.key
theorem rkeys_get {rs rs' : List RoleV} (h : rkeys rs = rkeys rs') {i : Nat} (h1 : i < rs.length) (h2 : i < rs'.length) : rs[i].need = rs'[i].need ∧ rs[i].ks = rs'[i].ks := by
  have : (rkeys rs)[i]? = (rkeys rs')[i]? := by rw [h]
  unfold rkeys at this
  rw [List.getElem?_map, List.getElem?_map, List.getElem?_eq_getElem h1, List.getElem?_eq_getElem h2] at this
  have := Option.some.inj this
  unfold RoleV.key at this
  exact ⟨congrArg Prod.fst this, congrArg Prod.snd this⟩
theorem rkeys_len {rs rs' : List RoleV} (h : rkeys rs = rkeys rs') : rs.length = rs'.length := by
  have := congrArg List.length h
  unfold rkeys at this
  rwa [List.length_map, List.length_map] at this
theorem rolesB_rkeys (rs : List RoleV) : rolesB rs = (rkeys rs).all (fun x => roleB x.1 x.2) := by
  unfold rolesB rkeys
  rw [List.all_map]
  rfl
theorem rootB_rkeys {v e : Int} {rs rs' : List RoleV} (h : rkeys rs = rkeys rs') : rootB v e rs = rootB v e rs' := by
  unfold rootB
  rw [rkeys_len h, rolesB_rkeys rs, rolesB_rkeys rs', h]
theorem roleW_rkeys {rs rs' : List RoleV} (h : rkeys rs = rkeys rs') (hw : ∀ r ∈ rs, RoleW r) : ∀ r ∈ rs', RoleW r := fun r hr => by
  obtain ⟨i, hi, rfl⟩ := List.mem_iff_getElem.1 hr
  have hl := rkeys_len h
  obtain ⟨h1, h2⟩ := rkeys_get h (by omega) hi
  have := hw _ (List.getElem_mem (show i < rs.length by omega))
  unfold RoleW at *
  rwa [h1, h2] at this
theorem rkeys_snoc {rs rs' : List RoleV} {r : RoleV} {k : Nat} (h : rkeys rs' = rkeys (rs.take k)) (hk : k < rs.length) (h1 : r.need = rs[k].need) (h2 : r.ks = rs[k].ks) : rkeys (rs' ++ [r]) = rkeys (rs.take (k + 1)) := by
  rw [List.take_succ_eq_append_getElem hk]
  unfold rkeys at *
  rw [List.map_append, List.map_append, h]
  congr 1
  show [r.key] = [rs[k].key]
  unfold RoleV.key
  rw [h1, h2]
/- The room that roles take. -/
set_option maxRecDepth 100000 in
theorem szI2 (a : Option Addr) (c n : Nat) (q : Int) (w : World) (hn : n ≤ maxLen) (h0 : 0 ≤ q) (h1 : q ≤ 1048576) :
    Calls Tryd.prog 20 #[.slice a n c, .int .i64 q] w fun e w' => e = .returned (.int .i64 (if q - (n : Int) < 0 then -1 else q - n)) ∧ w = w' := by
  unfold maxLen at hn
  by_cases h : q - (n : Int) < 0
  · rw [if_pos h]
    go_enter Tryd.func20, Tryd.ntmps20
    go_wp2
    go_ret
    exact ⟨rfl, rfl⟩
  · rw [if_neg h]
    have h2 : 0 ≤ q - (n : Int) := by omega
    go_enter Tryd.func20, Tryd.ntmps20
    go_wp2
    go_ret
    exact ⟨rfl, rfl⟩
set_option maxRecDepth 100000 in
theorem szRl_any (nd : Int) (a : Option Addr) (c n : Nat) (q : Int) (w : World) (hn : n ≤ maxLen) (h0 : 0 ≤ q) (h1 : q ≤ 1048576) :
    Calls Tryd.prog 5 #[.agg #[.int .i64 nd, .slice a n c], .int .i64 q] w fun e w' => e = .returned (.int .i64 (if q - (n : Int) < 0 then -1 else q - n)) ∧ Below w.heap.size w w' := by
  have hI : ∀ w0, Calls Tryd.prog 20 #[.slice a n c, .int .i64 q] w0 fun e w' => e = .returned (.int .i64 (if q - (n : Int) < 0 then -1 else q - n)) ∧ w0 = w' := fun w0 => szI2 a c n q w0 hn h0 h1
  by_cases h : q - (n : Int) < 0
  · rw [if_pos h] at hI ⊢
    clear h
    go_enter Tryd.func5, Tryd.ntmps5
    go_wp2_with (first
      | (with_reducible refine wpList_boxV (w := w) (by with_unfolding_all rfl) 24 (.tmp 0) (by with_unfolding_all rfl) (rlv nd a n c) (by with_unfolding_all rfl) ?_; intro w1 hA1 hB1 hS1; obtain ⟨p0, p1⟩ := hA1.rl; clear hS1)
      | (go_at_call 20; with_reducible refine (hI _).mono ?_; rintro e w' ⟨rfl, rfl⟩))
    go_ret
    exact ⟨rfl, hB1⟩
  · rw [if_neg h] at hI ⊢
    obtain ⟨d, hd⟩ : ∃ d, q - (n : Int) = d := ⟨_, rfl⟩
    rw [hd] at hI h ⊢
    clear hd
    go_enter Tryd.func5, Tryd.ntmps5
    go_wp2_with (first
      | (with_reducible refine wpList_boxV (w := w) (by with_unfolding_all rfl) 24 (.tmp 0) (by with_unfolding_all rfl) (rlv nd a n c) (by with_unfolding_all rfl) ?_; intro w1 hA1 hB1 hS1; obtain ⟨p0, p1⟩ := hA1.rl; clear hS1)
      | (go_at_call 20; with_reducible refine (hI _).mono ?_; rintro e w' ⟨rfl, rfl⟩))
    go_ret
    exact ⟨rfl, hB1⟩
structure KpZ (w : World) (a : Option Addr) (rs : List RoleV) (w' : World) : Prop where
  below : Below w.heap.size w w'
  rl : RlsAt w' a rs
theorem KpZ.start {w : World} {a : Option Addr} {rs : List RoleV} (h : RlsAt w a rs) : Hid (KpZ w a rs w) := ⟨Below.refl _ _, h⟩
theorem KpZ.call {w w' w2 : World} {a : Option Addr} {rs : List RoleV} (h : Hid (KpZ w a rs w')) (hb : Below w'.heap.size w' w2) : Hid (KpZ w a rs w2) := ⟨h.out.below.trans (hb.mono h.out.below.size), h.out.rl.below hb⟩
end Go.Proofs.YtmahpmjkejnkfaaDoor
namespace Go.Proofs.YtmahpmjkejnkfaaDoor
open Go.RowKit
set_option linter.unusedVariables false

set_option maxRecDepth 100000 in
set_option maxHeartbeats 1000000 in
theorem toRl_any (nd : Int) (a : Option Addr) (c n : Nat) (ks : List Int) (w : World) (hn : ks.length = n) (h : AI w a ks) (hb : n ≤ 1048576) :
    Calls Tryd.prog 8 #[.agg #[.int .i64 nd, .slice a n c]] w fun e w' => ∃ g, e = .returned (.agg #[.int .i64 nd, .slice (some ⟨g, 0, none⟩) n n]) ∧ AI w' (some ⟨g, 0, none⟩) ks ∧ w.heap.size ≤ g ∧ Below w.heap.size w w' := by
  have HA : Hid (AI w a ks) := h
  have HTo : ∀ w0, AI w0 a ks → Calls Tryd.prog 14 #[.slice a n c] w0 fun e w' => e = .returned (.slice (some ⟨w0.heap.size, 0, none⟩) n n) ∧ IAt w' (some ⟨w0.heap.size, 0, none⟩) ks ∧ Below w0.heap.size w0 w' ∧ w0.heap.size < w'.heap.size := fun w0 h0 => toI_any a c n ks w0 hn h0 hb
  clear h hn
  go_enter Tryd.func8, Tryd.ntmps8
  go_wp2_with (first
    | (with_reducible refine wpList_boxV (w := w) (by with_unfolding_all rfl) 24 (.tmp 0) (by with_unfolding_all rfl) (rlv nd a n c) (by with_unfolding_all rfl) ?_; intro w1 hA1 hB1 hS1; have z1 : w.heap.size < w1.heap.size := (by omega); clear hS1)
    | (with_reducible refine wpList_allocV (w := w1) (by with_unfolding_all rfl) 31 (by with_unfolding_all rfl) (rlv 0 none 0 0) Tryd.infoRlz ?_; intro w2 hA2 hB2 hS2; have z2 : w1.heap.size < w2.heap.size := (by omega); clear hS2)
    | (with_reducible refine wpList_allocV (w := w2) (by with_unfolding_all rfl) 31 (by with_unfolding_all rfl) (rlv 0 none 0 0) Tryd.infoRlz ?_; intro w3 hA3 hB3 hS3; have z3 : w2.heap.size < w3.heap.size := (by omega); clear hS3; have V3 := (hA1.below hB2 z1).below hB3 (by omega); have R3 := hA2.below hB3 z2; have b03 : Below w.heap.size w w3 := (hB1.trans (hB2.mono (by omega))).trans (hB3.mono (by omega)); obtain ⟨q0, q1⟩ := V3.rl)
    | (with_reducible refine wpList_cellV (w := w3) (by with_unfolding_all rfl) 2 (.tmp 6) (.tmp 5) (by with_unfolding_all rfl) w2.heap.size 0 (rlv 0 none 0 0) (rlv nd none 0 0) (.int .i64 nd) (by with_unfolding_all rfl) (by with_unfolding_all rfl) rfl Tryd.size1Int hA3 (by decide) (by with_unfolding_all rfl) ?_; intro w4 hA4 hB4 hF4 hS4; have z4 : w2.heap.size < w4.heap.size := (by omega); clear hS4; have V4 := V3.below (hB4 _ (Nat.le_refl _)) (by omega); have R4 := R3.below (hB4 _ (Nat.le_refl _)) (by omega); have b04 : Below w.heap.size w w4 := b03.trans (hB4 _ (by omega)); obtain ⟨r0, r1⟩ := V4.rl)
    | (go_at_call 14; refine (HTo w4 (HA.out.below b04)).mono ?_; rintro e w5 ⟨rfl, hI5, hB5, hL5⟩; have V5 := V4.below hB5 (by omega); have A5 := hA4.below hB5 z4; have R5 := R4.below hB5 (by omega); have b05 : Below w.heap.size w w5 := b04.trans (hB5.mono (by omega)))
    | (with_reducible refine wpList_cellV (w := w5) (by with_unfolding_all rfl) 22 (.tmp 10) (.tmp 9) (by with_unfolding_all rfl) w2.heap.size 1 (rlv nd none 0 0) (rlv nd (some ⟨w4.heap.size, 0, none⟩) n n) (.slice (some ⟨w4.heap.size, 0, none⟩) n n) (by with_unfolding_all rfl) (by with_unfolding_all rfl) rfl Tryd.size1Is A5 (by simp [rlv]) (by with_unfolding_all rfl) ?_; intro w6 hA6 hB6 hF6 hS6; have z6 : w2.heap.size < w6.heap.size := (by omega); clear hS6; have R6 := R5.below (hB6 _ (Nat.le_refl _)) (by omega); have b06 : Below w.heap.size w w6 := b05.trans (hB6 _ (by omega)); have I6 := hI5.ai.other hF6 (by omega))
    | (with_reducible refine wpList_loadV (w := w6) (by with_unfolding_all rfl) 31 (.tmp 3) (by with_unfolding_all rfl) w2.heap.size (rlv nd (some ⟨w4.heap.size, 0, none⟩) n n) (by with_unfolding_all rfl) hA6 Tryd.undRl 2 Tryd.sizeRl (by with_unfolding_all rfl) ?_)
    | (with_reducible refine wpList_storeV (w := w6) (by with_unfolding_all rfl) 31 (.tmp 2) (.tmp 11) (by with_unfolding_all rfl) w1.heap.size (rlv 0 none 0 0) (rlv nd (some ⟨w4.heap.size, 0, none⟩) n n) (by with_unfolding_all rfl) (by with_unfolding_all rfl) R6 2 Tryd.sizeRl (by with_unfolding_all rfl) (by with_unfolding_all rfl) (rlv_one _ _ _ _) ?_; intro w7 hA7 hB7 hF7 hS7; have I7 := I6.other hF7 (by omega); have b07 : Below w.heap.size w w7 := b06.trans (hB7 _ (by omega))))
  exact bodyPost_ret (results_V (t := 31) rfl _ w1.heap.size _ rfl hA7 Tryd.undRl 2 Tryd.sizeRl rfl) rfl ⟨w4.heap.size, rfl, I7, by omega, b07⟩
def rlL (rs : List RoleV) : List (List Value) := rs.map fun r => rlv r.need r.ka r.ks.length r.kc
theorem rlL_len (rs : List RoleV) : (rlL rs).length = rs.length := List.length_map _
theorem rlL_get {rs : List RoleV} {i : Nat} (h : i < rs.length) : (rlL rs)[i]'(by rw [rlL_len]; exact h) = rlv rs[i].need rs[i].ka rs[i].ks.length rs[i].kc := by unfold rlL; rw [List.getElem_map]
theorem rlL_all (rs : List RoleV) : ∀ x ∈ rlL rs, x.length = 2 := fun x hx => by
  unfold rlL at hx
  obtain ⟨y, _, rfl⟩ := List.mem_map.1 hx
  rfl
theorem BldV.push {w : World} {g s n : Nat} {L : List (List Value)} {x : List Value} {d : Nat} (h : BldV w g s n L d) (hL : L.length = d) (hd : d < n) (hx : x.length = s) (hs : ∀ l ∈ L, l.length = s) : BldV (w.setCells g (d * s) x) g s n (L ++ [x]) (d + 1) := by
  refine ⟨World.there_setCells h.ths _ _ _, fun i hi hid => ?_⟩
  by_cases he : i = d
  · subst he
    have e : (L ++ [x])[i] = x := by rw [List.getElem_append_right (by omega)]; simp [hL]
    rw [e]
    refine World.rangeAt_setCells_same w g _ _ ?_
    rw [hx]
    exact there_part h.ths hd
  · have hid' : i < d := by omega
    have e : (L ++ [x])[i] = L[i]'(by omega) := List.getElem_append_left (by omega)
    rw [e]
    refine World.rangeAt_setCells_apart (h.rng i (by omega) hid') _ _ _ (.inr (.inl ?_))
    rw [hs _ (List.getElem_mem (by omega))]
    have : (i + 1) * s ≤ d * s := Nat.mul_le_mul_right s hid'
    rw [Nat.add_mul, Nat.one_mul] at this
    exact this
structure KpTR (w : World) (a : Option Addr) (rs : List RoleV) (g n : Nat) (rs' : List RoleV) (w' : World) : Prop where
  below : Below w.heap.size w w'
  rl : RlsAt w' a rs
  bld : BldV w' g 2 n (rlL rs') rs'.length
  ks : ∀ r ∈ rs', (∃ b, r.ka = some ⟨b, 0, none⟩ ∧ b ≠ g) ∧ AI w' r.ka r.ks
  lt : g < w'.heap.size
  ge : w.heap.size ≤ g
theorem KpTR.call {w w' w2 : World} {a : Option Addr} {rs rs' : List RoleV} {g n : Nat} (h : Hid (KpTR w a rs g n rs' w')) (hb : Below w'.heap.size w' w2) : Hid (KpTR w a rs g n rs' w2) :=
  ⟨h.out.below.trans (hb.mono h.out.below.size), h.out.rl.below hb, h.out.bld.below hb h.out.lt, fun r hr => ⟨(h.out.ks r hr).1, (h.out.ks r hr).2.below hb⟩, Nat.lt_of_lt_of_le h.out.lt hb.size, h.out.ge⟩
theorem KpTR.there {w w' : World} {a : Option Addr} {rs rs' : List RoleV} {g n k : Nat} (h : Hid (KpTR w a rs g n rs' w')) (hl : rs'.length = k) (hk : k < n) : w'.there g (k * 2) 2 := there_part h.out.bld.ths hk
theorem KpTR.step {w w' w2 : World} {a : Option Addr} {rs rs' : List RoleV} {g n k g8 m : Nat} {nd : Int} {ks : List Int} (h : Hid (KpTR w a rs g n rs' w')) (h0 : Hid (RlsAt w a rs)) (hk : k < n) (hl : rs'.length = k) (hm : ks.length = m) (hb : Below w'.heap.size w' w2) (hai : AI w2 (some ⟨g8, 0, none⟩) ks) (hge : w'.heap.size ≤ g8) :
    Hid (KpTR w a rs g n (rs' ++ [⟨nd, some ⟨g8, 0, none⟩, m, ks⟩]) (w2.setCells g (k * 2) (rlv nd (some ⟨g8, 0, none⟩) m m))) := by
  subst hm
  have h2 := (KpTR.call h hb).out
  have hne : g8 ≠ g := by have := h.out.lt; omega
  have hbw : Below w.heap.size w (w2.setCells g (k * 2) (rlv nd (some ⟨g8, 0, none⟩) ks.length ks.length)) := h2.below.trans (below_set h2.ge)
  refine ⟨hbw, h0.out.below hbw, ?_, ?_, by rw [setCells_size]; exact h2.lt, h2.ge⟩
  · have := (hl ▸ h2.bld).push (x := rlv nd (some ⟨g8, 0, none⟩) ks.length ks.length) (by rw [rlL_len, hl]) hk rfl (rlL_all _)
    have e : rlL (rs' ++ [⟨nd, some ⟨g8, 0, none⟩, ks.length, ks⟩]) = rlL rs' ++ [rlv nd (some ⟨g8, 0, none⟩) ks.length ks.length] := by unfold rlL; rw [List.map_append]; rfl
    rw [e, List.length_append, hl]
    exact this
  · intro r hr
    rcases List.mem_append.1 hr with hr | hr
    · obtain ⟨⟨b, hb1, hb2⟩, h3⟩ := h2.ks r hr
      refine ⟨⟨b, hb1, hb2⟩, ?_⟩
      rw [hb1] at h3 ⊢
      exact h3.other set_other hb2
    · obtain rfl := List.mem_singleton.1 hr
      exact ⟨⟨g8, rfl, hne⟩, hai.other set_other hne⟩
theorem KpTR.done {w w' : World} {a : Option Addr} {rs rs' : List RoleV} {g n : Nat} (h : Hid (KpTR w a rs g n rs' w')) : RlsAt w' (some ⟨g, 0, none⟩) rs' := fun i hi => by
  have h1 := h.out.bld.rng i (by rw [rlL_len]; exact hi) hi
  rw [rlL_get hi] at h1
  refine ⟨g, 0, rfl, ?_, ?_, (h.out.ks _ (List.getElem_mem hi)).2⟩
  · rw [Nat.zero_add]; exact h1 0 _ rfl
  · rw [Nat.zero_add]; exact h1 1 _ rfl
theorem RlsAt.other {w w' : World} {g b : Nat} {rs : List RoleV} (h : RlsAt w (some ⟨b, 0, none⟩) rs) (hk : ∀ r ∈ rs, ∃ x, r.ka = some ⟨x, 0, none⟩ ∧ x ≠ g) (hF : ∀ x : Addr, x.block ≠ g → w'.cell? x = w.cell? x ∧ w'.frozen? x = w.frozen? x) (hne : b ≠ g) : RlsAt w' (some ⟨b, 0, none⟩) rs := fun i hi => by
  obtain ⟨b', o', h1, h2, h3, h4⟩ := h i hi
  injection h1 with h1
  injection h1 with e1 e2
  subst e1 e2
  refine ⟨b, 0, rfl, ((hF _ hne).1).trans h2, ((hF _ hne).1).trans h3, ?_⟩
  obtain ⟨x, hx, hxg⟩ := hk _ (List.getElem_mem hi)
  rw [hx] at h4 ⊢
  exact h4.other hF hxg
end Go.Proofs.YtmahpmjkejnkfaaDoor
namespace Go.Proofs.YtmahpmjkejnkfaaDoor
open Go.RowKit
set_option linter.unusedVariables false

set_option maxRecDepth 100000 in
set_option maxHeartbeats 1000000 in
theorem eqAI_any (a1 a2 : Option Addr) (c1 c2 n : Nat) (l : List Int) (w : World) (hn : l.length = n) (h1 : AI w a1 l) (h2 : AI w a2 l) (hb : n ≤ maxLen) :
    Calls Tryd.prog 16 #[.slice a1 n c1, .slice a2 n c2] w fun e w' => e = .returned (.bool true) ∧ Below w.heap.size w w' := by
  unfold maxLen at hb
  have H1 : Hid (AI w a1 l) := h1
  have H2 : Hid (AI w a2 l) := h2
  have HN : Hid (l.length = n) := hn
  clear h1 h2 hn
  go_enter Tryd.func16, Tryd.ntmps16
  go_wp2_with fail
  go_loopw [5] (fun i wr => ∃ k : Nat, i = .int .i64 (k : Int) ∧ k ≤ n ∧ Below w.heap.size w wr) (fun i _ => n - (intOf i).toNat)
  case atStart => exact ⟨0, rfl, Nat.zero_le _, Below.refl _ _⟩
  case round =>
    obtain ⟨k, rfl, hk, hb'⟩ := hrel
    have HB : Hid (Below w.heap.size w wr) := hb'
    clear hb'
    by_cases hlt : k < n
    case neg =>
      obtain rfl : k = n := by omega
      go_wp2
      go_ret
      exact ⟨rfl, HB.out⟩
    have hkl : k < l.length := by have := HN.out; omega
    obtain ⟨b1, o1, rfl, d1⟩ := H1.out.below HB.out k hkl
    obtain ⟨b2, o2, rfl, d2⟩ := H2.out.below HB.out k hkl
    generalize l[k] = x at *
    have ex : (x == x) = true := by simp
    have lk : (k : Int) < n := by omega
    have l0 : (0 : Int) ≤ k := by omega
    clear hkl
    go_wp2_with fail
    go_quiet (fail)
    go_wp2
    go_roundw
    case rel => exact ⟨k + 1, by go_num, hlt, belowN HB.out _⟩
    case measure => simp [intOf]; omega
structure KpR1 (w : World) (a1 a2 : Option Addr) (l : List Int) (w' : World) : Prop where
  below : Below w.heap.size w w'
  s1 : AI w' a1 l
  s2 : AI w' a2 l
theorem KpR1.start {w : World} {a1 a2 : Option Addr} {l : List Int} (h1 : AI w a1 l) (h2 : AI w a2 l) : Hid (KpR1 w a1 a2 l w) := ⟨Below.refl _ _, h1, h2⟩
theorem KpR1.call {w w' w2 : World} {a1 a2 : Option Addr} {l : List Int} (h : Hid (KpR1 w a1 a2 l w')) (hb : Below w'.heap.size w' w2) : Hid (KpR1 w a1 a2 l w2) := ⟨h.out.below.trans (hb.mono h.out.below.size), h.out.s1.below hb, h.out.s2.below hb⟩
set_option maxRecDepth 100000 in
set_option maxHeartbeats 1000000 in
theorem eqRl1 (nd : Int) (a1 a2 : Option Addr) (c1 c2 n : Nat) (l : List Int) (w : World) (hn : l.length = n) (h1 : AI w a1 l) (h2 : AI w a2 l) (hb : n ≤ maxLen) :
    Calls Tryd.prog 11 #[.agg #[.int .i64 nd, .slice a1 n c1], .agg #[.int .i64 nd, .slice a2 n c2]] w fun e w' => e = .returned (.bool true) ∧ Below w.heap.size w w' := by
  have HS0 := KpR1.start h1 h2
  have hE : ∀ w0, Hid (KpR1 w a1 a2 l w0) → Calls Tryd.prog 16 #[.slice a1 n c1, .slice a2 n c2] w0 fun e w' => e = .returned (.bool true) ∧ Below w0.heap.size w0 w' := fun w0 h0 => eqAI_any a1 a2 c1 c2 n l w0 hn h0.out.s1 h0.out.s2 hb
  have ex : (nd == nd) = true := by simp
  clear h1 h2 hn
  go_enter Tryd.func11, Tryd.ntmps11
  go_wp2_with (first
    | (with_reducible refine wpList_boxV (w := w) (by with_unfolding_all rfl) 31 (.tmp 0) (by with_unfolding_all rfl) (rlv nd a1 n c1) (by with_unfolding_all rfl) ?_; intro w1 hA1 hB1 hS1; have z1 : w.heap.size < w1.heap.size := (by omega); clear hS1; have HS1 := KpR1.call HS0 hB1)
    | (with_reducible refine wpList_boxV (w := w1) (by with_unfolding_all rfl) 31 (.tmp 1) (by with_unfolding_all rfl) (rlv nd a2 n c2) (by with_unfolding_all rfl) ?_; intro w2 hA2 hB2 hS2; clear hS2; obtain ⟨p0, p1⟩ := (hA1.below hB2 z1).rl; obtain ⟨q0, q1⟩ := hA2.rl; have HS2 := KpR1.call HS1 hB2)
    | (go_at_call 16; with_reducible refine (hE w2 HS2).mono ?_; rintro e w3 ⟨rfl, hB3⟩; have HS3 := KpR1.call HS2 hB3))
  go_ret
  exact ⟨rfl, HS3.out.below⟩
structure KpR2 (w : World) (a1 a2 : Option Addr) (r1 r2 : List RoleV) (w' : World) : Prop where
  below : Below w.heap.size w w'
  s1 : RlsAt w' a1 r1
  s2 : RlsAt w' a2 r2
theorem KpR2.start {w : World} {a1 a2 : Option Addr} {r1 r2 : List RoleV} (h1 : RlsAt w a1 r1) (h2 : RlsAt w a2 r2) : Hid (KpR2 w a1 a2 r1 r2 w) := ⟨Below.refl _ _, h1, h2⟩
theorem KpR2.call {w w' w2 : World} {a1 a2 : Option Addr} {r1 r2 : List RoleV} (h : Hid (KpR2 w a1 a2 r1 r2 w')) (hb : Below w'.heap.size w' w2) : Hid (KpR2 w a1 a2 r1 r2 w2) := ⟨h.out.below.trans (hb.mono h.out.below.size), h.out.s1.below hb, h.out.s2.below hb⟩
theorem KpR2.drew {w w' : World} {a1 a2 : Option Addr} {r1 r2 : List RoleV} (h : Hid (KpR2 w a1 a2 r1 r2 w')) : Hid (KpR2 w a1 a2 r1 r2 w'.drew) := ⟨h.out.below.drew, h.out.s1, h.out.s2⟩
theorem KpR2.four {w w' : World} {b1 o1 b2 o2 i m kc1 kc2 : Nat} {r1 r2 : List RoleV} {nd : Int} {ka1 ka2 : Option Addr} (hr : Hid (True → ∃ (h : i < r1.length) (h' : i < r2.length), r1[i].need = nd ∧ r2[i].need = nd ∧ r1[i].ka = ka1 ∧ r2[i].ka = ka2 ∧ r1[i].kc = kc1 ∧ r2[i].kc = kc2 ∧ r1[i].ks.length = m ∧ r2[i].ks.length = m)) (h : Hid (KpR2 w (some ⟨b1, o1, none⟩) (some ⟨b2, o2, none⟩) r1 r2 w')) :
    w'.cell? ⟨b1, o1 + i * 2, none⟩ = some (.int .i64 nd) ∧ w'.cell? ⟨b1, o1 + i * 2 + 1, none⟩ = some (.slice ka1 m kc1) ∧ w'.cell? ⟨b2, o2 + i * 2, none⟩ = some (.int .i64 nd) ∧ w'.cell? ⟨b2, o2 + i * 2 + 1, none⟩ = some (.slice ka2 m kc2) ∧ Hid (KpR2 w (some ⟨b1, o1, none⟩) (some ⟨b2, o2, none⟩) r1 r2 w') := by
  obtain ⟨hi, hi', e1, e2, e3, e4, e5, e6, e7, e8⟩ := hr.out trivial
  obtain ⟨b', o', h1, h2, h3, h4⟩ := h.out.s1 i hi
  injection h1 with h1
  injection h1 with f1 f2
  subst f1 f2
  obtain ⟨b', o', k1, k2, k3, k4⟩ := h.out.s2 i hi'
  injection k1 with k1
  injection k1 with f1 f2
  subst f1 f2
  rw [e1] at h2
  rw [e3, e5, e7] at h3
  rw [e2] at k2
  rw [e4, e6, e8] at k3
  exact ⟨h2, h3, k2, k3, h⟩
end Go.Proofs.YtmahpmjkejnkfaaDoor
namespace Go.Proofs.YtmahpmjkejnkfaaDoor
open Go.RowKit
set_option linter.unusedVariables false

set_option maxRecDepth 100000 in
set_option maxHeartbeats 2000000 in
theorem implRole (need : Int) (a : Option Addr) (c n : Nat) (ks : List Int) (w : World) (hn : ks.length = n) (h : AI w a ks) (hnm : n ≤ maxLen) (hw : ∀ x ∈ ks, I64 x) :
    Calls Tryd.prog 26 #[.agg #[.int .i64 need, .slice a n c]] w fun e w' => e = .returned (.bool (roleB need ks)) ∧ Below w.heap.size w w' := by
  unfold maxLen at hnm
  have HN : Hid (ks.length = n) := hn
  have HA : Hid (AI w a ks) := h
  have HW : Hid (∀ x ∈ ks, I64 x) := hw
  have HR : Hid (¬ (1 ≤ ks.length ∧ ks.length ≤ 8 ∧ 1 ≤ need ∧ need ≤ (ks.length : Int)) → roleB need ks = false) := fun h => by unfold roleB; rw [decide_eq_false h]; rfl
  have HR2 : Hid ((1 ≤ ks.length ∧ ks.length ≤ 8 ∧ 1 ≤ need ∧ need ≤ (ks.length : Int)) → roleB need ks = okKs ks) := fun h => by unfold roleB; rw [decide_eq_true h]; rfl
  obtain ⟨R, hRR⟩ : ∃ R, roleB need ks = R := ⟨_, rfl⟩
  rw [hRR] at HR HR2 ⊢
  clear h hn hw hRR
  by_cases c1 : n < 1
  · have d1 : decide ((n : Int) < 1) = true := decide_eq_true (by omega)
    have HF : Hid (R = false) := HR.out (by rw [HN.out]; omega)
    go_enter Tryd.func26, Tryd.ntmps26
    go_wp2_with (first
      | (with_reducible refine wpList_boxV (w := w) (by with_unfolding_all rfl) 31 (.tmp 0) (by with_unfolding_all rfl) (rlv need a n c) (by with_unfolding_all rfl) ?_; intro w1 hA1 hB1 hS1; obtain ⟨p0, p1⟩ := hA1.rl; clear hS1))
    go_ret
    exact ⟨retY HF.out.symm, hB1⟩
  have d1 : decide ((n : Int) < 1) = false := decide_eq_false (by omega)
  by_cases c2 : 8 < n
  · have d2 : decide ((8 : Int) < (n : Int)) = true := decide_eq_true (by omega)
    have HF : Hid (R = false) := HR.out (by rw [HN.out]; omega)
    go_enter Tryd.func26, Tryd.ntmps26
    go_wp2_with (first
      | (with_reducible refine wpList_boxV (w := w) (by with_unfolding_all rfl) 31 (.tmp 0) (by with_unfolding_all rfl) (rlv need a n c) (by with_unfolding_all rfl) ?_; intro w1 hA1 hB1 hS1; obtain ⟨p0, p1⟩ := hA1.rl; clear hS1))
    go_ret
    exact ⟨retY HF.out.symm, hB1⟩
  have d2 : decide ((8 : Int) < (n : Int)) = false := decide_eq_false (by omega)
  by_cases c3 : need < 1
  · have d3 : decide (need < 1) = true := decide_eq_true c3
    have HF : Hid (R = false) := HR.out (by omega)
    go_enter Tryd.func26, Tryd.ntmps26
    go_wp2_with (first
      | (with_reducible refine wpList_boxV (w := w) (by with_unfolding_all rfl) 31 (.tmp 0) (by with_unfolding_all rfl) (rlv need a n c) (by with_unfolding_all rfl) ?_; intro w1 hA1 hB1 hS1; obtain ⟨p0, p1⟩ := hA1.rl; clear hS1))
    go_ret
    exact ⟨retY HF.out.symm, hB1⟩
  have d3 : decide (need < 1) = false := decide_eq_false c3
  by_cases c4 : (n : Int) < need
  · have d4 : decide ((n : Int) < need) = true := decide_eq_true c4
    have HF : Hid (R = false) := HR.out (by rw [HN.out]; omega)
    go_enter Tryd.func26, Tryd.ntmps26
    go_wp2_with (first
      | (with_reducible refine wpList_boxV (w := w) (by with_unfolding_all rfl) 31 (.tmp 0) (by with_unfolding_all rfl) (rlv need a n c) (by with_unfolding_all rfl) ?_; intro w1 hA1 hB1 hS1; obtain ⟨p0, p1⟩ := hA1.rl; clear hS1))
    go_ret
    exact ⟨retY HF.out.symm, hB1⟩
  have d4 : decide ((n : Int) < need) = false := decide_eq_false c4
  have HK : Hid (R = okKs ks) := HR2.out (by rw [HN.out]; omega)
  clear HR HR2
  go_enter Tryd.func26, Tryd.ntmps26
  go_wp2_with (first
    | (with_reducible refine wpList_boxV (w := w) (by with_unfolding_all rfl) 31 (.tmp 0) (by with_unfolding_all rfl) (rlv need a n c) (by with_unfolding_all rfl) ?_; intro w1 hA1 hB1 hS1; obtain ⟨p0, p1⟩ := hA1.rl; clear hS1))
  have HS : Hid (KpRl w w.heap.size need a n c ks w1) := ⟨hB1, hA1, HA.out.below hB1⟩
  clear hA1 hB1 p0 p1 HA d1 d2 d3 d4
  go_loopw [31] (fun vi wr => ∃ k : Nat, vi = .int .i64 (k : Int) ∧ k ≤ n ∧ Hid (∀ j, j < k → KeyOk ks j) ∧ Hid (KpRl w w.heap.size need a n c ks wr)) (fun vi _ => n - (intOf vi).toNat)
  case atStart => exact ⟨0, rfl, Nat.zero_le _, fun j hj => absurd hj (Nat.not_lt_zero _), HS⟩
  case round =>
    clear HS
    obtain ⟨k, rfl, hk, HT, HS⟩ := hrel
    obtain ⟨p0, p1⟩ := HS.out.v.rl
    by_cases hlt : k < n
    case neg =>
      obtain rfl : k = n := by omega
      have HF : Hid (R = true) := by show _ = _; rw [HK.out]; exact okKs_yes (fun j hj => HT.out j (by have := HN.out; omega))
      go_wp2
      go_ret
      exact ⟨retY HF.out.symm, HS.out.below⟩
    have hkl : k < ks.length := by have := HN.out; omega
    obtain ⟨b, o, rfl, hc⟩ := HS.out.ai k hkl
    have hix := HW.out ks[k] (List.getElem_mem hkl)
    have lk : (k : Int) < n := by omega
    have l0 : (0 : Int) ≤ k := by omega
    have hG : ∀ w0, Calls Tryd.prog 42 #[.int .i64 ks[k]] w0 fun e w' => e = .returned (.bool (grB ks[k])) ∧ w0 = w' := fun w0 => (implGRight ks[k] w0 hix).mono (fun _ _ h => ⟨h.1, h.2.symm⟩)
    have HKo : Hid (∀ h : grB ks[k] = true, (0 < k → ks.getD (k - 1) 0 < ks[k]) → ∀ j, j < k + 1 → KeyOk ks j) := fun h1 h2 j hj => by
      by_cases hjk : j < k
      · exact HT.out j hjk
      · obtain rfl : j = k := by omega
        exact ⟨hkl, h1, h2⟩
    have HNo : Hid (¬ (grB ks[k] = true ∧ (0 < k → ks.getD (k - 1) 0 < ks[k])) → R = false) := fun h => by
      rw [HK.out]
      exact okKs_no hkl (fun ⟨_, h1, h2⟩ => h ⟨h1, h2⟩)
    cases hg : grB ks[k] with
    | false =>
      as_aux_lemma =>
      have HF : Hid (R = false) := HNo.out (fun h => by rw [hg] at h; cases h.1)
      rw [hg] at hG
      generalize ks[k] = z at *
      clear HKo HNo HT hg
      go_wp2_with (go_at_call 42; with_reducible refine (hG _).mono ?_; rintro e w' ⟨rfl, rfl⟩)
      go_ret
      exact ⟨retY HF.out.symm, HS.out.below⟩
    | true =>
    rw [hg] at hG
    by_cases hk0 : k = 0
    · as_aux_lemma =>
      subst hk0
      rw [Nat.add_zero] at hc
      have HT2 : Hid (∀ j, j < 1 → KeyOk ks j) := HKo.out hg (fun h => by omega)
      generalize ks[0] = z at *
      clear HKo HNo HT hg
      go_wp2_with (go_at_call 42; with_reducible refine (hG _).mono ?_; rintro e w' ⟨rfl, rfl⟩)
      go_roundw
      case rel => exact ⟨1, rfl, by omega, HT2, HS⟩
      case measure => simp [intOf]; omega
    have d5 : decide ((0 : Int) < (k : Int)) = true := decide_eq_true (by omega)
    have d6 : decide (0 < k) = true := decide_eq_true (by omega)
    obtain ⟨k1, hk1⟩ : ∃ k1, k - 1 = k1 := ⟨_, rfl⟩
    have ek : (k : Int) - 1 = (k1 : Int) := by omega
    have hk1l : k1 < ks.length := by omega
    obtain ⟨b', o', hb', hc'⟩ := HS.out.ai k1 hk1l
    injection hb' with hb'
    injection hb' with e1 e2
    subst e1 e2
    have hgd : ks.getD (k - 1) 0 = ks[k1] := by rw [hk1, List.getD_eq_getElem?_getD, List.getElem?_eq_getElem hk1l]; rfl
    rw [hgd] at HKo HNo
    have lk1 : (k1 : Int) < n := by omega
    have l01 : (0 : Int) ≤ k1 := by omega
    by_cases hlt2 : ks[k1] < ks[k]
    · as_aux_lemma =>
      have HT2 : Hid (∀ j, j < k + 1 → KeyOk ks j) := HKo.out hg (fun _ => hlt2)
      have d7 : decide (ks[k] ≤ ks[k1]) = false := decide_eq_false (by omega)
      generalize ks[k] = z at *
      generalize ks[k1] = z1 at *
      clear HKo HNo HT hg hgd
      go_wp2_with (go_at_call 42; with_reducible refine (hG _).mono ?_; rintro e w' ⟨rfl, rfl⟩)
      go_roundw
      case rel => exact ⟨k + 1, by go_num, by omega, HT2, HS⟩
      case measure => simp [intOf]; omega
    · as_aux_lemma =>
      have HF : Hid (R = false) := HNo.out (fun h => hlt2 (h.2 (by omega)))
      have d7 : decide (ks[k] ≤ ks[k1]) = true := decide_eq_true (by omega)
      generalize ks[k] = z at *
      generalize ks[k1] = z1 at *
      clear HKo HNo HT hg hgd
      go_wp2_with (go_at_call 42; with_reducible refine (hG _).mono ?_; rintro e w' ⟨rfl, rfl⟩)
      go_ret
      exact ⟨retY HF.out.symm, HS.out.below⟩
end Go.Proofs.YtmahpmjkejnkfaaDoor
namespace Go.Proofs.YtmahpmjkejnkfaaDoor
open Go.RowKit
set_option linter.unusedVariables false

def OwnI (w : World) (base : Nat) (v : Value) (l : List Int) : Prop := w.ownsRow base 2 1 v l.length (l.map (Value.int .i64))
theorem ownI_nil {w : World} {base : Nat} : OwnI w base (.slice none 0 0) [] := ⟨rfl, .inl ⟨rfl, rfl⟩⟩
theorem OwnI.form {w : World} {base : Nat} {v : Value} {l : List Int} (h : OwnI w base v l) : ∃ a c, v = .slice a l.length c ∧ IAt w a l ∧ ∀ ad, a = some ad → base ≤ ad.block ∧ ad.block < w.heap.size := by
  rcases h.2 with ⟨h0, hn⟩ | ⟨g, cap, cur, hv, hbg, hg, h1, h2, h3, h4⟩
  · exact ⟨none, 0, by rw [h0, hn], fun hl => absurd (List.eq_nil_of_length_eq_zero hn) hl, fun ad e => by cases e⟩
  · subst hv
    have h' : w.ownsRow base 2 1 (.slice (some ⟨g, 0, none⟩) l.length cap) l.length (l.map (Value.int .i64)) := h
    refine ⟨some ⟨g, 0, none⟩, cap, rfl, fun _ => ⟨g, rfl, fun k hk => ⟨?_, h'.frozenAt k⟩⟩, fun ad e => ?_⟩
    · rw [h'.cellAt k (by omega), List.getElem?_map, List.getElem?_eq_getElem hk]
      rfl
    · injection e with e
      rw [← e]
      exact ⟨hbg, (Array.getElem?_eq_some_iff.1 hg).1⟩
theorem ownI_same {w w' : World} {base : Nat} {v : Value} {l : List Int} (h : OwnI w base v l) (hk : ∀ k, v.ownBlock = some k → k < w.heap.size → w'.heap[k]? = w.heap[k]?) : OwnI w' base v l := by
  refine ⟨h.1, ?_⟩
  rcases h.2 with h0 | ⟨g, cap, cur, hv, hbg, hg, h1, h2, h3, h4⟩
  · exact .inl h0
  · exact .inr ⟨g, cap, cur, hv, hbg, (hk g (by rw [hv]; rfl) (Array.getElem?_eq_some_iff.1 hg).1).trans hg, h1, h2, h3, h4⟩
theorem ownI_ge {w : World} {base : Nat} {v : Value} {l : List Int} (h : OwnI w base v l) {k : Nat} (hk : v.ownBlock = some k) : base ≤ k ∧ k < w.heap.size := by
  rcases h.2 with ⟨h0, _⟩ | ⟨g, cap, cur, hv, hbg, hg, _⟩
  · rw [h0] at hk; cases hk
  · rw [hv] at hk
    cases hk
    exact ⟨hbg, (Array.getElem?_eq_some_iff.1 hg).1⟩
theorem ownI_mono {w : World} {base base' : Nat} {v : Value} {l : List Int} (h : OwnI w base v l) (hb : base' ≤ base) : OwnI w base' v l := by
  refine ⟨h.1, ?_⟩
  rcases h.2 with h0 | ⟨g, cap, cur, hv, hbg, hg, h1, h2, h3, h4⟩
  · exact .inl h0
  · exact .inr ⟨g, cap, cur, hv, Nat.le_trans hb hbg, hg, h1, h2, h3, h4⟩
theorem OwnI.below {w w' : World} {base : Nat} {v : Value} {l : List Int} (h : OwnI w base v l) (hb : Below w.heap.size w w') : OwnI w' base v l := ownI_same h (fun k _ hl => hb.block k hl)
/- Whatever grows a row of the call's own leaves all below the base. -/
theorem OwnI.grown {w w' : World} {base : Nat} {v : Value} {l : List Int} (h : OwnI w base v l) (hg : w.grownBy w' v.ownBlock) (hb : base ≤ w.heap.size) : Below base w w' :=
  ⟨hg.os, hg.tape, hg.output, hg.size, fun k hk => hg.block k (by omega) (fun e => by have := (ownI_ge h e.symm).1; omega)⟩
theorem Tryd.infoNumI : (Tryd.prog.info? 2).map (fun i => (i.zero, i.size, i.bytes)) = some (some (.int .i64 0), 1, 8) := by kernel_rfl
theorem wp_buildI {o : Oper} {a : Act} {w : World} {K : Act → World → Prop} {Q : Exit → Act → World → Prop} (x0 : Operand) (ho : o.op = .buildSlice 22 1 #[(0, x0)]) (k : Int) (e0 : a.eval x0 = .int .i64 k)
    (h : ∀ w', RowV w' w.heap.size [.int .i64 k] → Below w.heap.size w w' → K (a.put o.dst (.slice (some ⟨w.heap.size, 0, none⟩) 1 1)) w') : o.wp Tryd.prog a w K Q := by
  obtain ⟨i0, hi, hz0, hz1, hz2⟩ := info_parts Tryd.infoNumI
  refine wp_buildSlice 22 2 1 _ ho #[.int .i64 k] i0 _ Tryd.underlying22 hi hz0 (by rw [hz1]; omega) (by rw [hz1]; omega) ?_ (h _ (RowV.new w [.int .i64 k] 2) (below_alloc _ _))
  rw [hz1]
  simp only [List.map_toArray, List.map, e0]
  kernel_rfl
set_option maxRecDepth 100000 in
theorem wp_appendI {W : World} {o : Oper} {a : Act} {K : Act → World → Prop} {Q : Exit → Act → World → Prop} (s x : Operand) (ho : o.op = .call { callee := .builtin .append, args := #[s, x], argTypes := #[22, 22] })
    (base : Nat) (v : Value) (l : List Int) (b of n c : Nat) (m : List Int) (hs : a.eval s = v) (hown : OwnI W base v l) (hx : a.eval x = .slice (some ⟨b, of, none⟩) n c) (hm : m.length = n) (hA : AI W (some ⟨b, of, none⟩) m) (hn : l.length + n ≤ 1000000) (hbase : base ≤ W.heap.size)
    (h : ∀ v' w', OwnI w' base v' (l ++ m) → W.grownBy w' v.ownBlock → (v'.ownBlock = v.ownBlock ∨ v'.ownBlock = some W.heap.size) → K (a.put o.dst v') w') : Oper.wp Tryd.prog o a W K Q := by
  obtain ⟨i0, hi, hz0, hz1, hz2⟩ := info_parts Tryd.infoNumI
  subst hm
  obtain ⟨v', w', hr, h2, h3, h4, h5⟩ := run_append_own_at (P := Tryd.prog) W base 22 o.type 2 i0 _ 1 8 Tryd.underlying22 hi hz0 hz1 hz2 rfl (by decide) v l.length (l.map (Value.int .i64)) hown ⟨b, of, none⟩ m.length c (m.map (Value.int .i64)) (by rw [List.length_map, Nat.mul_one])
    (fun j u hj => by
      obtain ⟨hj1, hj2⟩ := List.getElem?_eq_some_iff.1 hj
      have hjl : j < m.length := by simpa using hj1
      obtain ⟨b', o', e, hc⟩ := hA j hjl
      injection e with e
      injection e with e1 e2
      subst e1 e2
      have he : (⟨b, of, none⟩ : Addr).add j = ⟨b, of + j, none⟩ := by unfold Addr.add; split <;> simp_all
      rw [he, hc, ← hj2, List.getElem_map])
    (by intro u hu; obtain ⟨y, _, rfl⟩ := List.mem_map.1 hu; rfl) (by unfold maxLen; omega) (by omega) hbase
  unfold Oper.wp execOp
  simp only [ho, resolve, invoke, builtin, Sem.run_bind, Sem.run_pure, Result.andThen_ok, List.map_toArray, List.map_cons, List.map_nil, hs, hx, hr]
  refine h v' w' ?_ h3 h5
  unfold OwnI
  rw [List.map_append, List.length_append]
  exact h2
theorem ai_one {w : World} {g : Nat} {k : Int} (h : RowV w g [.int .i64 k]) : AI w (some ⟨g, 0, none⟩) [k] := fun i hi => by
  obtain rfl : i = 0 := by simpa using hi
  exact ⟨g, 0, rfl, h.cell (k := 0) rfl⟩
theorem wpList_buildI {ops : Array Oper} {rest : List Oper} {o : Oper} {a : Act} {w : World} {Q : Exit → Act → World → Prop} (hg : o.guard = none) (x0 : Operand) (ho : o.op = .buildSlice 22 1 #[(0, x0)]) (k : Int) (e0 : a.eval x0 = .int .i64 k)
    (h : ∀ w', RowV w' w.heap.size [.int .i64 k] → Below w.heap.size w w' → wpList Tryd.prog ops Q rest (a.put o.dst (.slice (some ⟨w.heap.size, 0, none⟩) 1 1)) w') : wpList Tryd.prog ops Q (o :: rest) a w :=
  wpList_plain hg fun _ hK => wp_buildI x0 ho k e0 (fun w' h1 h2 => hK _ _ (h w' h1 h2))
theorem wpList_appendI {ops : Array Oper} {rest : List Oper} {W : World} {o : Oper} {a : Act} {Q : Exit → Act → World → Prop} (hg : o.guard = none) (s x : Operand) (ho : o.op = .call { callee := .builtin .append, args := #[s, x], argTypes := #[22, 22] })
    (base : Nat) (v : Value) (l : List Int) (b of n c : Nat) (m : List Int) (hs : a.eval s = v) (hown : OwnI W base v l) (hx : a.eval x = .slice (some ⟨b, of, none⟩) n c) (hm : m.length = n) (hA : AI W (some ⟨b, of, none⟩) m) (hn : l.length + n ≤ 1000000) (hbase : base ≤ W.heap.size)
    (h : ∀ v' w', OwnI w' base v' (l ++ m) → W.grownBy w' v.ownBlock → (v'.ownBlock = v.ownBlock ∨ v'.ownBlock = some W.heap.size) → wpList Tryd.prog ops Q rest (a.put o.dst v') w') : wpList Tryd.prog ops Q (o :: rest) a W :=
  wpList_plain hg fun _ hK => wp_appendI s x ho base v l b of n c m hs hown hx hm hA hn hbase (fun v' w' h1 h2 h3 => hK _ _ (h v' w' h1 h2 h3))
end Go.Proofs.YtmahpmjkejnkfaaDoor
