/- The laws' helpers of roles and roots: how much room they take, turned to the program's, held against others. -/
import Derived.Test.YtdfglpbappeoaabDoorMetR
import Derived.Test.YtdfglpbappeoaabDoorBld
namespace Go.Proofs.YtdfglpbappeoaabDoor
open Go.RowKit
set_option linter.unusedVariables false

theorem IAt.ai {w : World} {a : Option Addr} {l : List Int} (h : IAt w a l) : AI w a l := fun k hk => by
  obtain ⟨g, ha, hc⟩ := h (fun e => by rw [e] at hk; exact absurd hk (Nat.not_lt_zero _))
  exact ⟨g, 0, ha, by rw [Nat.zero_add]; exact (hc k hk).1⟩
theorem AI.other {w w' : World} {g b : Nat} {l : List Int} (h : AI w (some ⟨b, 0, none⟩) l) (hF : ∀ x : Addr, x.block ≠ g → w'.cell? x = w.cell? x ∧ w'.frozen? x = w.frozen? x) (hne : b ≠ g) : AI w' (some ⟨b, 0, none⟩) l := fun k hk => by
  obtain ⟨b', o', h1, h2⟩ := h k hk
  injection h1 with h1
  injection h1 with e1 e2
  subst e1 e2
  exact ⟨b, 0, rfl, ((hF _ hne).1).trans h2⟩
theorem set_other {w : World} {g o : Nat} {l : List Value} : ∀ x : Addr, x.block ≠ g → (w.setCells g o l).cell? x = w.cell? x ∧ (w.setCells g o l).frozen? x = w.frozen? x :=
  fun x hx => ⟨World.cell?_setCells_out g _ _ _ x (fun e => absurd e hx), World.frozen?_setCells g _ _ _ x⟩
theorem Tryd.infoRl : (Tryd.prog.info? 161).map (fun i => (i.zero, i.size, i.bytes)) = some (some (.agg #[.int .i64 0, .slice none 0 0]), 2, 32) := by kernel_rfl
theorem Tryd.infoRlz : (Tryd.prog.info? 161).map (fun i => i.zero) = some (some (.agg (rlv 0 none 0 0).toArray)) := by kernel_rfl
theorem Tryd.undRl : ∃ d, Tryd.prog.underlying 161 = some d ∧ d.isRow = true := ⟨_, Tryd.underlying161, rfl⟩
theorem Tryd.sizeRl : (Tryd.prog.info? 161).map (·.size) = some 2 := by kernel_rfl
theorem Tryd.infoRtz : (Tryd.prog.info? 59).map (fun i => i.zero) = some (some (.agg (rtv 0 0 none 0 0).toArray)) := by kernel_rfl
theorem Tryd.undRt : ∃ d, Tryd.prog.underlying 59 = some d ∧ d.isRow = true := ⟨_, Tryd.underlying59, rfl⟩
theorem Tryd.sizeRt : (Tryd.prog.info? 59).map (·.size) = some 3 := by kernel_rfl
theorem Tryd.size1Int : (Tryd.prog.info? 2).map (·.size) = some 1 := by kernel_rfl
theorem Tryd.size1Is : (Tryd.prog.info? 72).map (·.size) = some 1 := by kernel_rfl
theorem Tryd.size1Rls : (Tryd.prog.info? 57).map (·.size) = some 1 := by kernel_rfl
theorem rlv_one (z : Int) (a : Option Addr) (n c : Nat) : ∀ v ∈ rlv z a n c, v.oneCell' = true := by
  intro v hv
  simp [rlv] at hv
  rcases hv with h | h <;> (rw [h]; rfl)
theorem rlv_ne (z : Int) (a : Option Addr) (n c : Nat) : rlv z a n c ≠ [] := by simp [rlv]
theorem rtv_one (v e : Int) (a : Option Addr) (n c : Nat) : ∀ x ∈ rtv v e a n c, x.oneCell' = true := by
  intro v hv
  simp [rtv] at hv
  rcases hv with h | h | h <;> (rw [h]; rfl)
def RoleV.key (r : RoleV) : Int × List Int := (r.need, r.ks)
def rkeys (rs : List RoleV) : List (Int × List Int) := rs.map RoleV.key
theorem rkeys_get {rs rs' : List RoleV} (h : rkeys rs = rkeys rs') {i : Nat} (h1 : i < rs.length) (h2 : i < rs'.length) : rs[i].need = rs'[i].need ∧ rs[i].ks = rs'[i].ks := by
  have : (rkeys rs)[i]? = (rkeys rs')[i]? := by rw [h]
  unfold rkeys at this
  rw [List.getElem?_map, List.getElem?_map, List.getElem?_eq_getElem h1, List.getElem?_eq_getElem h2] at this
  have := Option.some.inj this
  unfold RoleV.key at this
  exact ⟨congrArg Prod.fst this, congrArg Prod.snd this⟩
theorem rkeys_len {rs rs' : List RoleV} (h : rkeys rs = rkeys rs') : rs.length = rs'.length := by
  have := congrArg List.length h
  unfold rkeys at this
  rwa [List.length_map, List.length_map] at this
theorem rolesB_rkeys (rs : List RoleV) : rolesB rs = (rkeys rs).all (fun x => roleB x.1 x.2) := by
  unfold rolesB rkeys
  rw [List.all_map]
  rfl
theorem rootB_rkeys {v e : Int} {rs rs' : List RoleV} (h : rkeys rs = rkeys rs') : rootB v e rs = rootB v e rs' := by
  unfold rootB
  rw [rkeys_len h, rolesB_rkeys rs, rolesB_rkeys rs', h]
theorem roleW_rkeys {rs rs' : List RoleV} (h : rkeys rs = rkeys rs') (hw : ∀ r ∈ rs, RoleW r) : ∀ r ∈ rs', RoleW r := fun r hr => by
  obtain ⟨i, hi, rfl⟩ := List.mem_iff_getElem.1 hr
  have hl := rkeys_len h
  obtain ⟨h1, h2⟩ := rkeys_get h (by omega) hi
  have := hw _ (List.getElem_mem (show i < rs.length by omega))
  unfold RoleW at *
  rwa [h1, h2] at this
theorem rkeys_snoc {rs rs' : List RoleV} {r : RoleV} {k : Nat} (h : rkeys rs' = rkeys (rs.take k)) (hk : k < rs.length) (h1 : r.need = rs[k].need) (h2 : r.ks = rs[k].ks) : rkeys (rs' ++ [r]) = rkeys (rs.take (k + 1)) := by
  rw [List.take_succ_eq_append_getElem hk]
  unfold rkeys at *
  rw [List.map_append, List.map_append, h]
  congr 1
  show [r.key] = [rs[k].key]
  unfold RoleV.key
  rw [h1, h2]
/- The room that roles take. -/
set_option maxRecDepth 100000 in
theorem szI2 (a : Option Addr) (c n : Nat) (q : Int) (w : World) (hn : n ≤ maxLen) (h0 : 0 ≤ q) (h1 : q ≤ 1048576) :
    Calls Tryd.prog 154 #[.slice a n c, .int .i64 q] w fun e w' => e = .returned (.int .i64 (if q - (n : Int) < 0 then -1 else q - n)) ∧ w = w' := by
  unfold maxLen at hn
  by_cases h : q - (n : Int) < 0
  · rw [if_pos h]
    go_enter Tryd.func154, Tryd.ntmps154
    go_wp2
    go_ret
    exact ⟨rfl, rfl⟩
  · rw [if_neg h]
    have h2 : 0 ≤ q - (n : Int) := by omega
    go_enter Tryd.func154, Tryd.ntmps154
    go_wp2
    go_ret
    exact ⟨rfl, rfl⟩
set_option maxRecDepth 100000 in
theorem szRl_any (nd : Int) (a : Option Addr) (c n : Nat) (q : Int) (w : World) (hn : n ≤ maxLen) (h0 : 0 ≤ q) (h1 : q ≤ 1048576) :
    Calls Tryd.prog 129 #[.agg #[.int .i64 nd, .slice a n c], .int .i64 q] w fun e w' => e = .returned (.int .i64 (if q - (n : Int) < 0 then -1 else q - n)) ∧ Below w.heap.size w w' := by
  have hI : ∀ w0, Calls Tryd.prog 154 #[.slice a n c, .int .i64 q] w0 fun e w' => e = .returned (.int .i64 (if q - (n : Int) < 0 then -1 else q - n)) ∧ w0 = w' := fun w0 => szI2 a c n q w0 hn h0 h1
  by_cases h : q - (n : Int) < 0
  · rw [if_pos h] at hI ⊢
    clear h
    go_enter Tryd.func129, Tryd.ntmps129
    go_wp2_with (first
      | (with_reducible refine wpList_boxV (w := w) (by with_unfolding_all rfl) 156 (.tmp 0) (by with_unfolding_all rfl) (rlv nd a n c) (by with_unfolding_all rfl) ?_; intro w1 hA1 hB1 hS1; obtain ⟨p0, p1⟩ := hA1.rl; clear hS1)
      | (go_at_call 154; with_reducible refine (hI _).mono ?_; rintro e w' ⟨rfl, rfl⟩))
    go_ret
    exact ⟨rfl, hB1⟩
  · rw [if_neg h] at hI ⊢
    obtain ⟨d, hd⟩ : ∃ d, q - (n : Int) = d := ⟨_, rfl⟩
    rw [hd] at hI h ⊢
    clear hd
    go_enter Tryd.func129, Tryd.ntmps129
    go_wp2_with (first
      | (with_reducible refine wpList_boxV (w := w) (by with_unfolding_all rfl) 156 (.tmp 0) (by with_unfolding_all rfl) (rlv nd a n c) (by with_unfolding_all rfl) ?_; intro w1 hA1 hB1 hS1; obtain ⟨p0, p1⟩ := hA1.rl; clear hS1)
      | (go_at_call 154; with_reducible refine (hI _).mono ?_; rintro e w' ⟨rfl, rfl⟩))
    go_ret
    exact ⟨rfl, hB1⟩
structure KpZ (w : World) (a : Option Addr) (rs : List RoleV) (w' : World) : Prop where
  below : Below w.heap.size w w'
  rl : RlsAt w' a rs
theorem KpZ.start {w : World} {a : Option Addr} {rs : List RoleV} (h : RlsAt w a rs) : Hid (KpZ w a rs w) := ⟨Below.refl _ _, h⟩
theorem KpZ.call {w w' w2 : World} {a : Option Addr} {rs : List RoleV} (h : Hid (KpZ w a rs w')) (hb : Below w'.heap.size w' w2) : Hid (KpZ w a rs w2) := ⟨h.out.below.trans (hb.mono h.out.below.size), h.out.rl.below hb⟩
set_option maxRecDepth 100000 in
set_option maxHeartbeats 1000000 in
theorem szRls_any (a : Option Addr) (c n : Nat) (rs : List RoleV) (w : World) (hn : rs.length = n) (h : RlsAt w a rs) (hM : n ≤ maxLen) (hw : ∀ r ∈ rs, RoleW r) :
    Calls Tryd.prog 103 #[.slice a n c, .int .i64 1048576] w fun e w' => (∃ z : Int, e = .returned (.int .i64 z) ∧ (0 ≤ z → n ≤ 1048576 ∧ ∀ r ∈ rs, r.ks.length ≤ 1048576)) ∧ Below w.heap.size w w' := by
  have HS0 := KpZ.start h
  have HN : Hid (rs.length = n) := hn
  have HW : Hid (∀ r ∈ rs, RoleW r) := hw
  clear h hn hw
  unfold maxLen at hM
  by_cases hb : 1048576 - (n : Int) < 0
  · go_enter Tryd.func103, Tryd.ntmps103
    go_wp2
    go_ret
    exact ⟨⟨_, rfl, fun h => absurd h (by omega)⟩, Below.refl _ _⟩
  · have hn1 : n ≤ 1048576 := by omega
    go_enter Tryd.func103, Tryd.ntmps103
    go_wp2_with fail
    go_loopw [1, 5] (fun vq vi wr => ∃ (k : Nat) (q : Int), vi = .int .i64 (k : Int) ∧ vq = .int .i64 q ∧ k ≤ n ∧ 0 ≤ q ∧ q ≤ 1048576 ∧ Hid (∀ i (hi : i < rs.length), i < k → rs[i].ks.length ≤ 1048576) ∧ Hid (KpZ w a rs wr)) (fun _ vi _ => n - (intOf vi).toNat)
    case atStart => exact ⟨0, _, rfl, rfl, Nat.zero_le _, by omega, by omega, fun i hi h0 => absurd h0 (Nat.not_lt_zero _), HS0⟩
    case round =>
      clear HS0
      obtain ⟨k, q, rfl, rfl, hk, hq0, hq1, HE, HS⟩ := hrel
      by_cases hlt : k < n
      case neg =>
        obtain rfl : k = n := by omega
        have HF : Hid (∀ r ∈ rs, r.ks.length ≤ 1048576) := fun r hr => by
          obtain ⟨i, hi, rfl⟩ := List.mem_iff_getElem.1 hr
          exact HE.out i hi (by have := HN.out; omega)
        go_wp2
        go_ret
        exact ⟨⟨_, rfl, fun _ => ⟨hn1, HF.out⟩⟩, HS.out.below⟩
      have hkl : k < rs.length := by have := HN.out; omega
      obtain ⟨b, o, rfl, c0, c1, hai⟩ := HS.out.rl k hkl
      have x2 := (HW.out rs[k] (List.getElem_mem hkl)).2.1
      have HE2 : Hid (rs[k].ks.length ≤ 1048576 → ∀ i (hi : i < rs.length), i < k + 1 → rs[i].ks.length ≤ 1048576) := fun h i hi hik => by
        by_cases he : i < k
        · exact HE.out i hi he
        · obtain rfl : i = k := by omega
          exact h
      generalize rs[k].need = nd at *
      generalize rs[k].ka = ka at *
      generalize rs[k].kc = kc at *
      obtain ⟨m, hm⟩ : ∃ m, rs[k].ks.length = m := ⟨_, rfl⟩
      rw [hm] at c1 HE2 x2
      have hZ : ∀ w0, Calls Tryd.prog 129 #[.agg #[.int .i64 nd, .slice ka m kc], .int .i64 q] w0 fun e w' => e = .returned (.int .i64 (if q - (m : Int) < 0 then -1 else q - m)) ∧ Below w0.heap.size w0 w' := fun w0 => szRl_any nd ka kc m q w0 x2 hq0 hq1
      have lk : (k : Int) < n := by omega
      have l0 : (0 : Int) ≤ k := by omega
      clear hai hm HE hkl x2
      by_cases hneg : q - (m : Int) < 0
      · rw [if_pos hneg] at hZ
        clear HE2 hneg
        go_wp2_with (go_at_call 129; with_reducible refine (hZ _).mono ?_; rintro r w5 ⟨rfl, hB5⟩; have HS5 := KpZ.call HS hB5)
        go_ret
        exact ⟨⟨_, rfl, fun h => absurd h (by omega)⟩, HS5.out.below⟩
      · rw [if_neg hneg] at hZ
        have HE3 := HE2.out (by omega)
        have HE4 : Hid (∀ i (hi : i < rs.length), i < k + 1 → rs[i].ks.length ≤ 1048576) := HE3
        obtain ⟨d, hd⟩ : ∃ d, q - (m : Int) = d := ⟨_, rfl⟩
        have hd0 : 0 ≤ d := by omega
        have hd1 : d ≤ 1048576 := by omega
        rw [hd] at hZ
        clear HE2 HE3 hneg hd hq0 hq1
        go_wp2_with (go_at_call 129; with_reducible refine (hZ _).mono ?_; rintro r w5 ⟨rfl, hB5⟩; have HS5 := KpZ.call HS hB5)
        go_roundw
        case rel => exact ⟨k + 1, d, by go_num, rfl, by omega, hd0, hd1, HE4, HS5⟩
        case measure => simp [intOf]; omega
set_option maxRecDepth 100000 in
theorem szRt_any (v e : Int) (a : Option Addr) (c n : Nat) (rs : List RoleV) (w : World) (hn : rs.length = n) (h : RlsAt w a rs) (hM : n ≤ maxLen) (hw : ∀ r ∈ rs, RoleW r) :
    Calls Tryd.prog 64 #[.agg #[.int .i64 v, .int .i64 e, .slice a n c], .int .i64 1048576] w fun e w' => (∃ z : Int, e = .returned (.int .i64 z) ∧ (0 ≤ z → n ≤ 1048576 ∧ ∀ r ∈ rs, r.ks.length ≤ 1048576)) ∧ Below w.heap.size w w' := by
  have HZ : Hid (∀ w0, RlsAt w0 a rs → Calls Tryd.prog 103 #[.slice a n c, .int .i64 1048576] w0 fun e w' => (∃ z : Int, e = .returned (.int .i64 z) ∧ (0 ≤ z → n ≤ 1048576 ∧ ∀ r ∈ rs, r.ks.length ≤ 1048576)) ∧ Below w0.heap.size w0 w') := fun w0 h0 => szRls_any a c n rs w0 hn h0 hM hw
  have HA : Hid (RlsAt w a rs) := h
  clear h hn hw hM
  go_enter Tryd.func64, Tryd.ntmps64
  go_wp2_with (first
    | (with_reducible refine wpList_boxV (w := w) (by with_unfolding_all rfl) 45 (.tmp 0) (by with_unfolding_all rfl) (rtv v e a n c) (by with_unfolding_all rfl) ?_; intro w1 hA1 hB1 hS1; obtain ⟨p0, p1, p2⟩ := hA1.rt3; clear hS1))
  refine (HZ.out w1 (HA.out.below hB1)).mono ?_
  rintro r w2 ⟨⟨z, rfl, hz⟩, hB2⟩
  have HZ2 : Hid (0 ≤ z → n ≤ 1048576 ∧ ∀ r ∈ rs, r.ks.length ≤ 1048576) := hz
  clear hz HZ
  by_cases hneg : z < 0
  · go_wp2
    go_ret
    exact ⟨⟨_, rfl, fun h => absurd h (by omega)⟩, hB1.trans (hB2.mono hB1.size)⟩
  · go_wp2
    go_ret
    exact ⟨⟨_, rfl, HZ2.out⟩, hB1.trans (hB2.mono hB1.size)⟩
end Go.Proofs.YtdfglpbappeoaabDoor
