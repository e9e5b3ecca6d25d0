/- The room that roots and targets take, whatever was left before them; sub-structs of a variable of several cells, loaded and stored. -/
import Derived.Test.YtdfglpbappeoaabDoorRlL
import Derived.Test.YtdfglpbappeoaabDoorTgL
namespace Go.Proofs.YtdfglpbappeoaabDoor
open Go.RowKit
set_option linter.unusedVariables false

theorem RowV.mid {w : World} {g : Nat} {l : List Value} (h : RowV w g l) {p : Nat} {l2 l' : List Value} (hp : p + l2.length ≤ l.length) (hl : l' = l.take p ++ (l2 ++ l.drop (p + l2.length))) : RowV (w.setCells g p l2) g l' := by
  have hths : ∀ j, j < l2.length → (w.cell? ⟨g, p + j, none⟩).isSome = true := fun j hj => by
    have := (h.ths (p + j) (by omega)).1
    rwa [Nat.zero_add] at this
  have hlen : l'.length = l.length := by
    rw [hl, List.length_append, List.length_append, List.length_take, List.length_drop]
    omega
  refine ⟨fun j v hv => ?_, by rw [hlen]; exact World.there_setCells h.ths _ _ _⟩
  rw [Nat.zero_add]
  rw [hl] at hv
  by_cases h1 : j < p
  · rw [List.getElem?_append_left (by rw [List.length_take]; omega), List.getElem?_take, if_pos h1] at hv
    rw [World.cell?_setCells_out g _ _ _ _ (fun _ _ => Or.inl h1)]
    exact h.cell hv
  · rw [List.getElem?_append_right (by rw [List.length_take]; omega), List.length_take, Nat.min_eq_left (by omega)] at hv
    by_cases h2 : j < p + l2.length
    · rw [List.getElem?_append_left (by omega)] at hv
      have := World.cell?_setCells_in g l2 p w hths (j - p) (by omega)
      rw [show p + (j - p) = j by omega] at this
      rw [this, ← hv, List.getElem?_eq_getElem (by omega)]
    · rw [List.getElem?_append_right (by omega), List.getElem?_drop, show p + l2.length + (j - p - l2.length) = j by omega] at hv
      rw [World.cell?_setCells_out g _ _ _ _ (fun _ _ => Or.inr (by show p + l2.length ≤ j; omega))]
      exact h.cell hv
theorem wpList_subV {P : Program} {ops : Array Oper} {rest : List Oper} {o : Oper} {a : Act} {w : World} {Q : Exit → Act → World → Prop} (hg : o.guard = none) (t : TypeId) (x y : Operand) (ho : o.op = .store t x y) (g p n : Nat) (l l2 l' : List Value)
    (hx : a.eval x = .pointer (some ⟨g, p, none⟩)) (hy : a.eval y = .agg l2.toArray) (hi : (P.info? t).map (·.size) = some n) (hn : l2.length = n) (h1 : ∀ v ∈ l2, v.oneCell' = true) (hl : RowV w g l) (hp : p + n ≤ l.length) (hl' : l' = l.take p ++ (l2 ++ l.drop (p + n)))
    (h : ∀ w', RowV w' g l' → (∀ B, B ≤ g → Below B w w') → (∀ x : Addr, x.block ≠ g → w'.cell? x = w.cell? x ∧ w'.frozen? x = w.frozen? x) → w'.heap.size = w.heap.size → wpList P ops Q rest (a.put o.dst undef) w') : wpList P ops Q (o :: rest) a w := by
  subst hn
  refine wpList_storeAt hg t x y ho g p l2.length l2 hx hy (fun j hj => ?_) hi rfl h1 ?_
  · have := hl.ths (p + j) (by omega)
    rw [Nat.zero_add] at this
    exact this
  · exact h _ (hl.mid hp hl') (fun B hB => below_set hB) set_other (setCells_size g _ p w)
theorem wpList_ldV {P : Program} {ops : Array Oper} {rest : List Oper} {o : Oper} {a : Act} {w : World} {Q : Exit → Act → World → Prop} (hg : o.guard = none) (t : TypeId) (x : Operand) (ho : o.op = .load t x) (g p : Nat) (l l2 : List Value)
    (hx : a.eval x = .pointer (some ⟨g, p, none⟩)) (hl : RowV w g l) (hu : ∃ d, P.underlying t = some d ∧ d.isRow = true) (n : Nat) (hi : (P.info? t).map (·.size) = some n) (hn : l2.length = n) (hs : (l.drop p).take n = l2)
    (h : wpList P ops Q rest (a.put o.dst (.agg l2.toArray)) w) : wpList P ops Q (o :: rest) a w := by
  obtain ⟨d, hd, hr⟩ := hu
  refine wpList_load_mid hg t x ho g p hx l2 d (fun j v hv => ?_) hd hr (by rw [hn]; exact hi) h
  rw [← hs, List.getElem?_take] at hv
  by_cases hj : j < n
  · rw [if_pos hj, List.getElem?_drop] at hv
    exact hl.cell hv
  · rw [if_neg hj] at hv
    cases hv
set_option maxRecDepth 100000 in
set_option maxHeartbeats 1000000 in
theorem szRls_q (a : Option Addr) (c n : Nat) (rs : List RoleV) (w : World) (hn : rs.length = n) (h : RlsAt w a rs) (hM : n ≤ maxLen) (hw : ∀ r ∈ rs, RoleW r) (q0 : Int) (g0 : 0 ≤ q0) (g1 : q0 ≤ 1048576) :
    Calls Tryd.prog 103 #[.slice a n c, .int .i64 q0] w fun e w' => (∃ z : Int, e = .returned (.int .i64 z) ∧ z ≤ 1048576 ∧ (0 ≤ z → n ≤ 1048576 ∧ ∀ r ∈ rs, r.ks.length ≤ 1048576)) ∧ Below w.heap.size w w' := by
  have HS0 := KpZ.start h
  have HN : Hid (rs.length = n) := hn
  have HW : Hid (∀ r ∈ rs, RoleW r) := hw
  clear h hn hw
  unfold maxLen at hM
  by_cases hb : q0 - (n : Int) < 0
  · go_enter Tryd.func103, Tryd.ntmps103
    go_wp2
    go_ret
    exact ⟨⟨_, rfl, by omega, fun h => absurd h (by omega)⟩, Below.refl _ _⟩
  · have hn1 : n ≤ 1048576 := by omega
    have hn2 : 0 ≤ q0 - (n : Int) := by omega
    go_enter Tryd.func103, Tryd.ntmps103
    go_wp2_with fail
    go_loopw [1, 5] (fun vq vi wr => ∃ (k : Nat) (q : Int), vi = .int .i64 (k : Int) ∧ vq = .int .i64 q ∧ k ≤ n ∧ 0 ≤ q ∧ q ≤ 1048576 ∧ Hid (∀ i (hi : i < rs.length), i < k → rs[i].ks.length ≤ 1048576) ∧ Hid (KpZ w a rs wr)) (fun _ vi _ => n - (intOf vi).toNat)
    case atStart => exact ⟨0, _, rfl, rfl, Nat.zero_le _, by omega, by omega, fun i hi h0 => absurd h0 (Nat.not_lt_zero _), HS0⟩
    case round =>
      clear HS0
      obtain ⟨k, q, rfl, rfl, hk, hq0, hq1, HE, HS⟩ := hrel
      by_cases hlt : k < n
      case neg =>
        obtain rfl : k = n := by omega
        have HF : Hid (∀ r ∈ rs, r.ks.length ≤ 1048576) := fun r hr => by
          obtain ⟨i, hi, rfl⟩ := List.mem_iff_getElem.1 hr
          exact HE.out i hi (by have := HN.out; omega)
        go_wp2
        go_ret
        exact ⟨⟨_, rfl, hq1, fun _ => ⟨hn1, HF.out⟩⟩, HS.out.below⟩
      have hkl : k < rs.length := by have := HN.out; omega
      obtain ⟨b, o, rfl, c0, c1, hai⟩ := HS.out.rl k hkl
      have x2 := (HW.out rs[k] (List.getElem_mem hkl)).2.1
      have HE2 : Hid (rs[k].ks.length ≤ 1048576 → ∀ i (hi : i < rs.length), i < k + 1 → rs[i].ks.length ≤ 1048576) := fun h i hi hik => by
        by_cases he : i < k
        · exact HE.out i hi he
        · obtain rfl : i = k := by omega
          exact h
      generalize rs[k].need = nd at *
      generalize rs[k].ka = ka at *
      generalize rs[k].kc = kc at *
      obtain ⟨m, hm⟩ : ∃ m, rs[k].ks.length = m := ⟨_, rfl⟩
      rw [hm] at c1 HE2 x2
      have hZ : ∀ w0, Calls Tryd.prog 129 #[.agg #[.int .i64 nd, .slice ka m kc], .int .i64 q] w0 fun e w' => e = .returned (.int .i64 (if q - (m : Int) < 0 then -1 else q - m)) ∧ Below w0.heap.size w0 w' := fun w0 => szRl_any nd ka kc m q w0 x2 hq0 hq1
      have lk : (k : Int) < n := by omega
      have l0 : (0 : Int) ≤ k := by omega
      clear hai hm HE hkl x2
      by_cases hneg : q - (m : Int) < 0
      · rw [if_pos hneg] at hZ
        clear HE2 hneg
        go_wp2_with (go_at_call 129; with_reducible refine (hZ _).mono ?_; rintro r w5 ⟨rfl, hB5⟩; have HS5 := KpZ.call HS hB5)
        go_ret
        exact ⟨⟨_, rfl, by omega, fun h => absurd h (by omega)⟩, HS5.out.below⟩
      · rw [if_neg hneg] at hZ
        have HE3 := HE2.out (by omega)
        have HE4 : Hid (∀ i (hi : i < rs.length), i < k + 1 → rs[i].ks.length ≤ 1048576) := HE3
        obtain ⟨d, hd⟩ : ∃ d, q - (m : Int) = d := ⟨_, rfl⟩
        have hd0 : 0 ≤ d := by omega
        have hd1 : d ≤ 1048576 := by omega
        rw [hd] at hZ
        clear HE2 HE3 hneg hd hq0 hq1
        go_wp2_with (go_at_call 129; with_reducible refine (hZ _).mono ?_; rintro r w5 ⟨rfl, hB5⟩; have HS5 := KpZ.call HS hB5)
        go_roundw
        case rel => exact ⟨k + 1, d, by go_num, rfl, by omega, hd0, hd1, HE4, HS5⟩
        case measure => simp [intOf]; omega
set_option maxRecDepth 100000 in
theorem szRt_q (v e : Int) (a : Option Addr) (c n : Nat) (rs : List RoleV) (w : World) (hn : rs.length = n) (h : RlsAt w a rs) (hM : n ≤ maxLen) (hw : ∀ r ∈ rs, RoleW r) (q0 : Int) (g0 : 0 ≤ q0) (g1 : q0 ≤ 1048576) :
    Calls Tryd.prog 64 #[.agg #[.int .i64 v, .int .i64 e, .slice a n c], .int .i64 q0] w fun e w' => (∃ z : Int, e = .returned (.int .i64 z) ∧ z ≤ 1048576 ∧ (0 ≤ z → n ≤ 1048576 ∧ ∀ r ∈ rs, r.ks.length ≤ 1048576)) ∧ Below w.heap.size w w' := by
  have HZ : Hid (∀ w0, RlsAt w0 a rs → Calls Tryd.prog 103 #[.slice a n c, .int .i64 q0] w0 fun e w' => (∃ z : Int, e = .returned (.int .i64 z) ∧ z ≤ 1048576 ∧ (0 ≤ z → n ≤ 1048576 ∧ ∀ r ∈ rs, r.ks.length ≤ 1048576)) ∧ Below w0.heap.size w0 w') := fun w0 h0 => szRls_q a c n rs w0 hn h0 hM hw q0 g0 g1
  have HA : Hid (RlsAt w a rs) := h
  clear h hn hw hM
  go_enter Tryd.func64, Tryd.ntmps64
  go_wp2_with (first
    | (with_reducible refine wpList_boxV (w := w) (by with_unfolding_all rfl) 45 (.tmp 0) (by with_unfolding_all rfl) (rtv v e a n c) (by with_unfolding_all rfl) ?_; intro w1 hA1 hB1 hS1; obtain ⟨p0, p1, p2⟩ := hA1.rt3; clear hS1))
  refine (HZ.out w1 (HA.out.below hB1)).mono ?_
  rintro r w2 ⟨⟨z, rfl, hz1, hz⟩, hB2⟩
  have HZ2 : Hid (0 ≤ z → n ≤ 1048576 ∧ ∀ r ∈ rs, r.ks.length ≤ 1048576) := hz
  clear hz HZ
  by_cases hneg : z < 0
  · go_wp2
    go_ret
    exact ⟨⟨_, rfl, by omega, fun h => absurd h (by omega)⟩, hB1.trans (hB2.mono hB1.size)⟩
  · go_wp2
    go_ret
    exact ⟨⟨_, rfl, hz1, HZ2.out⟩, hB1.trans (hB2.mono hB1.size)⟩
set_option maxRecDepth 100000 in
set_option maxHeartbeats 1000000 in
theorem szTgs_q (a : Option Addr) (c n : Nat) (l : List TarV) (w : World) (hn : l.length = n) (h : TgsAt w a l) (hM : n ≤ maxLen) (hw : ∀ x ∈ l, x.w) (q0 : Int) (g0 : 0 ≤ q0) (g1 : q0 ≤ 1048576) :
    Calls Tryd.prog 104 #[.slice a n c, .int .i64 q0] w fun e w' => (∃ z : Int, e = .returned (.int .i64 z) ∧ z ≤ 1048576 ∧ (0 ≤ z → n ≤ 1048576)) ∧ Below w.heap.size w w' := by
  have HS0 := KpZt.start h
  have HN : Hid (l.length = n) := hn
  have HW : Hid (∀ x ∈ l, x.w) := hw
  clear h hn hw
  unfold maxLen at hM
  by_cases hb : q0 - (n : Int) < 0
  · go_enter Tryd.func104, Tryd.ntmps104
    go_wp2
    go_ret
    exact ⟨⟨_, rfl, by omega, fun h => absurd h (by omega)⟩, Below.refl _ _⟩
  · have hn1 : n ≤ 1048576 := by omega
    have hn2 : 0 ≤ q0 - (n : Int) := by omega
    go_enter Tryd.func104, Tryd.ntmps104
    go_wp2_with fail
    go_loopw [1, 5] (fun vq vi wr => ∃ (k : Nat) (q : Int), vi = .int .i64 (k : Int) ∧ vq = .int .i64 q ∧ k ≤ n ∧ 0 ≤ q ∧ q ≤ 1048576 ∧ Hid (KpZt w a l wr)) (fun _ vi _ => n - (intOf vi).toNat)
    case atStart => exact ⟨0, _, rfl, rfl, Nat.zero_le _, by omega, by omega, HS0⟩
    case round =>
      clear HS0
      obtain ⟨k, q, rfl, rfl, hk, hq0, hq1, HS⟩ := hrel
      by_cases hlt : k < n
      case neg =>
        obtain rfl : k = n := by omega
        go_wp2
        go_ret
        exact ⟨⟨_, rfl, hq1, fun _ => hn1⟩, HS.out.below⟩
      have hkl : k < l.length := by have := HN.out; omega
      obtain ⟨b, o, rfl, c0, c1, c2⟩ := HS.out.tg k hkl
      obtain ⟨x1, x2, x3⟩ := HW.out l[k] (List.getElem_mem hkl)
      generalize l[k].nm = xn at *
      generalize l[k].im = xi at *
      generalize l[k].sz = xs at *
      have hZ : ∀ w0, Calls Tryd.prog 130 #[.agg #[.string xn, .string xi, .int .i64 xs], .int .i64 q] w0 fun e w' => (∃ d : Int, e = .returned (.int .i64 d) ∧ d ≤ 1048576 ∧ -1 ≤ d) ∧ Below w0.heap.size w0 w' := fun w0 => szTg_any xn xi xs q w0 x1 x2 hq0 hq1
      have lk : (k : Int) < n := by omega
      have l0 : (0 : Int) ≤ k := by omega
      clear hkl x1 x2 x3
      go_wp2_with fail
      refine (hZ _).mono ?_
      rintro r w5 ⟨⟨d, rfl, hd1, hd2⟩, hB5⟩
      have HS5 := KpZt.call HS hB5
      clear hZ
      by_cases hneg : d < 0
      · go_wp2
        go_ret
        exact ⟨⟨_, rfl, by omega, fun h => absurd h (by omega)⟩, HS5.out.below⟩
      · go_wp2
        go_roundw
        case rel => exact ⟨k + 1, d, by go_num, rfl, by omega, by omega, hd1, HS5⟩
        case measure => simp [intOf]; omega
set_option maxRecDepth 100000 in
theorem szTs_q (v e : Int) (a : Option Addr) (c n : Nat) (l : List TarV) (w : World) (hn : l.length = n) (h : TgsAt w a l) (hM : n ≤ maxLen) (hw : ∀ x ∈ l, x.w) (q0 : Int) (g0 : 0 ≤ q0) (g1 : q0 ≤ 1048576) :
    Calls Tryd.prog 65 #[.agg #[.int .i64 v, .int .i64 e, .slice a n c], .int .i64 q0] w fun e w' => (∃ z : Int, e = .returned (.int .i64 z) ∧ z ≤ 1048576 ∧ (0 ≤ z → n ≤ 1048576)) ∧ Below w.heap.size w w' := by
  have HZ : Hid (∀ w0, TgsAt w0 a l → Calls Tryd.prog 104 #[.slice a n c, .int .i64 q0] w0 fun e w' => (∃ z : Int, e = .returned (.int .i64 z) ∧ z ≤ 1048576 ∧ (0 ≤ z → n ≤ 1048576)) ∧ Below w0.heap.size w0 w') := fun w0 h0 => szTgs_q a c n l w0 hn h0 hM hw q0 g0 g1
  have HA : Hid (TgsAt w a l) := h
  clear h hn hw hM
  go_enter Tryd.func65, Tryd.ntmps65
  go_wp2_with (first
    | (with_reducible refine wpList_boxV (w := w) (by with_unfolding_all rfl) 50 (.tmp 0) (by with_unfolding_all rfl) (rtv v e a n c) (by with_unfolding_all rfl) ?_; intro w1 hA1 hB1 hS1; obtain ⟨p0, p1, p2⟩ := hA1.rt3; clear hS1))
  refine (HZ.out w1 (HA.out.below hB1)).mono ?_
  rintro r w2 ⟨⟨z, rfl, hz1, hz⟩, hB2⟩
  have HZ2 : Hid (0 ≤ z → n ≤ 1048576) := hz
  clear hz HZ
  by_cases hneg : z < 0
  · go_wp2
    go_ret
    exact ⟨⟨_, rfl, by omega, fun h => absurd h (by omega)⟩, hB1.trans (hB2.mono hB1.size)⟩
  · go_wp2
    go_ret
    exact ⟨⟨_, rfl, hz1, HZ2.out⟩, hB1.trans (hB2.mono hB1.size)⟩
end Go.Proofs.YtdfglpbappeoaabDoor
