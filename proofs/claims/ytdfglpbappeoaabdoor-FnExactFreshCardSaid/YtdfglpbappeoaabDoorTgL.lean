/- The laws' helpers of targets: how much room they take, turned to the program's, held against others. -/
import Derived.Test.YtdfglpbappeoaabDoorMetT
import Derived.Test.YtdfglpbappeoaabDoorRlL
import Derived.Deep.RegionHeld3
namespace Go.Proofs.YtdfglpbappeoaabDoor
open Go.RowKit
set_option linter.unusedVariables false

theorem Tryd.infoTg3 : (Tryd.prog.info? 162).map (fun i => (i.zero, i.size, i.bytes)) = some (some (.agg #[.string ⟨#[]⟩, .string ⟨#[]⟩, .int .i64 0]), 3, 40) := by kernel_rfl
theorem Tryd.infoTsz : (Tryd.prog.info? 63).map (fun i => i.zero) = some (some (.agg (rtv 0 0 none 0 0).toArray)) := by kernel_rfl
theorem Tryd.undTs : ∃ d, Tryd.prog.underlying 63 = some d ∧ d.isRow = true := ⟨_, Tryd.underlying63, rfl⟩
theorem Tryd.sizeTs : (Tryd.prog.info? 63).map (·.size) = some 3 := by kernel_rfl
theorem Tryd.size1Tgs : (Tryd.prog.info? 61).map (·.size) = some 1 := by kernel_rfl
set_option maxRecDepth 100000 in
set_option maxHeartbeats 1000000 in
theorem toT_any (k e : ByteArray) (s : Int) (w : World) :
    Calls Tryd.prog 135 #[.agg #[.string k, .string e, .int .i64 s]] w fun r w' => r = .returned (.agg #[.string k, .string e, .int .i64 s]) ∧ Below w.heap.size w w' := by
  go_enter Tryd.func135, Tryd.ntmps135
  go_wp2
  refine bodyPost_ret (v := Value.agg (tgv k e s).toArray) (by simp [results, Tryd.results135, go_sem, tgv]) rfl ⟨rfl, ?_⟩
  exact (((Below.refl _ _).alloc (Nat.le_refl _) _).alloc (by rw [szA]; omega) _).alloc (by rw [szA, szA]; omega) _
def tgL (l : List TarV) : List (List Value) := l.map fun x => tgv x.nm x.im x.sz
theorem tgL_len (l : List TarV) : (tgL l).length = l.length := List.length_map _
theorem tgL_get {l : List TarV} {i : Nat} (h : i < l.length) : (tgL l)[i]'(by rw [tgL_len]; exact h) = tgv l[i].nm l[i].im l[i].sz := by unfold tgL; rw [List.getElem_map]
theorem tgL_all (l : List TarV) : ∀ x ∈ tgL l, x.length = 3 := fun x hx => by
  unfold tgL at hx
  obtain ⟨y, _, rfl⟩ := List.mem_map.1 hx
  rfl
theorem BldV.tgs {w : World} {g n : Nat} {l : List TarV} (h : BldV w g 3 n (tgL l) n) (hn : l.length = n) : TgsAt w (some ⟨g, 0, none⟩) l := fun i hi => by
  have h1 := h.rng i (by rw [tgL_len]; exact hi) (by omega)
  rw [tgL_get hi] at h1
  refine ⟨g, 0, rfl, ?_, ?_, ?_⟩
  · rw [Nat.zero_add]; exact h1 0 _ rfl
  · rw [Nat.zero_add]; exact h1 1 _ rfl
  · rw [Nat.zero_add]; exact h1 2 _ rfl
structure KpTt (w : World) (a : Option Addr) (l : List TarV) (g n k : Nat) (w' : World) : Prop where
  below : Below w.heap.size w w'
  tg : TgsAt w' a l
  bld : BldV w' g 3 n (tgL l) k
  lt : g < w'.heap.size
  ge : w.heap.size ≤ g
theorem KpTt.call {w w' w2 : World} {a : Option Addr} {l : List TarV} {g n k : Nat} (h : Hid (KpTt w a l g n k w')) (hb : Below w'.heap.size w' w2) : Hid (KpTt w a l g n k w2) :=
  ⟨h.out.below.trans (hb.mono h.out.below.size), h.out.tg.below hb, h.out.bld.below hb h.out.lt, Nat.lt_of_lt_of_le h.out.lt hb.size, h.out.ge⟩
theorem KpTt.there {w w' : World} {a : Option Addr} {l : List TarV} {g n k : Nat} (h : Hid (KpTt w a l g n k w')) (hk : k < n) : w'.there g (k * 3) 3 := there_part h.out.bld.ths hk
theorem KpTt.step {w w' : World} {a : Option Addr} {l : List TarV} {g n k : Nat} {x y : ByteArray} {z : Int} (h : Hid (KpTt w a l g n k w')) (h0 : Hid (TgsAt w a l)) (hk : k < n) (hn : l.length = n) (he : Hid (True → ∃ h : k < l.length, tgv l[k].nm l[k].im l[k].sz = tgv x y z)) : Hid (KpTt w a l g n (k + 1) (w'.setCells g (k * 3) (tgv x y z))) := by
  obtain ⟨hkl, he⟩ := he.out trivial
  have hb : Below w.heap.size w (w'.setCells g (k * 3) (tgv x y z)) := h.out.below.trans (below_set h.out.ge)
  refine ⟨hb, h0.out.below hb, ?_, by rw [setCells_size]; exact h.out.lt, h.out.ge⟩
  rw [← he, ← tgL_get hkl]
  exact h.out.bld.step hk (by rw [tgL_len]; exact hkl) (tgL_all l)
set_option maxRecDepth 100000 in
set_option maxHeartbeats 1000000 in
theorem toTgS_any (a : Option Addr) (c n : Nat) (l : List TarV) (w : World) (hn : l.length = n) (h : TgsAt w a l) (hb : n ≤ 1048576) :
    Calls Tryd.prog 110 #[.slice a n c] w fun e w' => e = .returned (.slice (some ⟨w.heap.size, 0, none⟩) n n) ∧ TgsAt w' (some ⟨w.heap.size, 0, none⟩) l ∧ Below w.heap.size w w' ∧ w.heap.size < w'.heap.size := by
  have HA : Hid (TgsAt w a l) := h
  have HN : Hid (l.length = n) := hn
  clear h hn
  obtain ⟨i0, hi, hz0, hz1, hz2⟩ := info_parts Tryd.infoTg3
  go_enter Tryd.func110, Tryd.ntmps110
  go_wp2_with (first
    | (at_make; refine wpList_make_full _ rfl _ _ 61 rfl w.heap.size 162 i0 _ 3 Tryd.underlying61 hi hz0 hz1 _ _ _ _ n rfl rfl (by omega) (by omega) (by rw [hz2]; omega) (by unfold maxLen; omega) (Nat.le_refl _) ?_))
  intro w1 hown1 hgr1
  have hb1 : Below w.heap.size w w1 := (Below.refl _ _).grown hgr1 (Nat.le_refl _) (fun _ h => by cases h)
  have HS1 : Hid (KpTt w a l w.heap.size n 0 w1) := ⟨hb1, HA.out.below hb1, BldV.made hown1, (hown1.lt w.heap.size rfl).2, Nat.le_refl _⟩
  clear hown1 hgr1 hi hz0 hz1 hz2 hb1
  go_wp2_with fail
  go_loopw [4] (fun i wr => ∃ k : Nat, i = .int .i64 (k : Int) ∧ k ≤ n ∧ Hid (KpTt w a l w.heap.size n k wr)) (fun i _ => n - (intOf i).toNat)
  case atStart => exact ⟨0, rfl, Nat.zero_le _, HS1⟩
  case round =>
    clear HS1
    obtain ⟨k, rfl, hk, HS⟩ := hrel
    by_cases hlt : k < n
    case neg =>
      obtain rfl : k = n := by omega
      go_wp2
      go_ret
      exact ⟨rfl, HS.out.bld.tgs HN.out, HS.out.below, HS.out.lt⟩
    have hkl : k < l.length := by have := HN.out; omega
    obtain ⟨b, o, rfl, c0, c1, c2⟩ := HS.out.tg k hkl
    obtain ⟨x, hx⟩ : ∃ x, l[k].nm = x := ⟨_, rfl⟩
    obtain ⟨y, hy⟩ : ∃ y, l[k].im = y := ⟨_, rfl⟩
    obtain ⟨z, hz⟩ : ∃ z, l[k].sz = z := ⟨_, rfl⟩
    have HE : Hid (True → ∃ h : k < l.length, tgv l[k].nm l[k].im l[k].sz = tgv x y z) := fun _ => ⟨hkl, by rw [hx, hy, hz]⟩
    rw [hx] at c0
    rw [hy] at c1
    rw [hz] at c2
    clear hx hy hz hkl
    have hT : ∀ w0, Calls Tryd.prog 135 #[.agg #[.string x, .string y, .int .i64 z]] w0 fun r w' => r = .returned (.agg #[.string x, .string y, .int .i64 z]) ∧ Below w0.heap.size w0 w' := fun w0 => toT_any x y z w0
    have lk : (k : Int) < n := by omega
    have l0 : (0 : Int) ≤ k := by omega
    go_wp2_with (first
      | (go_at_call 135; with_reducible refine (hT _).mono ?_; rintro r w5 ⟨rfl, hB5⟩; have HS5 := KpTt.call HS hB5)
      | (with_reducible refine wpList_storeAt (w := w5) (by with_unfolding_all rfl) 162 (.tmp 21) (.tmp 20) (by with_unfolding_all rfl) w.heap.size (k * 3) 3 (tgv x y z) (by with_unfolding_all rfl) (by with_unfolding_all rfl) (KpTt.there HS5 hlt) Tryd.sizeTg rfl (tgv_one x y z) ?_))
    go_roundw
    case rel => exact ⟨k + 1, by go_num, hlt, KpTt.step HS5 HA hlt HN.out HE⟩
    case measure => simp [intOf]; omega
theorem TgsAt.far {w w' : World} {g b : Nat} {l : List TarV} (h : TgsAt w (some ⟨b, 0, none⟩) l) (hF : ∀ x : Addr, x.block ≠ g → w'.cell? x = w.cell? x ∧ w'.frozen? x = w.frozen? x) (hne : b ≠ g) : TgsAt w' (some ⟨b, 0, none⟩) l := fun i hi => by
  obtain ⟨b', o', h1, h2, h3, h4⟩ := h i hi
  injection h1 with h1
  injection h1 with e1 e2
  subst e1 e2
  exact ⟨b, 0, rfl, ((hF _ hne).1).trans h2, ((hF _ hne).1).trans h3, ((hF _ hne).1).trans h4⟩
set_option maxRecDepth 100000 in
set_option maxHeartbeats 1000000 in
theorem eqTg1 (x y : ByteArray) (z : Int) (w : World) :
    Calls Tryd.prog 143 #[.agg #[.string x, .string y, .int .i64 z], .agg #[.string x, .string y, .int .i64 z]] w fun r w' => r = .returned (.bool true) ∧ Below w.heap.size w w' := by
  have e1 := txt_eq x
  have e2 := txt_eq y
  have e3 : (z == z) = true := by simp
  go_enter Tryd.func143, Tryd.ntmps143
  go_wp2_with (first
    | (with_reducible refine wpList_boxV (w := w) (by with_unfolding_all rfl) 162 (.tmp 0) (by with_unfolding_all rfl) (tgv x y z) (by with_unfolding_all rfl) ?_; intro w1 hA1 hB1 hS1; have z1 : w.heap.size < w1.heap.size := (by omega); clear hS1)
    | (with_reducible refine wpList_boxV (w := w1) (by with_unfolding_all rfl) 162 (.tmp 1) (by with_unfolding_all rfl) (tgv x y z) (by with_unfolding_all rfl) ?_; intro w2 hA2 hB2 hS2; clear hS2; obtain ⟨p0, p1, p2⟩ := (hA1.below hB2 z1).tg; obtain ⟨q0, q1, q2⟩ := hA2.tg))
  go_ret
  exact ⟨rfl, hB1.trans (hB2.mono (by omega))⟩
structure KpF2 (w : World) (a1 a2 : Option Addr) (l : List TarV) (w' : World) : Prop where
  below : Below w.heap.size w w'
  s1 : TgsAt w' a1 l
  s2 : TgsAt w' a2 l
theorem KpF2.start {w : World} {a1 a2 : Option Addr} {l : List TarV} (h1 : TgsAt w a1 l) (h2 : TgsAt w a2 l) : Hid (KpF2 w a1 a2 l w) := ⟨Below.refl _ _, h1, h2⟩
theorem KpF2.call {w w' w2 : World} {a1 a2 : Option Addr} {l : List TarV} (h : Hid (KpF2 w a1 a2 l w')) (hb : Below w'.heap.size w' w2) : Hid (KpF2 w a1 a2 l w2) := ⟨h.out.below.trans (hb.mono h.out.below.size), h.out.s1.below hb, h.out.s2.below hb⟩
theorem KpF2.drew {w w' : World} {a1 a2 : Option Addr} {l : List TarV} (h : Hid (KpF2 w a1 a2 l w')) : Hid (KpF2 w a1 a2 l w'.drew) := ⟨h.out.below.drew, h.out.s1, h.out.s2⟩
theorem KpF2.six {w w' : World} {b1 o1 b2 o2 i : Nat} {l : List TarV} {x y : ByteArray} {z : Int} (hr : Hid (True → ∃ h : i < l.length, l[i].nm = x ∧ l[i].im = y ∧ l[i].sz = z)) (h : Hid (KpF2 w (some ⟨b1, o1, none⟩) (some ⟨b2, o2, none⟩) l w')) :
    w'.cell? ⟨b1, o1 + i * 3, none⟩ = some (.string x) ∧ w'.cell? ⟨b1, o1 + i * 3 + 1, none⟩ = some (.string y) ∧ w'.cell? ⟨b1, o1 + i * 3 + 2, none⟩ = some (.int .i64 z) ∧ w'.cell? ⟨b2, o2 + i * 3, none⟩ = some (.string x) ∧ w'.cell? ⟨b2, o2 + i * 3 + 1, none⟩ = some (.string y) ∧ w'.cell? ⟨b2, o2 + i * 3 + 2, none⟩ = some (.int .i64 z) ∧ Hid (KpF2 w (some ⟨b1, o1, none⟩) (some ⟨b2, o2, none⟩) l w') := by
  obtain ⟨hi, rfl, rfl, rfl⟩ := hr.out trivial
  obtain ⟨b', o', h1, h2, h3, h4⟩ := h.out.s1 i hi
  injection h1 with h1
  injection h1 with e1 e2
  subst e1 e2
  obtain ⟨b', o', k1, k2, k3, k4⟩ := h.out.s2 i hi
  injection k1 with k1
  injection k1 with e1 e2
  subst e1 e2
  exact ⟨h2, h3, h4, k2, k3, k4, h⟩
set_option maxRecDepth 100000 in
set_option maxHeartbeats 1000000 in
theorem eqTgS_any (a1 a2 : Option Addr) (c1 c2 n : Nat) (l : List TarV) (w : World) (hn : l.length = n) (h1 : TgsAt w a1 l) (h2 : TgsAt w a2 l) (hb : n ≤ maxLen) :
    Calls Tryd.prog 118 #[.slice a1 n c1, .slice a2 n c2] w fun e w' => e = .returned (.bool true) ∧ Below w.heap.size w w' := by
  unfold maxLen at hb
  have HN : Hid (l.length = n) := hn
  have HS0 := KpF2.start h1 h2
  clear h1 h2 hn
  go_enter Tryd.func118, Tryd.ntmps118
  go_wp2_with fail
  go_loopw [5] (fun i wr => ∃ k : Nat, i = .int .i64 (k : Int) ∧ k ≤ n ∧ Hid (KpF2 w a1 a2 l wr)) (fun i _ => n - (intOf i).toNat)
  case atStart => exact ⟨0, rfl, Nat.zero_le _, HS0⟩
  case round =>
    clear HS0
    obtain ⟨k, rfl, hk, HS⟩ := hrel
    by_cases hlt : k < n
    case neg =>
      obtain rfl : k = n := by omega
      go_wp2
      go_ret
      exact ⟨rfl, HS.out.below⟩
    have hkl : k < l.length := by have := HN.out; omega
    obtain ⟨b1, o1, rfl, c0, c1', c2'⟩ := HS.out.s1 k hkl
    obtain ⟨b2, o2, rfl, d0, d1, d2⟩ := HS.out.s2 k hkl
    obtain ⟨x, hx⟩ : ∃ x, l[k].nm = x := ⟨_, rfl⟩
    obtain ⟨y, hy⟩ : ∃ y, l[k].im = y := ⟨_, rfl⟩
    obtain ⟨z, hz⟩ : ∃ z, l[k].sz = z := ⟨_, rfl⟩
    have HE : Hid (True → ∃ h : k < l.length, l[k].nm = x ∧ l[k].im = y ∧ l[k].sz = z) := fun _ => ⟨hkl, hx, hy, hz⟩
    clear hx hy hz hkl c0 c1' c2' d0 d1 d2
    have hT : ∀ w0, Calls Tryd.prog 143 #[.agg #[.string x, .string y, .int .i64 z], .agg #[.string x, .string y, .int .i64 z]] w0 fun r w' => r = .returned (.bool true) ∧ Below w0.heap.size w0 w' := fun w0 => eqTg1 x y z w0
    have lk : (k : Int) < n := by omega
    have l0 : (0 : Int) ≤ k := by omega
    have HSd := KpF2.drew HS
    clear HS
    go_wp2_with fail
    go_region_held3 (fun w' => w'.cell? ⟨b1, o1 + k * 3, none⟩ = some (.string x) ∧ w'.cell? ⟨b1, o1 + k * 3 + 1, none⟩ = some (.string y) ∧ w'.cell? ⟨b1, o1 + k * 3 + 2, none⟩ = some (.int .i64 z) ∧ w'.cell? ⟨b2, o2 + k * 3, none⟩ = some (.string x) ∧ w'.cell? ⟨b2, o2 + k * 3 + 1, none⟩ = some (.string y) ∧ w'.cell? ⟨b2, o2 + k * 3 + 2, none⟩ = some (.int .i64 z) ∧ Hid (KpF2 w (some ⟨b1, o1, none⟩) (some ⟨b2, o2, none⟩) l w'))
      (first | exact KpF2.six HE HSd | exact KpF2.six HE (KpF2.call HSd h8))
      (first
        | (go_at_call 143; with_reducible refine (hT _).mono ?_; rintro r w8 ⟨rfl, h8⟩))
    all_goals
      have HS9 := KpF2.call HSd h8
      go_wp2_with fail
      go_roundw
      case rel => exact ⟨k + 1, by go_num, by omega, HS9⟩
      case measure => simp [intOf]; omega
set_option maxRecDepth 100000 in
theorem szTg_any (xn xi : ByteArray) (xs q : Int) (w : World) (h1 : xn.size ≤ maxLen) (h2 : xi.size ≤ maxLen) (h0 : 0 ≤ q) (hq : q ≤ 1048576) :
    Calls Tryd.prog 130 #[.agg #[.string xn, .string xi, .int .i64 xs], .int .i64 q] w fun e w' => (∃ d : Int, e = .returned (.int .i64 d) ∧ d ≤ 1048576 ∧ -1 ≤ d) ∧ Below w.heap.size w w' := by
  unfold maxLen at h1 h2
  by_cases c1 : q - (xn.size : Int) < 0
  · go_enter Tryd.func130, Tryd.ntmps130
    go_wp2_with (first
      | (with_reducible refine wpList_boxV (w := w) (by with_unfolding_all rfl) 159 (.tmp 0) (by with_unfolding_all rfl) (tgv xn xi xs) (by with_unfolding_all rfl) ?_; intro w1 hA1 hB1 hS1; obtain ⟨p0, p1, p2⟩ := hA1.tg; clear hS1))
    go_ret
    exact ⟨⟨_, rfl, by omega, by omega⟩, hB1⟩
  obtain ⟨d, hd⟩ : ∃ d, q - (xn.size : Int) = d := ⟨_, rfl⟩
  have hd0 : 0 ≤ d := by omega
  have hd1 : d ≤ 1048576 := by omega
  by_cases c2 : d - (xi.size : Int) < 0
  · go_enter Tryd.func130, Tryd.ntmps130
    go_wp2_with (first
      | (with_reducible refine wpList_boxV (w := w) (by with_unfolding_all rfl) 159 (.tmp 0) (by with_unfolding_all rfl) (tgv xn xi xs) (by with_unfolding_all rfl) ?_; intro w1 hA1 hB1 hS1; obtain ⟨p0, p1, p2⟩ := hA1.tg; clear hS1))
    go_ret
    exact ⟨⟨_, rfl, by omega, by omega⟩, hB1⟩
  · have c2' : 0 ≤ d - (xi.size : Int) := by omega
    go_enter Tryd.func130, Tryd.ntmps130
    go_wp2_with (first
      | (with_reducible refine wpList_boxV (w := w) (by with_unfolding_all rfl) 159 (.tmp 0) (by with_unfolding_all rfl) (tgv xn xi xs) (by with_unfolding_all rfl) ?_; intro w1 hA1 hB1 hS1; obtain ⟨p0, p1, p2⟩ := hA1.tg; clear hS1))
    go_ret
    exact ⟨⟨_, rfl, by omega, by omega⟩, hB1⟩
structure KpZt (w : World) (a : Option Addr) (l : List TarV) (w' : World) : Prop where
  below : Below w.heap.size w w'
  tg : TgsAt w' a l
theorem KpZt.start {w : World} {a : Option Addr} {l : List TarV} (h : TgsAt w a l) : Hid (KpZt w a l w) := ⟨Below.refl _ _, h⟩
theorem KpZt.call {w w' w2 : World} {a : Option Addr} {l : List TarV} (h : Hid (KpZt w a l w')) (hb : Below w'.heap.size w' w2) : Hid (KpZt w a l w2) := ⟨h.out.below.trans (hb.mono h.out.below.size), h.out.tg.below hb⟩
set_option maxRecDepth 100000 in
set_option maxHeartbeats 1000000 in
theorem szTgs_any (a : Option Addr) (c n : Nat) (l : List TarV) (w : World) (hn : l.length = n) (h : TgsAt w a l) (hM : n ≤ maxLen) (hw : ∀ x ∈ l, x.w) :
    Calls Tryd.prog 104 #[.slice a n c, .int .i64 1048576] w fun e w' => (∃ z : Int, e = .returned (.int .i64 z) ∧ (0 ≤ z → n ≤ 1048576)) ∧ Below w.heap.size w w' := by
  have HS0 := KpZt.start h
  have HN : Hid (l.length = n) := hn
  have HW : Hid (∀ x ∈ l, x.w) := hw
  clear h hn hw
  unfold maxLen at hM
  by_cases hb : 1048576 - (n : Int) < 0
  · go_enter Tryd.func104, Tryd.ntmps104
    go_wp2
    go_ret
    exact ⟨⟨_, rfl, fun h => absurd h (by omega)⟩, Below.refl _ _⟩
  · have hn1 : n ≤ 1048576 := by omega
    go_enter Tryd.func104, Tryd.ntmps104
    go_wp2_with fail
    go_loopw [1, 5] (fun vq vi wr => ∃ (k : Nat) (q : Int), vi = .int .i64 (k : Int) ∧ vq = .int .i64 q ∧ k ≤ n ∧ 0 ≤ q ∧ q ≤ 1048576 ∧ Hid (KpZt w a l wr)) (fun _ vi _ => n - (intOf vi).toNat)
    case atStart => exact ⟨0, _, rfl, rfl, Nat.zero_le _, by omega, by omega, HS0⟩
    case round =>
      clear HS0
      obtain ⟨k, q, rfl, rfl, hk, hq0, hq1, HS⟩ := hrel
      by_cases hlt : k < n
      case neg =>
        obtain rfl : k = n := by omega
        go_wp2
        go_ret
        exact ⟨⟨_, rfl, fun _ => hn1⟩, HS.out.below⟩
      have hkl : k < l.length := by have := HN.out; omega
      obtain ⟨b, o, rfl, c0, c1, c2⟩ := HS.out.tg k hkl
      obtain ⟨x1, x2, x3⟩ := HW.out l[k] (List.getElem_mem hkl)
      generalize l[k].nm = xn at *
      generalize l[k].im = xi at *
      generalize l[k].sz = xs at *
      have hZ : ∀ w0, Calls Tryd.prog 130 #[.agg #[.string xn, .string xi, .int .i64 xs], .int .i64 q] w0 fun e w' => (∃ d : Int, e = .returned (.int .i64 d) ∧ d ≤ 1048576 ∧ -1 ≤ d) ∧ Below w0.heap.size w0 w' := fun w0 => szTg_any xn xi xs q w0 x1 x2 hq0 hq1
      have lk : (k : Int) < n := by omega
      have l0 : (0 : Int) ≤ k := by omega
      clear hkl x1 x2 x3
      go_wp2_with fail
      refine (hZ _).mono ?_
      rintro r w5 ⟨⟨d, rfl, hd1, hd2⟩, hB5⟩
      have HS5 := KpZt.call HS hB5
      clear hZ
      by_cases hneg : d < 0
      · go_wp2
        go_ret
        exact ⟨⟨_, rfl, fun h => absurd h (by omega)⟩, HS5.out.below⟩
      · go_wp2
        go_roundw
        case rel => exact ⟨k + 1, d, by go_num, rfl, by omega, by omega, hd1, HS5⟩
        case measure => simp [intOf]; omega
set_option maxRecDepth 100000 in
theorem szTs_any (v e : Int) (a : Option Addr) (c n : Nat) (l : List TarV) (w : World) (hn : l.length = n) (h : TgsAt w a l) (hM : n ≤ maxLen) (hw : ∀ x ∈ l, x.w) :
    Calls Tryd.prog 65 #[.agg #[.int .i64 v, .int .i64 e, .slice a n c], .int .i64 1048576] w fun e w' => (∃ z : Int, e = .returned (.int .i64 z) ∧ (0 ≤ z → n ≤ 1048576)) ∧ Below w.heap.size w w' := by
  have HZ : Hid (∀ w0, TgsAt w0 a l → Calls Tryd.prog 104 #[.slice a n c, .int .i64 1048576] w0 fun e w' => (∃ z : Int, e = .returned (.int .i64 z) ∧ (0 ≤ z → n ≤ 1048576)) ∧ Below w0.heap.size w0 w') := fun w0 h0 => szTgs_any a c n l w0 hn h0 hM hw
  have HA : Hid (TgsAt w a l) := h
  clear h hn hw hM
  go_enter Tryd.func65, Tryd.ntmps65
  go_wp2_with (first
    | (with_reducible refine wpList_boxV (w := w) (by with_unfolding_all rfl) 50 (.tmp 0) (by with_unfolding_all rfl) (rtv v e a n c) (by with_unfolding_all rfl) ?_; intro w1 hA1 hB1 hS1; obtain ⟨p0, p1, p2⟩ := hA1.rt3; clear hS1))
  refine (HZ.out w1 (HA.out.below hB1)).mono ?_
  rintro r w2 ⟨⟨z, rfl, hz⟩, hB2⟩
  have HZ2 : Hid (0 ≤ z → n ≤ 1048576) := hz
  clear hz HZ
  by_cases hneg : z < 0
  · go_wp2
    go_ret
    exact ⟨⟨_, rfl, fun h => absurd h (by omega)⟩, hB1.trans (hB2.mono hB1.size)⟩
  · go_wp2
    go_ret
    exact ⟨⟨_, rfl, HZ2.out⟩, hB1.trans (hB2.mono hB1.size)⟩
set_option maxRecDepth 100000 in
set_option maxHeartbeats 1000000 in
theorem toTs_at (v e : Int) (a : Option Addr) (c n : Nat) (l : List TarV) (w : World) (hn : l.length = n) (h : TgsAt w a l) (hb : n ≤ 1048576) :
    Calls Tryd.prog 73 #[.agg #[.int .i64 v, .int .i64 e, .slice a n c]] w fun r w' => ∃ g, r = .returned (.agg #[.int .i64 v, .int .i64 e, .slice (some ⟨g, 0, none⟩) n n]) ∧ TgsAt w' (some ⟨g, 0, none⟩) l ∧ w.heap.size < g ∧ Below w.heap.size w w' := by
  have HA : Hid (TgsAt w a l) := h
  have HTo : ∀ w0, TgsAt w0 a l → Calls Tryd.prog 110 #[.slice a n c] w0 fun e w' => e = .returned (.slice (some ⟨w0.heap.size, 0, none⟩) n n) ∧ TgsAt w' (some ⟨w0.heap.size, 0, none⟩) l ∧ Below w0.heap.size w0 w' ∧ w0.heap.size < w'.heap.size := fun w0 h0 => toTgS_any a c n l w0 hn h0 hb
  clear h hn
  go_enter Tryd.func73, Tryd.ntmps73
  go_wp2_with (first
    | (with_reducible refine wpList_boxV (w := w) (by with_unfolding_all rfl) 50 (.tmp 0) (by with_unfolding_all rfl) (rtv v e a n c) (by with_unfolding_all rfl) ?_; intro w1 hA1 hB1 hS1; have z1 : w.heap.size < w1.heap.size := (by omega); clear hS1)
    | (with_reducible refine wpList_allocV (w := w1) (by with_unfolding_all rfl) 63 (by with_unfolding_all rfl) (rtv 0 0 none 0 0) Tryd.infoTsz ?_; intro w2 hA2 hB2 hS2; have z2 : w1.heap.size < w2.heap.size := (by omega); clear hS2)
    | (with_reducible refine wpList_allocV (w := w2) (by with_unfolding_all rfl) 63 (by with_unfolding_all rfl) (rtv 0 0 none 0 0) Tryd.infoTsz ?_; intro w3 hA3 hB3 hS3; have z3 : w2.heap.size < w3.heap.size := (by omega); clear hS3; have V3 := (hA1.below hB2 z1).below hB3 (by omega); have R3 := hA2.below hB3 z2; have b03 : Below w.heap.size w w3 := (hB1.trans (hB2.mono (by omega))).trans (hB3.mono (by omega)); obtain ⟨q0, q1, q2⟩ := V3.rt3)
    | (with_reducible refine wpList_cellV (w := w3) (by with_unfolding_all rfl) 2 (.tmp 6) (.tmp 5) (by with_unfolding_all rfl) w2.heap.size 0 (rtv 0 0 none 0 0) (rtv v 0 none 0 0) (.int .i64 v) (by with_unfolding_all rfl) (by with_unfolding_all rfl) rfl Tryd.size1Int hA3 (by decide) (by with_unfolding_all rfl) ?_; intro wa hAa hBa hFa hSa; have za : w2.heap.size < wa.heap.size := (by omega); clear hSa; have Va := V3.below (hBa _ (Nat.le_refl _)) (by omega); have Ra := R3.below (hBa _ (Nat.le_refl _)) (by omega); have b0a : Below w.heap.size w wa := b03.trans (hBa _ (by omega)); obtain ⟨s0, s1, s2⟩ := Va.rt3)
    | (with_reducible refine wpList_cellV (w := wa) (by with_unfolding_all rfl) 2 (.tmp 9) (.tmp 8) (by with_unfolding_all rfl) w2.heap.size 1 (rtv v 0 none 0 0) (rtv v e none 0 0) (.int .i64 e) (by with_unfolding_all rfl) (by with_unfolding_all rfl) rfl Tryd.size1Int hAa (by simp [rtv]) (by with_unfolding_all rfl) ?_; intro w4 hA4 hB4 hF4 hS4; have z4 : w2.heap.size < w4.heap.size := (by omega); clear hS4; have V4 := Va.below (hB4 _ (Nat.le_refl _)) (by omega); have R4 := Ra.below (hB4 _ (Nat.le_refl _)) (by omega); have b04 : Below w.heap.size w w4 := b0a.trans (hB4 _ (by omega)); obtain ⟨r0, r1, r2⟩ := V4.rt3)
    | (go_at_call 110; refine (HTo w4 (HA.out.below b04)).mono ?_; rintro e w5 ⟨rfl, hI5, hB5, hL5⟩; have V5 := V4.below hB5 (by omega); have A5 := hA4.below hB5 z4; have R5 := R4.below hB5 (by omega); have b05 : Below w.heap.size w w5 := b04.trans (hB5.mono (by omega)))
    | (with_reducible refine wpList_cellV (w := w5) (by with_unfolding_all rfl) 61 (.tmp 13) (.tmp 12) (by with_unfolding_all rfl) w2.heap.size 2 (rtv v e none 0 0) (rtv v e (some ⟨w4.heap.size, 0, none⟩) n n) (.slice (some ⟨w4.heap.size, 0, none⟩) n n) (by with_unfolding_all rfl) (by with_unfolding_all rfl) rfl Tryd.size1Tgs A5 (by simp [rtv]) (by with_unfolding_all rfl) ?_; intro w6 hA6 hB6 hF6 hS6; have z6 : w2.heap.size < w6.heap.size := (by omega); clear hS6; have R6 := R5.below (hB6 _ (Nat.le_refl _)) (by omega); have b06 : Below w.heap.size w w6 := b05.trans (hB6 _ (by omega)); have I6 := hI5.far hF6 (by omega))
    | (with_reducible refine wpList_loadV (w := w6) (by with_unfolding_all rfl) 63 (.tmp 3) (by with_unfolding_all rfl) w2.heap.size (rtv v e (some ⟨w4.heap.size, 0, none⟩) n n) (by with_unfolding_all rfl) hA6 Tryd.undTs 3 Tryd.sizeTs (by with_unfolding_all rfl) ?_)
    | (with_reducible refine wpList_storeV (w := w6) (by with_unfolding_all rfl) 63 (.tmp 2) (.tmp 14) (by with_unfolding_all rfl) w1.heap.size (rtv 0 0 none 0 0) (rtv v e (some ⟨w4.heap.size, 0, none⟩) n n) (by with_unfolding_all rfl) (by with_unfolding_all rfl) R6 3 Tryd.sizeTs (by with_unfolding_all rfl) (by with_unfolding_all rfl) (rtv_one _ _ _ _ _) ?_; intro w7 hA7 hB7 hF7 hS7; have I7 := I6.far hF7 (by omega); have b07 : Below w.heap.size w w7 := b06.trans (hB7 _ (by omega))))
  exact bodyPost_ret (results_V (t := 63) rfl _ w1.heap.size _ rfl hA7 Tryd.undTs 3 Tryd.sizeTs rfl) rfl ⟨w4.heap.size, rfl, I7, by omega, b07⟩
theorem toTs_any (v e : Int) (a : Option Addr) (c n : Nat) (l : List TarV) (w : World) (hn : l.length = n) (h : TgsAt w a l) (hb : n ≤ 1048576) :
    Calls Tryd.prog 73 #[.agg #[.int .i64 v, .int .i64 e, .slice a n c]] w fun r w' => ∃ g, r = .returned (.agg #[.int .i64 v, .int .i64 e, .slice (some ⟨g, 0, none⟩) n n]) ∧ TgsAt w' (some ⟨g, 0, none⟩) l ∧ Below w.heap.size w w' :=
  (toTs_at v e a c n l w hn h hb).mono fun r w' ⟨g, h1, h2, _, h3⟩ => ⟨g, h1, h2, h3⟩
set_option maxRecDepth 100000 in
set_option maxHeartbeats 1000000 in
theorem eqTs_any (v e : Int) (a1 a2 : Option Addr) (c1 c2 n : Nat) (l : List TarV) (w : World) (hn : l.length = n) (h1 : TgsAt w a1 l) (h2 : TgsAt w a2 l) (hb : n ≤ maxLen) :
    Calls Tryd.prog 82 #[.agg #[.int .i64 v, .int .i64 e, .slice a1 n c1], .agg #[.int .i64 v, .int .i64 e, .slice a2 n c2]] w fun e w' => e = .returned (.bool true) ∧ Below w.heap.size w w' := by
  have HS0 := KpF2.start h1 h2
  have hE : ∀ w0, Hid (KpF2 w a1 a2 l w0) → Calls Tryd.prog 118 #[.slice a1 n c1, .slice a2 n c2] w0 fun e w' => e = .returned (.bool true) ∧ Below w0.heap.size w0 w' := fun w0 h0 => eqTgS_any a1 a2 c1 c2 n l w0 hn h0.out.s1 h0.out.s2 hb
  have ex : (v == v) = true := by simp
  have ey : (e == e) = true := by simp
  clear h1 h2 hn
  go_enter Tryd.func82, Tryd.ntmps82
  go_wp2_with (first
    | (with_reducible refine wpList_boxV (w := w) (by with_unfolding_all rfl) 63 (.tmp 0) (by with_unfolding_all rfl) (rtv v e a1 n c1) (by with_unfolding_all rfl) ?_; intro w1 hA1 hB1 hS1; have z1 : w.heap.size < w1.heap.size := (by omega); clear hS1; have HS1 := KpF2.call HS0 hB1)
    | (with_reducible refine wpList_boxV (w := w1) (by with_unfolding_all rfl) 63 (.tmp 1) (by with_unfolding_all rfl) (rtv v e a2 n c2) (by with_unfolding_all rfl) ?_; intro w2 hA2 hB2 hS2; clear hS2; obtain ⟨p0, p1, p2⟩ := (hA1.below hB2 z1).rt3; obtain ⟨q0, q1, q2⟩ := hA2.rt3; have HS2 := KpF2.call HS1 hB2)
    | (go_at_call 118; with_reducible refine (hE w2 HS2).mono ?_; rintro e w3 ⟨rfl, hB3⟩; have HS3 := KpF2.call HS2 hB3))
  go_ret
  exact ⟨rfl, HS3.out.below⟩
end Go.Proofs.YtdfglpbappeoaabDoor
