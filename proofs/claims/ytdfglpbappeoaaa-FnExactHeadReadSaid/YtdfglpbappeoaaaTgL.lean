/- The laws' helpers of targets: how much room they take, turned to the program's, held against others. -/
import Derived.Test.YtdfglpbappeoaaaJn2
import Derived.Test.YtdfglpbappeoaaaRlL
import Derived.Deep.RegionHeld3
namespace Go.Proofs.Ytdfglpbappeoaaa
open Go.RowKit
set_option linter.unusedVariables false

theorem Try.infoTg3 : (Try.prog.info? 156).map (fun i => (i.zero, i.size, i.bytes)) = some (some (.agg #[.string ⟨#[]⟩, .string ⟨#[]⟩, .int .i64 0]), 3, 40) := by kernel_rfl
theorem Try.infoTsz : (Try.prog.info? 33).map (fun i => i.zero) = some (some (.agg (rtv 0 0 none 0 0).toArray)) := by kernel_rfl
theorem Try.undTs : ∃ d, Try.prog.underlying 33 = some d ∧ d.isRow = true := ⟨_, Try.underlying33, rfl⟩
theorem Try.sizeTs : (Try.prog.info? 33).map (·.size) = some 3 := by kernel_rfl
theorem Try.size1Tgs : (Try.prog.info? 31).map (·.size) = some 1 := by kernel_rfl
def tgL (l : List TarV) : List (List Value) := l.map fun x => tgv x.nm x.im x.sz
theorem tgL_len (l : List TarV) : (tgL l).length = l.length := List.length_map _
theorem tgL_get {l : List TarV} {i : Nat} (h : i < l.length) : (tgL l)[i]'(by rw [tgL_len]; exact h) = tgv l[i].nm l[i].im l[i].sz := by unfold tgL; rw [List.getElem_map]
theorem tgL_all (l : List TarV) : ∀ x ∈ tgL l, x.length = 3 := fun x hx => by
  unfold tgL at hx
  obtain ⟨y, _, rfl⟩ := List.mem_map.1 hx
  rfl
theorem BldV.tgs {w : World} {g n : Nat} {l : List TarV} (h : BldV w g 3 n (tgL l) n) (hn : l.length = n) : TgsAt w (some ⟨g, 0, none⟩) l := fun i hi => by
  have h1 := h.rng i (by rw [tgL_len]; exact hi) (by omega)
  rw [tgL_get hi] at h1
  refine ⟨g, 0, rfl, ?_, ?_, ?_⟩
  · rw [Nat.zero_add]; exact h1 0 _ rfl
  · rw [Nat.zero_add]; exact h1 1 _ rfl
  · rw [Nat.zero_add]; exact h1 2 _ rfl
structure KpTt (w : World) (a : Option Addr) (l : List TarV) (g n k : Nat) (w' : World) : Prop where
  below : Below w.heap.size w w'
  tg : TgsAt w' a l
  bld : BldV w' g 3 n (tgL l) k
  lt : g < w'.heap.size
  ge : w.heap.size ≤ g
theorem KpTt.call {w w' w2 : World} {a : Option Addr} {l : List TarV} {g n k : Nat} (h : Hid (KpTt w a l g n k w')) (hb : Below w'.heap.size w' w2) : Hid (KpTt w a l g n k w2) :=
  ⟨h.out.below.trans (hb.mono h.out.below.size), h.out.tg.below hb, h.out.bld.below hb h.out.lt, Nat.lt_of_lt_of_le h.out.lt hb.size, h.out.ge⟩
theorem KpTt.there {w w' : World} {a : Option Addr} {l : List TarV} {g n k : Nat} (h : Hid (KpTt w a l g n k w')) (hk : k < n) : w'.there g (k * 3) 3 := there_part h.out.bld.ths hk
theorem KpTt.step {w w' : World} {a : Option Addr} {l : List TarV} {g n k : Nat} {x y : ByteArray} {z : Int} (h : Hid (KpTt w a l g n k w')) (h0 : Hid (TgsAt w a l)) (hk : k < n) (hn : l.length = n) (he : Hid (True → ∃ h : k < l.length, tgv l[k].nm l[k].im l[k].sz = tgv x y z)) : Hid (KpTt w a l g n (k + 1) (w'.setCells g (k * 3) (tgv x y z))) := by
  obtain ⟨hkl, he⟩ := he.out trivial
  have hb : Below w.heap.size w (w'.setCells g (k * 3) (tgv x y z)) := h.out.below.trans (below_set h.out.ge)
  refine ⟨hb, h0.out.below hb, ?_, by rw [setCells_size]; exact h.out.lt, h.out.ge⟩
  rw [← he, ← tgL_get hkl]
  exact h.out.bld.step hk (by rw [tgL_len]; exact hkl) (tgL_all l)
theorem TgsAt.far {w w' : World} {g b : Nat} {l : List TarV} (h : TgsAt w (some ⟨b, 0, none⟩) l) (hF : ∀ x : Addr, x.block ≠ g → w'.cell? x = w.cell? x ∧ w'.frozen? x = w.frozen? x) (hne : b ≠ g) : TgsAt w' (some ⟨b, 0, none⟩) l := fun i hi => by
  obtain ⟨b', o', h1, h2, h3, h4⟩ := h i hi
  injection h1 with h1
  injection h1 with e1 e2
  subst e1 e2
  exact ⟨b, 0, rfl, ((hF _ hne).1).trans h2, ((hF _ hne).1).trans h3, ((hF _ hne).1).trans h4⟩
set_option maxRecDepth 100000 in
set_option maxHeartbeats 1000000 in
theorem eqTg1 (x y : ByteArray) (z : Int) (w : World) :
    Calls Try.prog 139 #[.agg #[.string x, .string y, .int .i64 z], .agg #[.string x, .string y, .int .i64 z]] w fun r w' => r = .returned (.bool true) ∧ Below w.heap.size w w' := by
  have e1 := txt_eq x
  have e2 := txt_eq y
  have e3 : (z == z) = true := by simp
  go_enter Try.func139, Try.ntmps139
  go_wp2_with (first
    | (with_reducible refine wpList_boxV (w := w) (by with_unfolding_all rfl) 156 (.tmp 0) (by with_unfolding_all rfl) (tgv x y z) (by with_unfolding_all rfl) ?_; intro w1 hA1 hB1 hS1; have z1 : w.heap.size < w1.heap.size := (by omega); clear hS1)
    | (with_reducible refine wpList_boxV (w := w1) (by with_unfolding_all rfl) 156 (.tmp 1) (by with_unfolding_all rfl) (tgv x y z) (by with_unfolding_all rfl) ?_; intro w2 hA2 hB2 hS2; clear hS2; obtain ⟨p0, p1, p2⟩ := (hA1.below hB2 z1).tg; obtain ⟨q0, q1, q2⟩ := hA2.tg))
  go_ret
  exact ⟨rfl, hB1.trans (hB2.mono (by omega))⟩
structure KpF2 (w : World) (a1 a2 : Option Addr) (l : List TarV) (w' : World) : Prop where
  below : Below w.heap.size w w'
  s1 : TgsAt w' a1 l
  s2 : TgsAt w' a2 l
theorem KpF2.start {w : World} {a1 a2 : Option Addr} {l : List TarV} (h1 : TgsAt w a1 l) (h2 : TgsAt w a2 l) : Hid (KpF2 w a1 a2 l w) := ⟨Below.refl _ _, h1, h2⟩
theorem KpF2.call {w w' w2 : World} {a1 a2 : Option Addr} {l : List TarV} (h : Hid (KpF2 w a1 a2 l w')) (hb : Below w'.heap.size w' w2) : Hid (KpF2 w a1 a2 l w2) := ⟨h.out.below.trans (hb.mono h.out.below.size), h.out.s1.below hb, h.out.s2.below hb⟩
theorem KpF2.drew {w w' : World} {a1 a2 : Option Addr} {l : List TarV} (h : Hid (KpF2 w a1 a2 l w')) : Hid (KpF2 w a1 a2 l w'.drew) := ⟨h.out.below.drew, h.out.s1, h.out.s2⟩
theorem KpF2.six {w w' : World} {b1 o1 b2 o2 i : Nat} {l : List TarV} {x y : ByteArray} {z : Int} (hr : Hid (True → ∃ h : i < l.length, l[i].nm = x ∧ l[i].im = y ∧ l[i].sz = z)) (h : Hid (KpF2 w (some ⟨b1, o1, none⟩) (some ⟨b2, o2, none⟩) l w')) :
    w'.cell? ⟨b1, o1 + i * 3, none⟩ = some (.string x) ∧ w'.cell? ⟨b1, o1 + i * 3 + 1, none⟩ = some (.string y) ∧ w'.cell? ⟨b1, o1 + i * 3 + 2, none⟩ = some (.int .i64 z) ∧ w'.cell? ⟨b2, o2 + i * 3, none⟩ = some (.string x) ∧ w'.cell? ⟨b2, o2 + i * 3 + 1, none⟩ = some (.string y) ∧ w'.cell? ⟨b2, o2 + i * 3 + 2, none⟩ = some (.int .i64 z) ∧ Hid (KpF2 w (some ⟨b1, o1, none⟩) (some ⟨b2, o2, none⟩) l w') := by
  obtain ⟨hi, rfl, rfl, rfl⟩ := hr.out trivial
  obtain ⟨b', o', h1, h2, h3, h4⟩ := h.out.s1 i hi
  injection h1 with h1
  injection h1 with e1 e2
  subst e1 e2
  obtain ⟨b', o', k1, k2, k3, k4⟩ := h.out.s2 i hi
  injection k1 with k1
  injection k1 with e1 e2
  subst e1 e2
  exact ⟨h2, h3, h4, k2, k3, k4, h⟩
set_option maxRecDepth 100000 in
set_option maxHeartbeats 1000000 in
theorem eqTgS_any (a1 a2 : Option Addr) (c1 c2 n : Nat) (l : List TarV) (w : World) (hn : l.length = n) (h1 : TgsAt w a1 l) (h2 : TgsAt w a2 l) (hb : n ≤ maxLen) :
    Calls Try.prog 99 #[.slice a1 n c1, .slice a2 n c2] w fun e w' => e = .returned (.bool true) ∧ Below w.heap.size w w' := by
  unfold maxLen at hb
  have HN : Hid (l.length = n) := hn
  have HS0 := KpF2.start h1 h2
  clear h1 h2 hn
  go_enter Try.func99, Try.ntmps99
  go_wp2_with fail
  go_loopw [5] (fun i wr => ∃ k : Nat, i = .int .i64 (k : Int) ∧ k ≤ n ∧ Hid (KpF2 w a1 a2 l wr)) (fun i _ => n - (intOf i).toNat)
  case atStart => exact ⟨0, rfl, Nat.zero_le _, HS0⟩
  case round =>
    clear HS0
    obtain ⟨k, rfl, hk, HS⟩ := hrel
    by_cases hlt : k < n
    case neg =>
      obtain rfl : k = n := by omega
      go_wp2
      go_ret
      exact ⟨rfl, HS.out.below⟩
    have hkl : k < l.length := by have := HN.out; omega
    obtain ⟨b1, o1, rfl, c0, c1', c2'⟩ := HS.out.s1 k hkl
    obtain ⟨b2, o2, rfl, d0, d1, d2⟩ := HS.out.s2 k hkl
    obtain ⟨x, hx⟩ : ∃ x, l[k].nm = x := ⟨_, rfl⟩
    obtain ⟨y, hy⟩ : ∃ y, l[k].im = y := ⟨_, rfl⟩
    obtain ⟨z, hz⟩ : ∃ z, l[k].sz = z := ⟨_, rfl⟩
    have HE : Hid (True → ∃ h : k < l.length, l[k].nm = x ∧ l[k].im = y ∧ l[k].sz = z) := fun _ => ⟨hkl, hx, hy, hz⟩
    clear hx hy hz hkl c0 c1' c2' d0 d1 d2
    have hT : ∀ w0, Calls Try.prog 139 #[.agg #[.string x, .string y, .int .i64 z], .agg #[.string x, .string y, .int .i64 z]] w0 fun r w' => r = .returned (.bool true) ∧ Below w0.heap.size w0 w' := fun w0 => eqTg1 x y z w0
    have lk : (k : Int) < n := by omega
    have l0 : (0 : Int) ≤ k := by omega
    have HSd := KpF2.drew HS
    clear HS
    go_wp2_with fail
    go_region_held3 (fun w' => w'.cell? ⟨b1, o1 + k * 3, none⟩ = some (.string x) ∧ w'.cell? ⟨b1, o1 + k * 3 + 1, none⟩ = some (.string y) ∧ w'.cell? ⟨b1, o1 + k * 3 + 2, none⟩ = some (.int .i64 z) ∧ w'.cell? ⟨b2, o2 + k * 3, none⟩ = some (.string x) ∧ w'.cell? ⟨b2, o2 + k * 3 + 1, none⟩ = some (.string y) ∧ w'.cell? ⟨b2, o2 + k * 3 + 2, none⟩ = some (.int .i64 z) ∧ Hid (KpF2 w (some ⟨b1, o1, none⟩) (some ⟨b2, o2, none⟩) l w'))
      (first | exact KpF2.six HE HSd | exact KpF2.six HE (KpF2.call HSd h8))
      (first
        | (go_at_call 139; with_reducible refine (hT _).mono ?_; rintro r w8 ⟨rfl, h8⟩))
    all_goals
      have HS9 := KpF2.call HSd h8
      go_wp2_with fail
      go_roundw
      case rel => exact ⟨k + 1, by go_num, by omega, HS9⟩
      case measure => simp [intOf]; omega
structure KpZt (w : World) (a : Option Addr) (l : List TarV) (w' : World) : Prop where
  below : Below w.heap.size w w'
  tg : TgsAt w' a l
theorem KpZt.start {w : World} {a : Option Addr} {l : List TarV} (h : TgsAt w a l) : Hid (KpZt w a l w) := ⟨Below.refl _ _, h⟩
theorem KpZt.call {w w' w2 : World} {a : Option Addr} {l : List TarV} (h : Hid (KpZt w a l w')) (hb : Below w'.heap.size w' w2) : Hid (KpZt w a l w2) := ⟨h.out.below.trans (hb.mono h.out.below.size), h.out.tg.below hb⟩
set_option maxRecDepth 100000 in
set_option maxHeartbeats 1000000 in
theorem eqTs_any (v e : Int) (a1 a2 : Option Addr) (c1 c2 n : Nat) (l : List TarV) (w : World) (hn : l.length = n) (h1 : TgsAt w a1 l) (h2 : TgsAt w a2 l) (hb : n ≤ maxLen) :
    Calls Try.prog 49 #[.agg #[.int .i64 v, .int .i64 e, .slice a1 n c1], .agg #[.int .i64 v, .int .i64 e, .slice a2 n c2]] w fun e w' => e = .returned (.bool true) ∧ Below w.heap.size w w' := by
  have HS0 := KpF2.start h1 h2
  have hE : ∀ w0, Hid (KpF2 w a1 a2 l w0) → Calls Try.prog 99 #[.slice a1 n c1, .slice a2 n c2] w0 fun e w' => e = .returned (.bool true) ∧ Below w0.heap.size w0 w' := fun w0 h0 => eqTgS_any a1 a2 c1 c2 n l w0 hn h0.out.s1 h0.out.s2 hb
  have ex : (v == v) = true := by simp
  have ey : (e == e) = true := by simp
  clear h1 h2 hn
  go_enter Try.func49, Try.ntmps49
  go_wp2_with (first
    | (with_reducible refine wpList_boxV (w := w) (by with_unfolding_all rfl) 33 (.tmp 0) (by with_unfolding_all rfl) (rtv v e a1 n c1) (by with_unfolding_all rfl) ?_; intro w1 hA1 hB1 hS1; have z1 : w.heap.size < w1.heap.size := (by omega); clear hS1; have HS1 := KpF2.call HS0 hB1)
    | (with_reducible refine wpList_boxV (w := w1) (by with_unfolding_all rfl) 33 (.tmp 1) (by with_unfolding_all rfl) (rtv v e a2 n c2) (by with_unfolding_all rfl) ?_; intro w2 hA2 hB2 hS2; clear hS2; obtain ⟨p0, p1, p2⟩ := (hA1.below hB2 z1).rt3; obtain ⟨q0, q1, q2⟩ := hA2.rt3; have HS2 := KpF2.call HS1 hB2)
    | (go_at_call 99; with_reducible refine (hE w2 HS2).mono ?_; rintro e w3 ⟨rfl, hB3⟩; have HS3 := KpF2.call HS2 hB3))
  go_ret
  exact ⟨rfl, HS3.out.below⟩
end Go.Proofs.Ytdfglpbappeoaaa
