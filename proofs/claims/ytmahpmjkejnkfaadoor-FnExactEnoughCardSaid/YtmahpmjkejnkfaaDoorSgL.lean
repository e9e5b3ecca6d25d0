/- The laws' helpers of what is signed: how much room it takes, turned to the program's, held against another. -/
import Derived.Test.YtmahpmjkejnkfaaDoorMetS
import Derived.Test.YtmahpmjkejnkfaaDoorBld
namespace Go.Proofs.YtmahpmjkejnkfaaDoor
open Go.RowKit
set_option linter.unusedVariables false
theorem Tryd.undLS : ∃ d, Tryd.prog.underlying 65 = some d ∧ d.isRow = true := ⟨_, Tryd.underlying65, rfl⟩
theorem Tryd.sizeLS : (Tryd.prog.info? 65).map (·.size) = some 3 := by kernel_rfl
theorem Tryd.infoSg : (Tryd.prog.info? 57).map (fun i => (i.zero, i.size, i.bytes)) = some (some (.agg #[.int .i64 0, .int .i64 0, .int .i64 0]), 3, 24) := by kernel_rfl
theorem Tryd.infoSd : (Tryd.prog.info? 35).map (fun i => i.zero) = some (some (.agg (sgv ⟨#[]⟩ none 0 0).toArray)) := by kernel_rfl
theorem Tryd.undSd : ∃ d, Tryd.prog.underlying 35 = some d ∧ d.isRow = true := ⟨_, Tryd.underlying35, rfl⟩
theorem Tryd.sizeSd : (Tryd.prog.info? 35).map (·.size) = some 2 := by kernel_rfl
theorem Tryd.undLSd : ∃ d, Tryd.prog.underlying 27 = some d ∧ d.isRow = true := ⟨_, Tryd.underlying27, rfl⟩
theorem Tryd.sizeLSd : (Tryd.prog.info? 27).map (·.size) = some 2 := by kernel_rfl

set_option maxRecDepth 100000 in
set_option maxHeartbeats 1000000 in
theorem toS_any (k e s : Int) (w : World) :
    Calls Tryd.prog 41 #[.agg #[.int .i64 k, .int .i64 e, .int .i64 s]] w fun r w' => r = .returned (.agg #[.int .i64 k, .int .i64 e, .int .i64 s]) ∧ Below w.heap.size w w' := by
  go_enter Tryd.func41, Tryd.ntmps41
  go_wp2
  refine bodyPost_ret (v := SVal k e s) (by simp [results, Tryd.results41, go_sem, SVal, svs]) rfl ⟨rfl, ?_⟩
  exact (((Below.refl _ _).alloc (Nat.le_refl _) _).alloc (by rw [szA]; omega) _).alloc (by rw [szA, szA]; omega) _
set_option maxRecDepth 100000 in
set_option maxHeartbeats 1000000 in
theorem szSd_any (t : ByteArray) (a : Option Addr) (n c : Nat) (w : World) (hn : n ≤ maxLen) (ht : t.size ≤ maxLen) :
    Calls Tryd.prog 6 #[.agg #[.string t, .slice a n c], .int .i64 1048576] w fun r w' => (∃ z : Int, r = .returned (.int .i64 z) ∧ (0 ≤ z → n ≤ 1048576)) ∧ Below w.heap.size w w' := by
  unfold maxLen at hn ht
  by_cases h1 : 1048576 - (t.size : Int) < 0
  · go_enter Tryd.func6, Tryd.ntmps6
    go_wp2_with (first
      | (with_reducible refine wpList_boxV (w := w) (by with_unfolding_all rfl) 27 (.tmp 0) (by with_unfolding_all rfl) (sgv t a n c) (by with_unfolding_all rfl) ?_; intro w1 hA1 hB1 hS1; obtain ⟨p0, p1⟩ := hA1.sg; clear hS1)
      | (go_at_call 21; go_in))
    go_ret
    exact ⟨⟨_, rfl, fun h => absurd h (by omega)⟩, hB1⟩
  obtain ⟨q, hq⟩ : ∃ q, 1048576 - (t.size : Int) = q := ⟨_, rfl⟩
  have hq1 : q ≤ 1048576 := by omega
  have hq0 : 0 ≤ q := by omega
  by_cases h2 : q - (n : Int) < 0
  · go_enter Tryd.func6, Tryd.ntmps6
    go_wp2_with (first
      | (with_reducible refine wpList_boxV (w := w) (by with_unfolding_all rfl) 27 (.tmp 0) (by with_unfolding_all rfl) (sgv t a n c) (by with_unfolding_all rfl) ?_; intro w1 hA1 hB1 hS1; obtain ⟨p0, p1⟩ := hA1.sg; clear hS1)
      | (go_at_call 21; go_in))
    go_ret
    exact ⟨⟨_, rfl, fun h => absurd h (by omega)⟩, hB1⟩
  · have h2' : 0 ≤ q - (n : Int) := by omega
    go_enter Tryd.func6, Tryd.ntmps6
    go_wp2_with (first
      | (with_reducible refine wpList_boxV (w := w) (by with_unfolding_all rfl) 27 (.tmp 0) (by with_unfolding_all rfl) (sgv t a n c) (by with_unfolding_all rfl) ?_; intro w1 hA1 hB1 hS1; obtain ⟨p0, p1⟩ := hA1.sg; clear hS1)
      | (go_at_call 21; go_in))
    go_ret
    exact ⟨⟨_, rfl, fun h => by omega⟩, hB1⟩
def sgL (l : List SigV) : List (List Value) := l.map fun x => svs x.k x.e x.s
theorem sgL_len (l : List SigV) : (sgL l).length = l.length := List.length_map _
theorem sgL_get {l : List SigV} {i : Nat} (h : i < l.length) : (sgL l)[i]'(by rw [sgL_len]; exact h) = svs l[i].k l[i].e l[i].s := by unfold sgL; rw [List.getElem_map]
theorem sgL_all (l : List SigV) : ∀ x ∈ sgL l, x.length = 3 := fun x hx => by
  unfold sgL at hx
  obtain ⟨y, _, rfl⟩ := List.mem_map.1 hx
  rfl
theorem BldV.sgs {w : World} {g n : Nat} {l : List SigV} (h : BldV w g 3 n (sgL l) n) (hn : l.length = n) : SgsAt w (some ⟨g, 0, none⟩) l := fun i hi => by
  have h1 := h.rng i (by rw [sgL_len]; exact hi) (by omega)
  rw [sgL_get hi] at h1
  refine ⟨g, 0, rfl, ?_, ?_, ?_⟩
  · rw [Nat.zero_add]; exact h1 0 _ rfl
  · rw [Nat.zero_add]; exact h1 1 _ rfl
  · rw [Nat.zero_add]; exact h1 2 _ rfl
structure KpTo (w : World) (a : Option Addr) (l : List SigV) (g n k : Nat) (w' : World) : Prop where
  below : Below w.heap.size w w'
  sg : SgsAt w' a l
  bld : BldV w' g 3 n (sgL l) k
  lt : g < w'.heap.size
  ge : w.heap.size ≤ g
theorem KpTo.call {w w' w2 : World} {a : Option Addr} {l : List SigV} {g n k : Nat} (h : Hid (KpTo w a l g n k w')) (hb : Below w'.heap.size w' w2) : Hid (KpTo w a l g n k w2) :=
  ⟨h.out.below.trans (hb.mono h.out.below.size), h.out.sg.below hb, h.out.bld.below hb h.out.lt, Nat.lt_of_lt_of_le h.out.lt hb.size, h.out.ge⟩
theorem KpTo.there {w w' : World} {a : Option Addr} {l : List SigV} {g n k : Nat} (h : Hid (KpTo w a l g n k w')) (hk : k < n) : w'.there g (k * 3) 3 := there_part h.out.bld.ths hk
theorem KpTo.step {w w' : World} {a : Option Addr} {l : List SigV} {g n k : Nat} {x y z : Int} (h : Hid (KpTo w a l g n k w')) (h0 : Hid (SgsAt w a l)) (hk : k < n) (hn : l.length = n) (he : Hid (True → ∃ h : k < l.length, svs l[k].k l[k].e l[k].s = svs x y z)) : Hid (KpTo w a l g n (k + 1) (w'.setCells g (k * 3) (svs x y z))) := by
  obtain ⟨hkl, he⟩ := he.out trivial
  have hb : Below w.heap.size w (w'.setCells g (k * 3) (svs x y z)) := h.out.below.trans (below_set h.out.ge)
  refine ⟨hb, h0.out.below hb, ?_, by rw [setCells_size]; exact h.out.lt, h.out.ge⟩
  rw [← he, ← sgL_get hkl]
  exact h.out.bld.step hk (by rw [sgL_len]; exact hkl) (sgL_all l)
set_option maxRecDepth 100000 in
set_option maxHeartbeats 1000000 in
theorem toSgS_any (a : Option Addr) (c n : Nat) (l : List SigV) (w : World) (hn : l.length = n) (h : SgsAt w a l) (hb : n ≤ 1048576) :
    Calls Tryd.prog 25 #[.slice a n c] w fun e w' => e = .returned (.slice (some ⟨w.heap.size, 0, none⟩) n n) ∧ SgsAt w' (some ⟨w.heap.size, 0, none⟩) l ∧ Below w.heap.size w w' ∧ w.heap.size < w'.heap.size := by
  have HA : Hid (SgsAt w a l) := h
  have HN : Hid (l.length = n) := hn
  clear h hn
  obtain ⟨i0, hi, hz0, hz1, hz2⟩ := info_parts Tryd.infoSg
  go_enter Tryd.func25, Tryd.ntmps25
  go_wp2_with (first
    | (at_make; refine wpList_make_full _ rfl _ _ 33 rfl w.heap.size 57 i0 _ 3 Tryd.underlying33 hi hz0 hz1 _ _ _ _ n rfl rfl (by omega) (by omega) (by rw [hz2]; omega) (by unfold maxLen; omega) (Nat.le_refl _) ?_))
  intro w1 hown1 hgr1
  have hb1 : Below w.heap.size w w1 := (Below.refl _ _).grown hgr1 (Nat.le_refl _) (fun _ h => by cases h)
  have HS1 : Hid (KpTo w a l w.heap.size n 0 w1) := ⟨hb1, HA.out.below hb1, BldV.made hown1, (hown1.lt w.heap.size rfl).2, Nat.le_refl _⟩
  clear hown1 hgr1 hi hz0 hz1 hz2 hb1
  go_wp2_with fail
  go_loopw [4] (fun i wr => ∃ k : Nat, i = .int .i64 (k : Int) ∧ k ≤ n ∧ Hid (KpTo w a l w.heap.size n k wr)) (fun i _ => n - (intOf i).toNat)
  case atStart => exact ⟨0, rfl, Nat.zero_le _, HS1⟩
  case round =>
    clear HS1
    obtain ⟨k, rfl, hk, HS⟩ := hrel
    by_cases hlt : k < n
    case neg =>
      obtain rfl : k = n := by omega
      go_wp2
      go_ret
      exact ⟨rfl, HS.out.bld.sgs HN.out, HS.out.below, HS.out.lt⟩
    have hkl : k < l.length := by have := HN.out; omega
    obtain ⟨b, o, rfl, c0, c1, c2⟩ := HS.out.sg k hkl
    obtain ⟨x, hx⟩ : ∃ x, l[k].k = x := ⟨_, rfl⟩
    obtain ⟨y, hy⟩ : ∃ y, l[k].e = y := ⟨_, rfl⟩
    obtain ⟨z, hz⟩ : ∃ z, l[k].s = z := ⟨_, rfl⟩
    have HE : Hid (True → ∃ h : k < l.length, svs l[k].k l[k].e l[k].s = svs x y z) := fun _ => ⟨hkl, by rw [hx, hy, hz]⟩
    rw [hx] at c0
    rw [hy] at c1
    rw [hz] at c2
    clear hx hy hz hkl
    have hT : ∀ w0, Calls Tryd.prog 41 #[.agg #[.int .i64 x, .int .i64 y, .int .i64 z]] w0 fun r w' => r = .returned (.agg #[.int .i64 x, .int .i64 y, .int .i64 z]) ∧ Below w0.heap.size w0 w' := fun w0 => toS_any x y z w0
    have lk : (k : Int) < n := by omega
    have l0 : (0 : Int) ≤ k := by omega
    go_wp2_with (first
      | (go_at_call 41; with_reducible refine (hT _).mono ?_; rintro r w5 ⟨rfl, hB5⟩; have HS5 := KpTo.call HS hB5)
      | (with_reducible refine wpList_storeAt (w := w5) (by with_unfolding_all rfl) 57 (.tmp 21) (.tmp 20) (by with_unfolding_all rfl) w.heap.size (k * 3) 3 (svs x y z) (by with_unfolding_all rfl) (by with_unfolding_all rfl) (KpTo.there HS5 hlt) Tryd.sizeS rfl (svs_one x y z) ?_))
    go_roundw
    case rel => exact ⟨k + 1, by go_num, hlt, KpTo.step HS5 HA hlt HN.out HE⟩
    case measure => simp [intOf]; omega
theorem SgsAt.far {w w' : World} {g b : Nat} {l : List SigV} (h : SgsAt w (some ⟨b, 0, none⟩) l) (hF : ∀ x : Addr, x.block ≠ g → w'.cell? x = w.cell? x ∧ w'.frozen? x = w.frozen? x) (hne : b ≠ g) : SgsAt w' (some ⟨b, 0, none⟩) l := fun i hi => by
  obtain ⟨b', o', h1, h2, h3, h4⟩ := h i hi
  injection h1 with h1
  injection h1 with e1 e2
  subst e1 e2
  exact ⟨b, 0, rfl, ((hF _ hne).1).trans h2, ((hF _ hne).1).trans h3, ((hF _ hne).1).trans h4⟩
theorem Tryd.size1Str : (Tryd.prog.info? 9).map (·.size) = some 1 := by kernel_rfl
theorem Tryd.size1Sgs : (Tryd.prog.info? 33).map (·.size) = some 1 := by kernel_rfl
theorem sgv_one (t : ByteArray) (a : Option Addr) (n c : Nat) : ∀ v ∈ sgv t a n c, v.oneCell' = true := by
  intro v hv
  simp [sgv] at hv
  rcases hv with h | h <;> (rw [h]; rfl)
set_option maxRecDepth 100000 in
set_option maxHeartbeats 1000000 in
theorem toSd_any (t : ByteArray) (a : Option Addr) (c n : Nat) (l : List SigV) (w : World) (hn : l.length = n) (h : SgsAt w a l) (hb : n ≤ 1048576) :
    Calls Tryd.prog 9 #[.agg #[.string t, .slice a n c]] w fun e w' => ∃ g, e = .returned (.agg #[.string t, .slice (some ⟨g, 0, none⟩) n n]) ∧ SgsAt w' (some ⟨g, 0, none⟩) l ∧ Below w.heap.size w w' := by
  have HA : Hid (SgsAt w a l) := h
  have HTo : ∀ w0, SgsAt w0 a l → Calls Tryd.prog 25 #[.slice a n c] w0 fun e w' => e = .returned (.slice (some ⟨w0.heap.size, 0, none⟩) n n) ∧ SgsAt w' (some ⟨w0.heap.size, 0, none⟩) l ∧ Below w0.heap.size w0 w' ∧ w0.heap.size < w'.heap.size := fun w0 h0 => toSgS_any a c n l w0 hn h0 hb
  clear h hn
  go_enter Tryd.func9, Tryd.ntmps9
  go_wp2_with (first
    | (with_reducible refine wpList_boxV (w := w) (by with_unfolding_all rfl) 27 (.tmp 0) (by with_unfolding_all rfl) (sgv t a n c) (by with_unfolding_all rfl) ?_; intro w1 hA1 hB1 hS1; have z1 : w.heap.size < w1.heap.size := (by omega); clear hS1)
    | (with_reducible refine wpList_allocV (w := w1) (by with_unfolding_all rfl) 35 (by with_unfolding_all rfl) (sgv ⟨#[]⟩ none 0 0) Tryd.infoSd ?_; intro w2 hA2 hB2 hS2; have z2 : w1.heap.size < w2.heap.size := (by omega); clear hS2)
    | (with_reducible refine wpList_allocV (w := w2) (by with_unfolding_all rfl) 35 (by with_unfolding_all rfl) (sgv ⟨#[]⟩ none 0 0) Tryd.infoSd ?_; intro w3 hA3 hB3 hS3; have z3 : w2.heap.size < w3.heap.size := (by omega); clear hS3; have V3 := (hA1.below hB2 z1).below hB3 (by omega); have R3 := hA2.below hB3 z2; have b03 : Below w.heap.size w w3 := (hB1.trans (hB2.mono (by omega))).trans (hB3.mono (by omega)); obtain ⟨q0, q1⟩ := V3.sg)
    | (with_reducible refine wpList_cellV (w := w3) (by with_unfolding_all rfl) 9 (.tmp 6) (.tmp 5) (by with_unfolding_all rfl) w2.heap.size 0 (sgv ⟨#[]⟩ none 0 0) (sgv t none 0 0) (.string t) (by with_unfolding_all rfl) (by with_unfolding_all rfl) rfl Tryd.size1Str hA3 (by decide) (by with_unfolding_all rfl) ?_; intro w4 hA4 hB4 hF4 hS4; have z4 : w2.heap.size < w4.heap.size := (by omega); clear hS4; have V4 := V3.below (hB4 _ (Nat.le_refl _)) (by omega); have R4 := R3.below (hB4 _ (Nat.le_refl _)) (by omega); have b04 : Below w.heap.size w w4 := b03.trans (hB4 _ (by omega)); obtain ⟨r0, r1⟩ := V4.sg)
    | (go_at_call 25; refine (HTo w4 (HA.out.below b04)).mono ?_; rintro e w5 ⟨rfl, hI5, hB5, hL5⟩; have V5 := V4.below hB5 (by omega); have A5 := hA4.below hB5 z4; have R5 := R4.below hB5 (by omega); have b05 : Below w.heap.size w w5 := b04.trans (hB5.mono (by omega)))
    | (with_reducible refine wpList_cellV (w := w5) (by with_unfolding_all rfl) 33 (.tmp 10) (.tmp 9) (by with_unfolding_all rfl) w2.heap.size 1 (sgv t none 0 0) (sgv t (some ⟨w4.heap.size, 0, none⟩) n n) (.slice (some ⟨w4.heap.size, 0, none⟩) n n) (by with_unfolding_all rfl) (by with_unfolding_all rfl) rfl Tryd.size1Sgs A5 (by simp [sgv]) (by with_unfolding_all rfl) ?_; intro w6 hA6 hB6 hF6 hS6; have z6 : w2.heap.size < w6.heap.size := (by omega); clear hS6; have R6 := R5.below (hB6 _ (Nat.le_refl _)) (by omega); have b06 : Below w.heap.size w w6 := b05.trans (hB6 _ (by omega)); have I6 := hI5.far hF6 (by omega))
    | (with_reducible refine wpList_loadV (w := w6) (by with_unfolding_all rfl) 35 (.tmp 3) (by with_unfolding_all rfl) w2.heap.size (sgv t (some ⟨w4.heap.size, 0, none⟩) n n) (by with_unfolding_all rfl) hA6 Tryd.undSd 2 Tryd.sizeSd (by with_unfolding_all rfl) ?_)
    | (with_reducible refine wpList_storeV (w := w6) (by with_unfolding_all rfl) 35 (.tmp 2) (.tmp 11) (by with_unfolding_all rfl) w1.heap.size (sgv ⟨#[]⟩ none 0 0) (sgv t (some ⟨w4.heap.size, 0, none⟩) n n) (by with_unfolding_all rfl) (by with_unfolding_all rfl) R6 2 Tryd.sizeSd (by with_unfolding_all rfl) (by with_unfolding_all rfl) (sgv_one _ _ _ _) ?_; intro w7 hA7 hB7 hF7 hS7; have I7 := I6.far hF7 (by omega); have b07 : Below w.heap.size w w7 := b06.trans (hB7 _ (by omega))))
  exact bodyPost_ret (results_V (t := 35) rfl _ w1.heap.size _ rfl hA7 Tryd.undSd 2 Tryd.sizeSd rfl) rfl ⟨w4.heap.size, rfl, I7, b07⟩
set_option maxRecDepth 100000 in
set_option maxHeartbeats 1000000 in
theorem eqSg1 (x y z : Int) (w : World) :
    Calls Tryd.prog 45 #[.agg #[.int .i64 x, .int .i64 y, .int .i64 z], .agg #[.int .i64 x, .int .i64 y, .int .i64 z]] w fun r w' => r = .returned (.bool true) ∧ Below w.heap.size w w' := by
  have e1 : (x == x) = true := by simp
  have e2 : (y == y) = true := by simp
  have e3 : (z == z) = true := by simp
  go_enter Tryd.func45, Tryd.ntmps45
  go_wp2_with (first
    | (with_reducible refine wpList_boxV (w := w) (by with_unfolding_all rfl) 57 (.tmp 0) (by with_unfolding_all rfl) (svs x y z) (by with_unfolding_all rfl) ?_; intro w1 hA1 hB1 hS1; have z1 : w.heap.size < w1.heap.size := (by omega); clear hS1)
    | (with_reducible refine wpList_boxV (w := w1) (by with_unfolding_all rfl) 57 (.tmp 1) (by with_unfolding_all rfl) (svs x y z) (by with_unfolding_all rfl) ?_; intro w2 hA2 hB2 hS2; clear hS2; obtain ⟨p0, p1, p2⟩ := (hA1.below hB2 z1).sig; obtain ⟨q0, q1, q2⟩ := hA2.sig))
  go_ret
  exact ⟨rfl, hB1.trans (hB2.mono (by omega))⟩
structure KpE2 (w : World) (a1 a2 : Option Addr) (l : List SigV) (w' : World) : Prop where
  below : Below w.heap.size w w'
  s1 : SgsAt w' a1 l
  s2 : SgsAt w' a2 l
theorem KpE2.start {w : World} {a1 a2 : Option Addr} {l : List SigV} (h1 : SgsAt w a1 l) (h2 : SgsAt w a2 l) : Hid (KpE2 w a1 a2 l w) := ⟨Below.refl _ _, h1, h2⟩
theorem KpE2.call {w w' w2 : World} {a1 a2 : Option Addr} {l : List SigV} (h : Hid (KpE2 w a1 a2 l w')) (hb : Below w'.heap.size w' w2) : Hid (KpE2 w a1 a2 l w2) := ⟨h.out.below.trans (hb.mono h.out.below.size), h.out.s1.below hb, h.out.s2.below hb⟩
theorem KpE2.drew {w w' : World} {a1 a2 : Option Addr} {l : List SigV} (h : Hid (KpE2 w a1 a2 l w')) : Hid (KpE2 w a1 a2 l w'.drew) := ⟨h.out.below.drew, h.out.s1, h.out.s2⟩
theorem KpE2.six {w w' : World} {b1 o1 b2 o2 i : Nat} {l : List SigV} {x y z : Int} (hr : Hid (True → ∃ h : i < l.length, l[i].k = x ∧ l[i].e = y ∧ l[i].s = z)) (h : Hid (KpE2 w (some ⟨b1, o1, none⟩) (some ⟨b2, o2, none⟩) l w')) :
    w'.cell? ⟨b1, o1 + i * 3, none⟩ = some (.int .i64 x) ∧ w'.cell? ⟨b1, o1 + i * 3 + 1, none⟩ = some (.int .i64 y) ∧ w'.cell? ⟨b1, o1 + i * 3 + 2, none⟩ = some (.int .i64 z) ∧ w'.cell? ⟨b2, o2 + i * 3, none⟩ = some (.int .i64 x) ∧ w'.cell? ⟨b2, o2 + i * 3 + 1, none⟩ = some (.int .i64 y) ∧ w'.cell? ⟨b2, o2 + i * 3 + 2, none⟩ = some (.int .i64 z) ∧ Hid (KpE2 w (some ⟨b1, o1, none⟩) (some ⟨b2, o2, none⟩) l w') := by
  obtain ⟨hi, rfl, rfl, rfl⟩ := hr.out trivial
  obtain ⟨b', o', h1, h2, h3, h4⟩ := h.out.s1 i hi
  injection h1 with h1
  injection h1 with e1 e2
  subst e1 e2
  obtain ⟨b', o', k1, k2, k3, k4⟩ := h.out.s2 i hi
  injection k1 with k1
  injection k1 with e1 e2
  subst e1 e2
  exact ⟨h2, h3, h4, k2, k3, k4, h⟩
set_option maxRecDepth 100000 in
set_option maxHeartbeats 1000000 in
theorem eqSgS_any (a1 a2 : Option Addr) (c1 c2 n : Nat) (l : List SigV) (w : World) (hn : l.length = n) (h1 : SgsAt w a1 l) (h2 : SgsAt w a2 l) (hb : n ≤ maxLen) :
    Calls Tryd.prog 30 #[.slice a1 n c1, .slice a2 n c2] w fun e w' => e = .returned (.bool true) ∧ Below w.heap.size w w' := by
  unfold maxLen at hb
  have HN : Hid (l.length = n) := hn
  have HS0 := KpE2.start h1 h2
  clear h1 h2 hn
  go_enter Tryd.func30, Tryd.ntmps30
  go_wp2_with fail
  go_loopw [5] (fun i wr => ∃ k : Nat, i = .int .i64 (k : Int) ∧ k ≤ n ∧ Hid (KpE2 w a1 a2 l wr)) (fun i _ => n - (intOf i).toNat)
  case atStart => exact ⟨0, rfl, Nat.zero_le _, HS0⟩
  case round =>
    clear HS0
    obtain ⟨k, rfl, hk, HS⟩ := hrel
    by_cases hlt : k < n
    case neg =>
      obtain rfl : k = n := by omega
      go_wp2
      go_ret
      exact ⟨rfl, HS.out.below⟩
    have hkl : k < l.length := by have := HN.out; omega
    obtain ⟨b1, o1, rfl, c0, c1', c2'⟩ := HS.out.s1 k hkl
    obtain ⟨b2, o2, rfl, d0, d1, d2⟩ := HS.out.s2 k hkl
    obtain ⟨x, hx⟩ : ∃ x, l[k].k = x := ⟨_, rfl⟩
    obtain ⟨y, hy⟩ : ∃ y, l[k].e = y := ⟨_, rfl⟩
    obtain ⟨z, hz⟩ : ∃ z, l[k].s = z := ⟨_, rfl⟩
    have HE : Hid (True → ∃ h : k < l.length, l[k].k = x ∧ l[k].e = y ∧ l[k].s = z) := fun _ => ⟨hkl, hx, hy, hz⟩
    clear hx hy hz hkl c0 c1' c2' d0 d1 d2
    have hT : ∀ w0, Calls Tryd.prog 45 #[.agg #[.int .i64 x, .int .i64 y, .int .i64 z], .agg #[.int .i64 x, .int .i64 y, .int .i64 z]] w0 fun r w' => r = .returned (.bool true) ∧ Below w0.heap.size w0 w' := fun w0 => eqSg1 x y z w0
    have lk : (k : Int) < n := by omega
    have l0 : (0 : Int) ≤ k := by omega
    have HSd := KpE2.drew HS
    clear HS
    go_wp2_with fail
    go_region_held3 (fun w' => w'.cell? ⟨b1, o1 + k * 3, none⟩ = some (.int .i64 x) ∧ w'.cell? ⟨b1, o1 + k * 3 + 1, none⟩ = some (.int .i64 y) ∧ w'.cell? ⟨b1, o1 + k * 3 + 2, none⟩ = some (.int .i64 z) ∧ w'.cell? ⟨b2, o2 + k * 3, none⟩ = some (.int .i64 x) ∧ w'.cell? ⟨b2, o2 + k * 3 + 1, none⟩ = some (.int .i64 y) ∧ w'.cell? ⟨b2, o2 + k * 3 + 2, none⟩ = some (.int .i64 z) ∧ Hid (KpE2 w (some ⟨b1, o1, none⟩) (some ⟨b2, o2, none⟩) l w'))
      (first | exact KpE2.six HE HSd | exact KpE2.six HE (KpE2.call HSd h8))
      (first
        | (go_at_call 45; with_reducible refine (hT _).mono ?_; rintro r w8 ⟨rfl, h8⟩))
    all_goals
      have HS9 := KpE2.call HSd h8
      go_wp2_with fail
      go_roundw
      case rel => exact ⟨k + 1, by go_num, by omega, HS9⟩
      case measure => simp [intOf]; omega
set_option maxRecDepth 100000 in
set_option maxHeartbeats 1000000 in
theorem eqSd_any (t : ByteArray) (a1 a2 : Option Addr) (c1 c2 n : Nat) (l : List SigV) (w : World) (hn : l.length = n) (h1 : SgsAt w a1 l) (h2 : SgsAt w a2 l) (hb : n ≤ maxLen) :
    Calls Tryd.prog 12 #[.agg #[.string t, .slice a1 n c1], .agg #[.string t, .slice a2 n c2]] w fun e w' => e = .returned (.bool true) ∧ Below w.heap.size w w' := by
  have HS0 := KpE2.start h1 h2
  have hE : ∀ w0, Hid (KpE2 w a1 a2 l w0) → Calls Tryd.prog 30 #[.slice a1 n c1, .slice a2 n c2] w0 fun e w' => e = .returned (.bool true) ∧ Below w0.heap.size w0 w' := fun w0 h0 => eqSgS_any a1 a2 c1 c2 n l w0 hn h0.out.s1 h0.out.s2 hb
  clear h1 h2 hn
  have tt := txt_eq t
  go_enter Tryd.func12, Tryd.ntmps12
  go_wp2_with (first
    | (with_reducible refine wpList_boxV (w := w) (by with_unfolding_all rfl) 35 (.tmp 0) (by with_unfolding_all rfl) (sgv t a1 n c1) (by with_unfolding_all rfl) ?_; intro w1 hA1 hB1 hS1; have z1 : w.heap.size < w1.heap.size := (by omega); clear hS1; have HS1 := KpE2.call HS0 hB1)
    | (with_reducible refine wpList_boxV (w := w1) (by with_unfolding_all rfl) 35 (.tmp 1) (by with_unfolding_all rfl) (sgv t a2 n c2) (by with_unfolding_all rfl) ?_; intro w2 hA2 hB2 hS2; clear hS2; obtain ⟨p0, p1⟩ := (hA1.below hB2 z1).sg; obtain ⟨q0, q1⟩ := hA2.sg; have HS2 := KpE2.call HS1 hB2)
    | (go_at_call 30; with_reducible refine (hE w2 HS2).mono ?_; rintro e w3 ⟨rfl, hB3⟩; have HS3 := KpE2.call HS2 hB3))
  go_ret
  exact ⟨rfl, HS3.out.below⟩
end Go.Proofs.YtmahpmjkejnkfaaDoor
