/- ConsistencyCheck of the program, for every argument. -/
import Derived.Test.YtdfglpbappeoaabDoorIncI
namespace Go.Proofs.YtdfglpbappeoaabDoor
open Go.RowKit
set_option linter.unusedVariables false

theorem Tryd.slice1 (b o n c : Nat) (h : 1 ≤ n) (hc : n ≤ c) : ∃ a', (∀ w, (Instr.slice 23 (.slice (some ⟨b, o, none⟩) n c) (some (.int .i64 1)) none none).run Tryd.prog w = .ok (.slice a' (n - 1) (c - 1)) w) ∧ (c ≠ 1 → a' = some ⟨b, o + 1, none⟩) := by
  by_cases h1 : c = 1
  · subst h1
    obtain rfl : n = 1 := by omega
    refine ⟨some ⟨b, o, none⟩, fun w => ?_, fun e => absurd rfl e⟩
    simp [Instr.slice, run_underlying Tryd.underlying23, Instr.sliceBounds, run_sliceBound]
  · exact ⟨_, fun w => Tryd.sliceHi b o n c 1 h (by omega) w, fun _ => rfl⟩
theorem powI (f0 : Nat) (w : World) (h1 : 1 ≤ f0) (h2 : f0 ≤ 1099511627776) :
    Calls Tryd.prog 50 #[.int .i64 (f0 : Int)] w fun e w' => e = .returned (.bool (pwB f0)) ∧ w = w' := by
  have ef : (f0 : Int) - 1 = ((f0 - 1 : Nat) : Int) := by omega
  have e9 : (bits .and .i64 (f0 : Int) ((f0 - 1 : Nat) : Int) == 0) = pwB f0 := by rw [← ef]; rfl
  generalize pwB (f0 : Int) = B at *
  go_enter Tryd.func50, Tryd.ntmps50
  go_wp2
  go_ret
  exact ⟨rfl, rfl⟩
/- What holds at the head of a round, by places above. -/
theorem ConAt.rightN {R : Bool} {old root a b p : ByteArray} {L : List ByteArray} {k f s : Nat} (h : ConAt R old root L k f s a b) (hk : k < L.length) (hp : L[k] = p) (hs : s ≠ 0) (hr : Mer.rgt f s = true) : ConAt R old root L (k + 1) (Mer.nx f s).1 (Mer.nx f s).2 (nodeD p a) (nodeD p b) := by
  have := h.right hk hp hs hr
  rw [nx_right hr]
  exact this
theorem ConAt.leftN {R : Bool} {old root a b p : ByteArray} {L : List ByteArray} {k f s : Nat} (h : ConAt R old root L k f s a b) (hk : k < L.length) (hp : L[k] = p) (hs : s ≠ 0) (hr : Mer.rgt f s = false) : ConAt R old root L (k + 1) (Mer.nx f s).1 (Mer.nx f s).2 a (nodeD b p) := by
  have := h.left hk hp hs hr
  rw [nx_left hr]
  exact this
theorem KpC.drewN {w w' : World} {a : Option Addr} {ps : List ByteArray} {f s : Nat} (h : Hid (KpC w a ps f s w')) (n : Nat) : Hid (KpC w a ps f s (w'.drewN n)) :=
  ⟨belowN h.out.below n, h.out.v.drewN n, h.out.sa.drewN n, h.out.arr.drewN n, h.out.pos, h.out.up⟩
set_option maxRecDepth 100000 in
set_option maxHeartbeats 4000000 in
theorem leadI (old root x0 : ByteArray) (M : List ByteArray) (f0 s0 F S : Nat) (a : Option Addr) (c m : Nat) (w : World) (hm : M.length = m) (hc : m + 1 ≤ c) (hA : SA w a (x0 :: M)) (h32 : ∀ x ∈ x0 :: M, x.size = 32) (hmb : m ≤ 1000) (hf0 : f0 ≤ 1099511627776) (hs0 : s0 ≤ 1099511627776) (hFS : Mer.strip f0 s0 = (F, S)) (hk : ArrU w 8 keys) (h0 : 8 < w.heap.size) :
    Calls Tryd.prog 51 #[.agg #[.int .i64 (f0 : Int), .int .i64 (s0 : Int)], .slice a (m + 1) c, .string old, .string root] w fun e w' => e = .returned (.bool (chkC old root M F S x0 x0)) ∧ Below w.heap.size w w' := by
  obtain ⟨b, o, rfl⟩ := hA.base (by simp)
  obtain ⟨a', hsl, ha'⟩ := Tryd.slice1 b o (m + 1) c (by omega) hc
  rw [Nat.add_sub_cancel] at hsl
  have HSM : Hid (∀ w0, SA w0 (some ⟨b, o, none⟩) (x0 :: M) → SA w0 a' M) := fun w0 h k hk => by
    have hc1 : c ≠ 1 := by omega
    rw [ha' hc1]
    exact (h.drop 1) k hk
  obtain ⟨a, ha⟩ : ∃ a : Option Addr, a = some ⟨b, o, none⟩ := ⟨_, rfl⟩
  have HA : Hid (SA w a (x0 :: M)) := by rw [ha]; exact hA
  have HX : Hid (∀ w0, SA w0 a (x0 :: M) → w0.cell? ⟨b, o, none⟩ = some (.string x0)) := fun w0 h => by
    obtain ⟨b', o', e, hcell⟩ := h 0 (by simp)
    rw [ha] at e
    injection e with e
    injection e with e1 e2
    subst e1 e2
    exact hcell
  rw [← ha] at HSM
  have HP : Hid (∀ k (hk : k < M.length), M[k].size = 32) := fun k hk => h32 _ (List.mem_cons_of_mem _ (List.getElem_mem hk))
  have hx32 : x0.size = 32 := h32 x0 (by simp)
  have HM : Hid (M.length = m) := hm
  have HK : Hid (ArrU w 8 keys) := hk
  have HFS : Hid (Mer.strip f0 s0 = (F, S)) := hFS
  obtain ⟨R, hR⟩ : ∃ R, chkC old root M F S x0 x0 = R := ⟨_, rfl⟩
  have HST : Hid (ConAt R old root M 0 F S x0 x0) := ⟨hR.symm, hx32, hx32⟩
  rw [hR]
  clear hR hA h32 hm hk hFS ha' ha hx32
  go_enter Tryd.func51, Tryd.ntmps51
  go_wp2_with (first
    | (with_reducible refine wpList_boxV (w := w) (by with_unfolding_all rfl) 87 (.tmp 0) (by with_unfolding_all rfl) (wvs f0 s0) (by with_unfolding_all rfl) ?_; intro w1 hA1 hB1 hS1; have z1 : w.heap.size < w1.heap.size := (by omega); clear hS1))
  have HC : Hid (KpC w a (x0 :: M) f0 s0 w1) := ⟨hB1, hA1, HA.out.below hB1, HK.out.below hB1 h0, by omega, z1⟩
  clear hA1 hB1 z1
  go_loopw [] (fun wr => ∃ (f' s' : Nat), f' ≤ 1099511627776 ∧ s' ≤ 1099511627776 ∧ Hid (Mer.strip f' s' = (F, S)) ∧ Hid (KpC w a (x0 :: M) f' s' wr)) (fun wr => wm wr w.heap.size)
  case atStart => exact ⟨f0, s0, hf0, hs0, HFS, HC⟩
  case round =>
    clear HFS HC
    obtain ⟨f', s', hf', hs', HD', HC'⟩ := hrel
    have HMs : Hid (wm wr w.heap.size = f') := wm_eq HC'.out.v
    obtain ⟨p0, p1⟩ := HC'.out.v.wlk
    by_cases e1 : f' % 2 = 1
    · as_aux_lemma =>
      have t1 : ((f' : Int) % 2 == 1) = true := beq_iff_eq.2 (by omega)
      have HE : Hid (Mer.strip (f' / 2) (s' / 2) = (F, S)) := by have := HD'.out; rw [strip_go e1] at this; exact this
      have HPs : Hid (0 < f') := by show 0 < f'; omega
      have hH1 : ∀ w0, Calls Tryd.prog 100 #[.agg #[.int .i64 (f' : Int), .int .i64 (s' : Int)]] w0 fun e w' => e = .returned (.agg #[.int .i64 ((f' / 2 : Nat) : Int), .int .i64 ((s' / 2 : Nat) : Int)]) ∧ Below w0.heap.size w0 w' := fun w0 => halvedI f' s' w0 hf' hs'
      clear HD' e1
      go_wp2_with (first
        | (go_at_call 100; refine (hH1 _).mono ?_; rintro e w3 ⟨rfl, hB3⟩; have HC3 := KpC.call HC' hB3)
        | (with_reducible refine wpList_storeV (w := w3) (by with_unfolding_all rfl) 87 (.tmp 4) (.tmp 18) (by with_unfolding_all rfl) w.heap.size (wvs f' s') (wvs (f' / 2) (s' / 2)) (by with_unfolding_all rfl) (by with_unfolding_all rfl) HC3.out.v 2 Tryd.sizeW (by with_unfolding_all rfl) (by with_unfolding_all rfl) (wvs_one _ _) ?_; intro w4 hA4 hB4 hF4 hS4; have HC4 := KpC.put HC3 HA HK h0 hA4 hB4 hS4; clear hS4))
      simp only [Act.put]
      go_roundw
      case rel => exact ⟨f' / 2, s' / 2, by omega, by omega, HE, HC4⟩
      case measure =>
        rw [HMs.out, wm_eq HC4.out.v]
        have := HPs.out
        omega
    have t1 : ((f' : Int) % 2 == 1) = false := beq_eq_false_iff_ne.2 (by omega)
    have HE : Hid (f' = F ∧ s' = S) := by have := HD'.out; rw [strip_stop e1] at this; injection this with a1 a2; exact ⟨a1, a2⟩
    obtain ⟨rfl, rfl⟩ := HE.out
    have hcx := HX.out wr HC'.out.sa
    have lN : (0 : Int) < ((m + 1 : Nat) : Int) := by omega
    have lN2 : (0 : Int) < (m : Int) + 1 := by omega
    clear HD' HE e1 HMs hf0 hs0
    go_wp2_with fail
    go_quiet (fail)
    go_wp2_with fail
    go_loopw [9, 10, 28] (fun va vb vi wr => ∃ (k f s : Nat) (x y : ByteArray), vi = .int .i64 (k : Int) ∧ va = .string x ∧ vb = .string y ∧ k ≤ m ∧ f ≤ 1099511627776 ∧ s ≤ 1099511627776 ∧ Hid (ConAt R old root M k f s x y) ∧ Hid (KpC w a (x0 :: M) f s wr)) (fun _ _ vi _ => m - (intOf vi).toNat)
    case atStart => exact ⟨0, f', s', x0, x0, rfl, rfl, rfl, Nat.zero_le _, hf', hs', HST, KpC.drewN HC' _⟩
    case round =>
      clear HST HC' hcx hf' hs' t1 p0 p1
      obtain ⟨k, f, s, x, y, rfl, rfl, rfl, hk, hf, hs, HI, HC⟩ := hrel
      have hxs := HI.out.sa32
      have hys := HI.out.sb32
      obtain ⟨p0, p1⟩ := HC.out.v.wlk
      by_cases hlt : k < m
      · have hkl : k < M.length := by have := HM.out; omega
        obtain ⟨b2, o2, rfl, hcl⟩ := HSM.out wr HC.out.sa k hkl
        have hps := HP.out k hkl
        have HI2 : Hid (∀ (e1 : s ≠ 0) (e2 : Mer.rgt f s = true), ConAt R old root M (k + 1) (Mer.nx f s).1 (Mer.nx f s).2 (nodeD M[k] x) (nodeD M[k] y)) := fun e1 e2 => HI.out.rightN hkl rfl e1 e2
        have HI3 : Hid (∀ (e1 : s ≠ 0) (e2 : Mer.rgt f s = false), ConAt R old root M (k + 1) (Mer.nx f s).1 (Mer.nx f s).2 x (nodeD y M[k])) := fun e1 e2 => HI.out.leftN hkl rfl e1 e2
        have HI4 : Hid (s = 0 → R = false) := fun e => by have := HI.out; rw [e] at this; exact this.stop hkl
        generalize M[k] = p at *
        have lk : (k : Int) < m := by omega
        have l0 : (0 : Int) ≤ k := by omega
        clear hkl HI
        by_cases hs0 : s = 0
        · as_aux_lemma =>
          have HF : Hid (R = false) := HI4.out hs0
          subst hs0
          clear HI2 HI3 HI4
          go_wp2
          go_ret
          exact ⟨retY HF.out.symm, HC.out.below⟩
        have d0 : ((s : Int) == 0) = false := beq_eq_false_iff_ne.2 (by omega)
        cases hr : Mer.rgt f s
        · as_aux_lemma =>
          have HI5 : Hid (ConAt R old root M (k + 1) (Mer.nx f s).1 (Mer.nx f s).2 (x) (nodeD y p)) := HI3.out hs0 hr
          have hM : ∀ w0, Calls Tryd.prog 47 #[.agg #[.int .i64 (f : Int), .int .i64 (s : Int)]] w0 fun e w' => e = .returned (.bool false) ∧ Below w0.heap.size w0 w' := fun w0 => by
            have := metI f s w0 hf hs
            rw [show rgB f s = false from hr] at this
            exact this
          have hN1 : ∀ w0, Hid (KpC w a (x0 :: M) f s w0) → Calls Tryd.prog 48 #[.string y, .string p] w0 fun e w' => e = .returned (.string (nodeD y p)) ∧ Below w0.heap.size w0 w' := fun w0 h => nodeI32 y p w0 hys hps h.out.arr h.out.pos
          have hU : ∀ w0, Calls Tryd.prog 49 #[.agg #[.int .i64 (f : Int), .int .i64 (s : Int)]] w0 fun e w' => e = .returned (.agg #[.int .i64 ((Mer.nx f s).1 : Int), .int .i64 ((Mer.nx f s).2 : Int)]) ∧ Below w0.heap.size w0 w' := fun w0 => aboveI f s w0 hf hs
          have hle := nx_le f s
          generalize (Mer.nx f s).1 = f2 at *
          generalize (Mer.nx f s).2 = s2 at *
          generalize nodeD y p = v at *
          clear HI2 HI3 HI4 hr hs0
          go_wp2_with (first
            | (go_at_call 47; refine (hM _).mono ?_; rintro e w3 ⟨rfl, hB3⟩; have HC3 := KpC.call HC hB3)
            | (go_at_call 48; refine (hN1 _ HC3).mono ?_; rintro e w7 ⟨rfl, hB7⟩; have HC7 := KpC.call HC3 hB7; obtain ⟨q0, q1⟩ := HC7.out.v.wlk)
            | (go_at_call 49; refine (hU _).mono ?_; rintro e w5 ⟨rfl, hB5⟩; have HC5 := KpC.call HC7 hB5)
            | (with_reducible refine wpList_storeV (w := w5) (by with_unfolding_all rfl) 87 (.tmp 4) (.tmp 47) (by with_unfolding_all rfl) w.heap.size (wvs f s) (wvs f2 s2) (by with_unfolding_all rfl) (by with_unfolding_all rfl) HC5.out.v 2 Tryd.sizeW (by with_unfolding_all rfl) (by with_unfolding_all rfl) (wvs_one _ _) ?_; intro w6 hA6 hB6 hF6 hS6; have HC6 := KpC.put HC5 HA HK h0 hA6 hB6 hS6; clear hS6))
          go_roundw
          case rel => exact ⟨k + 1, f2, s2, x, v, by go_num, rfl, rfl, hlt, by omega, by omega, HI5, HC6⟩
          case measure => simp [intOf]; omega
        · as_aux_lemma =>
          have HI5 : Hid (ConAt R old root M (k + 1) (Mer.nx f s).1 (Mer.nx f s).2 (nodeD p x) (nodeD p y)) := HI2.out hs0 hr
          have hM : ∀ w0, Calls Tryd.prog 47 #[.agg #[.int .i64 (f : Int), .int .i64 (s : Int)]] w0 fun e w' => e = .returned (.bool true) ∧ Below w0.heap.size w0 w' := fun w0 => by
            have := metI f s w0 hf hs
            rw [show rgB f s = true from hr] at this
            exact this
          have hN1 : ∀ w0, Hid (KpC w a (x0 :: M) f s w0) → Calls Tryd.prog 48 #[.string p, .string x] w0 fun e w' => e = .returned (.string (nodeD p x)) ∧ Below w0.heap.size w0 w' := fun w0 h => nodeI32 p x w0 hps hxs h.out.arr h.out.pos
          have hN2 : ∀ w0, Hid (KpC w a (x0 :: M) f s w0) → Calls Tryd.prog 48 #[.string p, .string y] w0 fun e w' => e = .returned (.string (nodeD p y)) ∧ Below w0.heap.size w0 w' := fun w0 h => nodeI32 p y w0 hps hys h.out.arr h.out.pos
          have hU : ∀ w0, Calls Tryd.prog 49 #[.agg #[.int .i64 (f : Int), .int .i64 (s : Int)]] w0 fun e w' => e = .returned (.agg #[.int .i64 ((Mer.nx f s).1 : Int), .int .i64 ((Mer.nx f s).2 : Int)]) ∧ Below w0.heap.size w0 w' := fun w0 => aboveI f s w0 hf hs
          have hle := nx_le f s
          generalize (Mer.nx f s).1 = f2 at *
          generalize (Mer.nx f s).2 = s2 at *
          generalize nodeD p x = u at *
          generalize nodeD p y = v at *
          clear HI2 HI3 HI4 hr hs0
          go_wp2_with (first
            | (go_at_call 47; refine (hM _).mono ?_; rintro e w3 ⟨rfl, hB3⟩; have HC3 := KpC.call HC hB3)
            | (go_at_call 48; with_reducible refine (hN1 _ HC3).mono ?_; rintro e w4 ⟨rfl, hB4⟩; have HC4 := KpC.call HC3 hB4)
            | (go_at_call 48; with_reducible refine (hN2 _ HC4).mono ?_; rintro e w7 ⟨rfl, hB7⟩; have HC7 := KpC.call HC4 hB7; obtain ⟨q0, q1⟩ := HC7.out.v.wlk)
            | (go_at_call 49; refine (hU _).mono ?_; rintro e w5 ⟨rfl, hB5⟩; have HC5 := KpC.call HC7 hB5)
            | (with_reducible refine wpList_storeV (w := w5) (by with_unfolding_all rfl) 87 (.tmp 4) (.tmp 47) (by with_unfolding_all rfl) w.heap.size (wvs f s) (wvs f2 s2) (by with_unfolding_all rfl) (by with_unfolding_all rfl) HC5.out.v 2 Tryd.sizeW (by with_unfolding_all rfl) (by with_unfolding_all rfl) (wvs_one _ _) ?_; intro w6 hA6 hB6 hF6 hS6; have HC6 := KpC.put HC5 HA HK h0 hA6 hB6 hS6; clear hS6))
          go_roundw
          case rel => exact ⟨k + 1, f2, s2, u, v, by go_num, rfl, rfl, hlt, by omega, by omega, HI5, HC6⟩
          case measure => simp [intOf]; omega
      · obtain rfl : k = m := by omega
        have HF : Hid (R = (decide (x = old) && (decide (y = root) && s == 0))) := by
          show _ = _
          have := HI.out
          rw [← HM.out] at this
          exact this.done
        clear HI
        by_cases h1 : x = old
        · have t1 : (x.toList == old.toList) = true := by rw [h1]; exact txt_eq _
          by_cases h2 : y = root
          · have t2 : (y.toList == root.toList) = true := by rw [h2]; exact txt_eq _
            by_cases h3 : s = 0
            · have HF2 : Hid (R = true) := by show _ = _; rw [HF.out, decide_eq_true h1, decide_eq_true h2, h3]; rfl
              subst h3
              clear HF h1 h2
              go_wp2
              go_ret
              exact ⟨retY HF2.out.symm, HC.out.below⟩
            · have HF2 : Hid (R = false) := by show _ = _; rw [HF.out, beq_eq_false_iff_ne.2 h3, Bool.and_false, Bool.and_false]
              have t3 : ((s : Int) == 0) = false := beq_eq_false_iff_ne.2 (by omega)
              clear HF h1 h2 h3
              go_wp2
              go_ret
              exact ⟨retY HF2.out.symm, HC.out.below⟩
          · have HF2 : Hid (R = false) := by show _ = _; rw [HF.out, decide_eq_false h2, Bool.false_and, Bool.and_false]
            have t2 := txt_ne h2
            clear HF h1 h2
            go_wp2
            go_ret
            exact ⟨retY HF2.out.symm, HC.out.below⟩
        · have HF2 : Hid (R = false) := by show _ = _; rw [HF.out, decide_eq_false h1, Bool.false_and]
          have t1 := txt_ne h1
          clear HF h1
          go_wp2
          go_ret
          exact ⟨retY HF2.out.symm, HC.out.below⟩
set_option maxRecDepth 100000 in
set_option maxHeartbeats 2000000 in
theorem conI0 (old root : ByteArray) (i n : Int) (b o c m : Nat) (ps : List ByteArray) (w : World) (hm : ps.length = m) (hc : m ≤ c) (hA : SA w (some ⟨b, o, none⟩) ps) (hl : old.size ≤ maxLen) (hr : root.size ≤ maxLen) (hM : m ≤ 1048576) (hx : ∀ x ∈ ps, x.size ≤ maxLen) (hk : ArrU w 8 keys) (h0 : 8 < w.heap.size) (hok : ConOk i n ps old root) :
    Calls Tryd.prog 17 #[.int .i64 i, .int .i64 n, .slice (some ⟨b, o, none⟩) m c, .string old, .string root] w fun e w' => e = .returned (.bool (conR i n ps old root)) ∧ Below w.heap.size w w' := by
  have hH1 : ∀ w0, Calls Tryd.prog 45 #[.string old] w0 fun e w' => e = .returned (.bool (decide (old.size = 32))) ∧ w0 = w' := fun w0 => ownH32B old w0 hl
  have hH2 : ∀ w0, Calls Tryd.prog 45 #[.string root] w0 fun e w' => e = .returned (.bool (decide (root.size = 32))) ∧ w0 = w' := fun w0 => ownH32B root w0 hr
  have hH4 : ∀ w0, Calls Tryd.prog 46 #[.int .i64 n] w0 fun e w' => e = .returned (.bool (decide (1 ≤ n ∧ n ≤ 1099511627776))) ∧ w0 = w' := fun w0 => sizeRI n w0
  have HH3 : Hid (Calls Tryd.prog 44 #[.slice (some ⟨b, o, none⟩) m c] w fun e w' => e = .returned (.bool (okPr ps)) ∧ w = w') := proofRI (some ⟨b, o, none⟩) c m ps w hm hA (by omega) hx
  obtain ⟨q1, q2, h3, q3, h5, h6, h7, h8⟩ := hok
  have hop : okPr ps = true := by unfold okPr; rw [decide_eq_true h3, q3]; rfl
  rw [hop] at HH3
  rw [decide_eq_true q1] at hH1
  rw [decide_eq_true q2] at hH2
  rw [decide_eq_true ⟨h5, h6⟩] at hH4
  have HP : Hid (∀ x ∈ ps, x.size = 32) := okHs_of q3
  have hmb : m ≤ 400 := by omega
  have e0 : decide (i < 1) = false := decide_eq_false (by omega)
  have e1 : decide (n < i) = false := decide_eq_false (by omega)
  by_cases hne : i = n
  · have HR : Hid (conR i n ps old root = (decide (ps = []) && decide (old = root))) := by show _ = _; unfold conR; rw [if_pos hne]
    subst hne
    have e4 : (i == i) = true := by simp
    by_cases hm0 : m = 0
    · have hp0 : ps = [] := List.length_eq_zero_iff.1 (hm.trans hm0)
      subst hm0
      by_cases hor : old = root
      · have HF2 : Hid (conR i i ps old root = true) := by show _ = _; rw [HR.out, decide_eq_true hp0, decide_eq_true hor]; rfl
        have t1 : (old.toList == root.toList) = true := by rw [hor]; exact txt_eq _
        generalize conR i i ps old root = R at *
        clear HR hA hx hor hp0 hm hk hop q3
        go_enter Tryd.func17, Tryd.ntmps17
        go_wp2_with (first
          | (go_at_call 44; refine Calls.mono HH3.out ?_; rintro e w' ⟨rfl, rfl⟩)
          | (go_at_call 45; with_reducible refine (hH1 _).mono ?_; rintro e w' ⟨rfl, rfl⟩)
          | (go_at_call 45; with_reducible refine (hH2 _).mono ?_; rintro e w' ⟨rfl, rfl⟩)
          | (go_at_call 46; refine (hH4 _).mono ?_; rintro e w' ⟨rfl, rfl⟩))
        go_ret
        exact ⟨retY HF2.out.symm, Below.refl _ _⟩
      · have HF2 : Hid (conR i i ps old root = false) := by show _ = _; rw [HR.out, decide_eq_false hor, Bool.and_false]
        have t1 := txt_ne hor
        generalize conR i i ps old root = R at *
        clear HR hA hx hor hp0 hm hk hop q3
        go_enter Tryd.func17, Tryd.ntmps17
        go_wp2_with (first
          | (go_at_call 44; refine Calls.mono HH3.out ?_; rintro e w' ⟨rfl, rfl⟩)
          | (go_at_call 45; with_reducible refine (hH1 _).mono ?_; rintro e w' ⟨rfl, rfl⟩)
          | (go_at_call 45; with_reducible refine (hH2 _).mono ?_; rintro e w' ⟨rfl, rfl⟩)
          | (go_at_call 46; refine (hH4 _).mono ?_; rintro e w' ⟨rfl, rfl⟩))
        go_ret
        exact ⟨retY HF2.out.symm, Below.refl _ _⟩
    · have HF2 : Hid (conR i i ps old root = false) := by show _ = _; rw [HR.out, decide_eq_false (fun e => hm0 (by rw [← hm, e]; rfl))]; rfl
      have t0 : ((m : Int) == 0) = false := beq_eq_false_iff_ne.2 (by omega)
      generalize conR i i ps old root = R at *
      clear HR hA hx hm hk hop q3
      go_enter Tryd.func17, Tryd.ntmps17
      go_wp2_with (first
        | (go_at_call 44; refine Calls.mono HH3.out ?_; rintro e w' ⟨rfl, rfl⟩)
        | (go_at_call 45; with_reducible refine (hH1 _).mono ?_; rintro e w' ⟨rfl, rfl⟩)
        | (go_at_call 45; with_reducible refine (hH2 _).mono ?_; rintro e w' ⟨rfl, rfl⟩)
        | (go_at_call 46; refine (hH4 _).mono ?_; rintro e w' ⟨rfl, rfl⟩))
      go_ret
      exact ⟨retY HF2.out.symm, Below.refl _ _⟩
  have e4 : (i == n) = false := beq_eq_false_iff_ne.2 hne
  obtain ⟨f0, rfl⟩ := Int.eq_ofNat_of_zero_le (show 0 ≤ i by omega)
  obtain ⟨n0, rfl⟩ := Int.eq_ofNat_of_zero_le (show 0 ≤ n by omega)
  have u4 : decide (n0 < f0) = false := decide_eq_false (by omega)
  have u8 : (f0 == n0) = false := beq_eq_false_iff_ne.2 (by omega)
  have es : (n0 : Int) - 1 = ((n0 - 1 : Nat) : Int) := by omega
  have ef : (f0 : Int) - 1 = ((f0 - 1 : Nat) : Int) := by omega
  obtain ⟨F0, S0, hFS⟩ : ∃ F S, Mer.strip (f0 - 1) (n0 - 1) = (F, S) := ⟨_, _, rfl⟩
  have HRL0 : Hid (∀ (x0 : ByteArray) (M : List ByteArray), conLs f0 ps old = x0 :: M → conR f0 n0 ps old root = chkC old root M F0 S0 x0 x0) := fun x0 M hL => conR_rest hne hL (by simp) F0 S0 hFS
  have HRN : Hid (conLs f0 ps old = [] → conR f0 n0 ps old root = false) := fun hL => conR_none hne hL
  have hpb : ∀ w0, Calls Tryd.prog 50 #[.int .i64 (f0 : Int)] w0 fun e w' => e = .returned (.bool (pwB f0)) ∧ w0 = w' := fun w0 => powI f0 w0 (by omega) (by omega)
  have HL : Hid (∀ (x0 : ByteArray) (M : List ByteArray) (a2 : Option Addr) (c2 : Nat) w0, conLs f0 ps old = x0 :: M → (∀ x ∈ x0 :: M, x.size = 32) → M.length ≤ 400 → M.length + 1 ≤ c2 → SA w0 a2 (x0 :: M) → ArrU w0 8 keys → 8 < w0.heap.size →
      Calls Tryd.prog 51 #[.agg #[.int .i64 ((f0 - 1 : Nat) : Int), .int .i64 ((n0 - 1 : Nat) : Int)], .slice a2 (M.length + 1) c2, .string old, .string root] w0 fun e w' => e = .returned (.bool (conR f0 n0 ps old root)) ∧ Below w0.heap.size w0 w') := fun x0 M a2 c2 w0 hL h32 hm4 hc2 hS k1 k2 => by
    have := leadI old root x0 M (f0 - 1) (n0 - 1) F0 S0 a2 c2 M.length w0 rfl hc2 hS h32 (by omega) (by omega) (by omega) hFS k1 k2
    rw [← HRL0.out x0 M hL] at this
    exact this
  obtain ⟨R, hR⟩ : ∃ R, conR f0 n0 ps old root = R := ⟨_, rfl⟩
  rw [hR] at HRN HL ⊢
  have HK : Hid (ArrU w 8 keys) := hk
  have HA : Hid (SA w (some ⟨b, o, none⟩) ps) := hA
  have HM : Hid (ps.length = m) := hm
  obtain ⟨f1, hf1⟩ : ∃ f1, f0 - 1 = f1 := ⟨_, rfl⟩
  obtain ⟨n1, hn1⟩ : ∃ n1, n0 - 1 = n1 := ⟨_, rfl⟩
  rw [hf1] at ef HL
  rw [hn1] at es HL
  clear hR hFS HRL0 hx hk hA hm hop q3 hf1 hn1
  cases hpw : pwB f0 with
  | false =>
    rw [hpw] at hpb
    have hLs : conLs f0 ps old = ps := by unfold conLs; rw [hpw]; rfl
    clear hpw
    match ps, hLs, HM, HP, HA, HL, HRN with
    | [], hLs, HM, HP, HA, HL, HRN =>
      have HF2 : Hid (R = false) := HRN.out hLs
      obtain rfl : 0 = m := HM.out
      clear HL HRN hLs HM HP HA
      go_enter Tryd.func17, Tryd.ntmps17
      go_wp2_with (first
        | (go_at_call 44; refine Calls.mono HH3.out ?_; rintro e w' ⟨rfl, rfl⟩)
        | (go_at_call 45; with_reducible refine (hH1 _).mono ?_; rintro e w' ⟨rfl, rfl⟩)
        | (go_at_call 45; with_reducible refine (hH2 _).mono ?_; rintro e w' ⟨rfl, rfl⟩)
        | (go_at_call 46; refine (hH4 _).mono ?_; rintro e w' ⟨rfl, rfl⟩)
        | (go_at_call 50; refine (hpb _).mono ?_; rintro e w' ⟨rfl, rfl⟩))
      go_ret
      exact ⟨retY HF2.out.symm, Below.refl _ _⟩
    | x0 :: M, hLs, HM, HP, HA, HL, HRN =>
      obtain rfl : M.length + 1 = m := HM.out
      have HC : Hid (Calls Tryd.prog 51 #[.agg #[.int .i64 (f1 : Int), .int .i64 (n1 : Int)], .slice (some ⟨b, o, none⟩) (M.length + 1) c, .string old, .string root] w fun e w' => e = .returned (.bool R) ∧ Below w.heap.size w w') := HL.out x0 M (some ⟨b, o, none⟩) c w hLs HP.out (by omega) hc HA.out HK.out h0
      obtain ⟨m, hm⟩ : ∃ m, M.length + 1 = m := ⟨_, rfl⟩
      rw [hm] at HC HH3 hmb ⊢
      have lm : (0 : Int) < (m : Int) := by omega
      have lm1 : decide ((0 : Int) < (m : Int)) = true := decide_eq_true lm
      have lm2 : decide (0 < m) = true := decide_eq_true (by omega)
      clear HL HRN hLs HM HP HA hm hM
      go_enter Tryd.func17, Tryd.ntmps17
      go_wp2_with (first
        | (go_at_call 44; refine Calls.mono HH3.out ?_; rintro e w' ⟨rfl, rfl⟩)
        | (go_at_call 45; with_reducible refine (hH1 _).mono ?_; rintro e w' ⟨rfl, rfl⟩)
        | (go_at_call 45; with_reducible refine (hH2 _).mono ?_; rintro e w' ⟨rfl, rfl⟩)
        | (go_at_call 46; refine (hH4 _).mono ?_; rintro e w' ⟨rfl, rfl⟩)
        | (go_at_call 50; refine (hpb _).mono ?_; rintro e w' ⟨rfl, rfl⟩)
        | (go_at_call 51; refine Calls.mono HC.out ?_; rintro e w9 ⟨rfl, hB9⟩))
      go_ret
      exact ⟨rfl, hB9⟩
  | true =>
    rw [hpw] at hpb
    have hLs : conLs f0 ps old = old :: ps := by unfold conLs; rw [hpw]; rfl
    clear hpw
    have HC : Hid (∀ a2 c2 w0, 1 + m ≤ c2 → SA w0 a2 (old :: ps) → ArrU w0 8 keys → 8 < w0.heap.size → Calls Tryd.prog 51 #[.agg #[.int .i64 (f1 : Int), .int .i64 (n1 : Int)], .slice a2 (1 + m) c2, .string old, .string root] w0 fun e w' => e = .returned (.bool R) ∧ Below w0.heap.size w0 w') := fun a2 c2 w0 k1 k2 k3 k4 => by
      have := HL.out old ps a2 c2 w0 hLs (fun x hx => by rcases List.mem_cons.1 hx with e | e; rw [e]; exact q1; exact HP.out x e) (by have := HM.out; omega) (by have := HM.out; omega) k2 k3 k4
      rw [show ps.length + 1 = 1 + m by have := HM.out; omega] at this
      exact this
    have lm : (0 : Int) < ((1 + m : Nat) : Int) := by omega
    have lm1 : decide ((0 : Int) < ((1 + m : Nat) : Int)) = true := decide_eq_true lm
    have lm2 : decide (0 < 1 + m) = true := decide_eq_true (by omega)
    have lm3 : decide ((0 : Int) < 1 + (m : Int)) = true := decide_eq_true (by omega)
    have HB1 : Hid (Below w.heap.size w (w.alloc (.cells #[.string old] 9))) := (Below.refl _ _).alloc (Nat.le_refl _) _
    have HS1 : Hid (SA (w.alloc (.cells #[.string old] 9)) (some ⟨b, o, none⟩) ps) := HA.out.below HB1.out
    clear HL HRN hLs HP HA hM
    go_enter Tryd.func17, Tryd.ntmps17
    go_wp2_with (first
      | (go_at_call 44; refine Calls.mono HH3.out ?_; rintro e w' ⟨rfl, rfl⟩)
      | (go_at_call 45; with_reducible refine (hH1 _).mono ?_; rintro e w' ⟨rfl, rfl⟩)
      | (go_at_call 45; with_reducible refine (hH2 _).mono ?_; rintro e w' ⟨rfl, rfl⟩)
      | (go_at_call 46; refine (hH4 _).mono ?_; rintro e w' ⟨rfl, rfl⟩)
      | (go_at_call 50; refine (hpb _).mono ?_; rintro e w' ⟨rfl, rfl⟩)
      | (at_builtin; refine wpList_append_strs rfl _ _ rfl w.heap.size (.slice (some ⟨w.heap.size, 0, none⟩) 1 1) 1 m [old] ps rfl (World.ownsRow_lit w #[.string old] 1 (Nat.le_refl _) (by unfold maxLen; omega) rfl) b o c rfl HM.out HS1.out (by omega) (by simp) ?_; intro v8 w8 hO8 hB8 hv8; obtain ⟨g, c8, rfl, hl8, hg8, hc8, hm8, hsa8⟩ := own_some hO8 (hv8 (by simp)); have B8 : Below w.heap.size w w8 := HB1.out.trans hB8; have HC8 : Hid _ := HC.out (some ⟨g, 0, none⟩) c8 w8 hc8 hsa8 (HK.out.below B8 h0) (Nat.lt_of_lt_of_le h0 B8.size); clear hO8 hv8 hl8 hg8 hm8 hsa8)
      | (go_at_call 51; refine Calls.mono HC8.out ?_; rintro e w9 ⟨rfl, hB9⟩))
    go_ret
    exact ⟨rfl, B8.trans (hB9.mono B8.size)⟩
set_option maxRecDepth 100000 in
set_option maxHeartbeats 1000000 in
theorem conI : ConI := by
  intro old root i n b o c m ps w hm hc hA hl hr hM hx wi wn hk h0
  by_cases hok : ConOk i n ps old root
  · rw [conB_yes hok]
    exact conI0 old root i n b o c m ps w hm hc hA hl hr hM hx hk h0 hok
  have HR : Hid (conB i n ps old root = false) := conB_no hok
  have hH1 : ∀ w0, Calls Tryd.prog 45 #[.string old] w0 fun e w' => e = .returned (.bool (decide (old.size = 32))) ∧ w0 = w' := fun w0 => ownH32B old w0 hl
  have hH2 : ∀ w0, Calls Tryd.prog 45 #[.string root] w0 fun e w' => e = .returned (.bool (decide (root.size = 32))) ∧ w0 = w' := fun w0 => ownH32B root w0 hr
  have hH4 : ∀ w0, Calls Tryd.prog 46 #[.int .i64 n] w0 fun e w' => e = .returned (.bool (decide (1 ≤ n ∧ n ≤ 1099511627776))) ∧ w0 = w' := fun w0 => sizeRI n w0
  have HH3 : Hid (Calls Tryd.prog 44 #[.slice (some ⟨b, o, none⟩) m c] w fun e w' => e = .returned (.bool (okPr ps)) ∧ w = w') := proofRI (some ⟨b, o, none⟩) c m ps w hm hA (by omega) hx
  have HO : Hid (okPr ps = true → old.size = 32 → root.size = 32 → (1 ≤ n ∧ n ≤ 1099511627776) → 1 ≤ i → i ≤ n → False) := fun e1 e2 e3 e4 e5 e6 => by
    unfold okPr at e1
    rw [Bool.and_eq_true, decide_eq_true_eq] at e1
    exact hok ⟨e2, e3, e1.1, e1.2, e4.1, e4.2, e5, e6⟩
  generalize conB i n ps old root = R at *
  clear hok hA hx hk
  cases q0 : okPr ps with
  | false =>
    rw [q0] at HH3
    clear q0
    clear HO
    go_enter Tryd.func17, Tryd.ntmps17
    go_wp2_with (first
      | (go_at_call 44; refine Calls.mono HH3.out ?_; rintro e w' ⟨rfl, rfl⟩)
      | (go_at_call 45; with_reducible refine (hH1 _).mono ?_; rintro e w' ⟨rfl, rfl⟩)
      | (go_at_call 45; with_reducible refine (hH2 _).mono ?_; rintro e w' ⟨rfl, rfl⟩)
      | (go_at_call 46; refine (hH4 _).mono ?_; rintro e w' ⟨rfl, rfl⟩))
    go_ret
    exact ⟨retY HR.out.symm, Below.refl _ _⟩
  | true =>
  rw [q0] at HH3
  by_cases q1 : old.size = 32
  case neg =>
    rw [decide_eq_false q1] at hH1
    clear HO
    go_enter Tryd.func17, Tryd.ntmps17
    go_wp2_with (first
      | (go_at_call 44; refine Calls.mono HH3.out ?_; rintro e w' ⟨rfl, rfl⟩)
      | (go_at_call 45; with_reducible refine (hH1 _).mono ?_; rintro e w' ⟨rfl, rfl⟩)
      | (go_at_call 45; with_reducible refine (hH2 _).mono ?_; rintro e w' ⟨rfl, rfl⟩)
      | (go_at_call 46; refine (hH4 _).mono ?_; rintro e w' ⟨rfl, rfl⟩))
    go_ret
    exact ⟨retY HR.out.symm, Below.refl _ _⟩
  rw [decide_eq_true q1] at hH1
  by_cases q2 : root.size = 32
  case neg =>
    rw [decide_eq_false q2] at hH2
    clear HO
    go_enter Tryd.func17, Tryd.ntmps17
    go_wp2_with (first
      | (go_at_call 44; refine Calls.mono HH3.out ?_; rintro e w' ⟨rfl, rfl⟩)
      | (go_at_call 45; with_reducible refine (hH1 _).mono ?_; rintro e w' ⟨rfl, rfl⟩)
      | (go_at_call 45; with_reducible refine (hH2 _).mono ?_; rintro e w' ⟨rfl, rfl⟩)
      | (go_at_call 46; refine (hH4 _).mono ?_; rintro e w' ⟨rfl, rfl⟩))
    go_ret
    exact ⟨retY HR.out.symm, Below.refl _ _⟩
  rw [decide_eq_true q2] at hH2
  by_cases q3 : 1 ≤ n ∧ n ≤ 1099511627776
  case neg =>
    rw [decide_eq_false q3] at hH4
    clear HO
    go_enter Tryd.func17, Tryd.ntmps17
    go_wp2_with (first
      | (go_at_call 44; refine Calls.mono HH3.out ?_; rintro e w' ⟨rfl, rfl⟩)
      | (go_at_call 45; with_reducible refine (hH1 _).mono ?_; rintro e w' ⟨rfl, rfl⟩)
      | (go_at_call 45; with_reducible refine (hH2 _).mono ?_; rintro e w' ⟨rfl, rfl⟩)
      | (go_at_call 46; refine (hH4 _).mono ?_; rintro e w' ⟨rfl, rfl⟩))
    go_ret
    exact ⟨retY HR.out.symm, Below.refl _ _⟩
  rw [decide_eq_true q3] at hH4
  by_cases c2 : i < 1
  · have e2 : decide (i < 1) = true := decide_eq_true c2
    clear HO
    go_enter Tryd.func17, Tryd.ntmps17
    go_wp2_with (first
      | (go_at_call 44; refine Calls.mono HH3.out ?_; rintro e w' ⟨rfl, rfl⟩)
      | (go_at_call 45; with_reducible refine (hH1 _).mono ?_; rintro e w' ⟨rfl, rfl⟩)
      | (go_at_call 45; with_reducible refine (hH2 _).mono ?_; rintro e w' ⟨rfl, rfl⟩)
      | (go_at_call 46; refine (hH4 _).mono ?_; rintro e w' ⟨rfl, rfl⟩))
    go_ret
    exact ⟨retY HR.out.symm, Below.refl _ _⟩
  have e2 : decide (i < 1) = false := decide_eq_false c2
  by_cases c3 : n < i
  · have e3 : decide (n < i) = true := decide_eq_true c3
    clear HO
    go_enter Tryd.func17, Tryd.ntmps17
    go_wp2_with (first
      | (go_at_call 44; refine Calls.mono HH3.out ?_; rintro e w' ⟨rfl, rfl⟩)
      | (go_at_call 45; with_reducible refine (hH1 _).mono ?_; rintro e w' ⟨rfl, rfl⟩)
      | (go_at_call 45; with_reducible refine (hH2 _).mono ?_; rintro e w' ⟨rfl, rfl⟩)
      | (go_at_call 46; refine (hH4 _).mono ?_; rintro e w' ⟨rfl, rfl⟩))
    go_ret
    exact ⟨retY HR.out.symm, Below.refl _ _⟩
  exact absurd (HO.out q0 q1 q2 q3 (by omega) (by omega)) id
end Go.Proofs.YtdfglpbappeoaabDoor
