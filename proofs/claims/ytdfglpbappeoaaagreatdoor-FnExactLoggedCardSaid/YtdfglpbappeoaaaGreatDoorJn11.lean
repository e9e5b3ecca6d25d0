/- The laws over InclusionCheck and ConsistencyCheck, walked out of what the program's functions answer. InclusionCheck of the program, for every argument. -/
import Derived.Test.YtdfglpbappeoaaaGreatDoorJn7
import Derived.Test.YtdfglpbappeoaaaGreatDoorAbvI
namespace Go.Proofs.YtdfglpbappeoaaaGreatDoor
open Go.RowKit
set_option linter.unusedVariables false
end Go.Proofs.YtdfglpbappeoaaaGreatDoor
namespace Go.Proofs.YtdfglpbappeoaaaGreatDoor
open Go.RowKit
set_option linter.unusedVariables false

def okPr (l : List ByteArray) : Bool := decide (l.length ≤ 400) && okHs l
set_option maxRecDepth 100000 in
set_option maxHeartbeats 1000000 in
theorem proofRI (a : Option Addr) (c n : Nat) (l : List ByteArray) (w : World) (hn : l.length = n) (h : SA w a l) (hM : n ≤ 1000000000) (hx : ∀ x ∈ l, x.size ≤ maxLen) :
    Calls Tryz.prog 71 #[.slice a n c] w fun e w' => e = .returned (.bool (okPr l)) ∧ w = w' := by
  have HA : Hid (SA w a l) := h
  have HN : Hid (l.length = n) := hn
  have HX : Hid (∀ x ∈ l, x.size ≤ maxLen) := hx
  clear h hn hx
  by_cases hb : 400 < n
  · have HR : Hid (okPr l = false) := by show _ = _; unfold okPr; rw [decide_eq_false (by have := HN.out; omega), Bool.false_and]
    have d1 : decide ((400 : Int) < n) = true := decide_eq_true (by omega)
    go_enter Tryz.func71, Tryz.ntmps71
    go_wp2
    go_ret
    exact ⟨retY HR.out.symm, rfl⟩
  · have d1 : decide ((400 : Int) < n) = false := decide_eq_false (by omega)
    have HP : Hid (okPr l = okHs l) := by show _ = _; unfold okPr; rw [decide_eq_true (by have := HN.out; omega), Bool.true_and]
    have hH : ∀ (x : ByteArray) w0, x.size = 32 → Calls Tryz.prog 72 #[.string x] w0 fun e w' => e = .returned (.bool true) ∧ w0 = w' := fun x w0 h => ownH32 x w0 h
    have hH' : ∀ (x : ByteArray) w0, ¬ x.size = 32 → x.size ≤ maxLen → Calls Tryz.prog 72 #[.string x] w0 fun e w' => e = .returned (.bool false) ∧ w0 = w' := fun x w0 h hm => ownH32' x w0 h hm
    go_enter Tryz.func71, Tryz.ntmps71
    go_wp2_with fail
    go_loop [10] (fun vi => ∃ k : Nat, vi = .int .i64 (k : Int) ∧ k ≤ n ∧ Hid (∀ x ∈ l.take k, x.size = 32)) (fun vi => n - (intOf vi).toNat)
    case atStart => exact ⟨0, rfl, Nat.zero_le _, fun x h => by simp at h⟩
    case round =>
      obtain ⟨k, rfl, hk, HT⟩ := hrel
      by_cases hlt : k < n
      · have hkl : k < l.length := by have := HN.out; omega
        obtain ⟨b, o, rfl, hc⟩ := HA.out k hkl
        have hxs := HX.out l[k] (List.getElem_mem hkl)
        have HM : Hid (l[k] ∈ l) := List.getElem_mem hkl
        have HT2 : Hid (l[k].size = 32 → ∀ x ∈ l.take (k + 1), x.size = 32) := fun hz x hx => by
          rw [List.take_succ_eq_append_getElem hkl] at hx
          rcases List.mem_append.1 hx with h1 | h1
          · exact HT.out x h1
          · rw [List.mem_singleton.1 h1]; exact hz
        generalize l[k] = x at *
        have lk : (k : Int) < n := by omega
        have l0 : (0 : Int) ≤ k := by omega
        clear hkl HT
        by_cases hz : x.size = 32
        · have HT3 : Hid (∀ x ∈ l.take (k + 1), x.size = 32) := HT2.out hz
          have hH1 : ∀ w0, Calls Tryz.prog 72 #[.string x] w0 fun e w' => e = .returned (.bool true) ∧ w0 = w' := fun w0 => hH x w0 hz
          clear HT2 hz hH hH'
          go_wp2_with (go_at_call 72; refine (hH1 _).mono ?_; rintro e w' ⟨rfl, rfl⟩)
          exact ⟨⟨k + 1, by go_num, hlt, HT3⟩, by simp [intOf]; omega⟩
        · have HR : Hid (okPr l = false) := by show _ = _; rw [HP.out]; exact okHs_no (fun e => hz (e x HM.out))
          have hH1 : ∀ w0, Calls Tryz.prog 72 #[.string x] w0 fun e w' => e = .returned (.bool false) ∧ w0 = w' := fun w0 => hH' x w0 hz hxs
          clear HT2 HM hz hH hH' hxs
          go_wp2_with (go_at_call 72; refine (hH1 _).mono ?_; rintro e w' ⟨rfl, rfl⟩)
          go_ret
          exact ⟨retY HR.out.symm, rfl⟩
      · obtain rfl : k = n := by omega
        have HR : Hid (okPr l = true) := by
          show _ = _
          rw [HP.out]
          exact okHs_yes (by
            have := HT.out
            rw [List.take_of_length_le (by have := HN.out; omega)] at this
            exact this)
        clear HT
        go_wp2
        go_ret
        exact ⟨retY HR.out.symm, rfl⟩
theorem sizeRI (n : Int) (w : World) :
    Calls Tryz.prog 73 #[.int .i64 n] w fun e w' => e = .returned (.bool (decide (1 ≤ n ∧ n ≤ 1099511627776))) ∧ w = w' := by
  by_cases h1 : 1 ≤ n
  · have d1 : decide (1 ≤ n) = true := decide_eq_true h1
    by_cases h2 : n ≤ 1099511627776
    · have d2 : decide (n ≤ 1099511627776) = true := decide_eq_true h2
      rw [decide_eq_true ⟨h1, h2⟩]
      go_enter Tryz.func73, Tryz.ntmps73
      go_wp2
      go_ret
      exact ⟨rfl, rfl⟩
    · have d2 : decide (n ≤ 1099511627776) = false := decide_eq_false h2
      rw [decide_eq_false (fun h => h2 h.2)]
      go_enter Tryz.func73, Tryz.ntmps73
      go_wp2
      go_ret
      exact ⟨rfl, rfl⟩
  · have d1 : decide (1 ≤ n) = false := decide_eq_false h1
    rw [decide_eq_false (fun h => h1 h.1)]
    go_enter Tryz.func73, Tryz.ntmps73
    go_wp2
    go_ret
    exact ⟨rfl, rfl⟩
/- What stands at the head of a round of the check: the walk's places, the proof, the table of rounds. -/
structure KpC (w : World) (a : Option Addr) (ps : List ByteArray) (f s : Nat) (w' : World) : Prop where
  below : Below w.heap.size w w'
  v : RowV w' w.heap.size (wvs f s)
  sa : SA w' a ps
  arr : ArrU w' 0 keys
  pos : 0 < w'.heap.size
  up : w.heap.size < w'.heap.size
theorem KpC.call {w w' w2 : World} {a : Option Addr} {ps : List ByteArray} {f s : Nat} (h : Hid (KpC w a ps f s w')) (hb : Below w'.heap.size w' w2) : Hid (KpC w a ps f s w2) :=
  ⟨h.out.below.trans (hb.mono h.out.below.size), h.out.v.below hb h.out.up, h.out.sa.below hb, h.out.arr.below hb h.out.pos, Nat.lt_of_lt_of_le h.out.pos hb.size, Nat.lt_of_lt_of_le h.out.up hb.size⟩
theorem SA.old {w w' w2 : World} {a : Option Addr} {l : List ByteArray} (h : SA w a l) (hb : Below w.heap.size w w') : SA w' a l := h.below hb
theorem KpC.put {w w' w2 : World} {a : Option Addr} {ps : List ByteArray} {f s f2 s2 : Nat} (h : Hid (KpC w a ps f s w')) (hA : Hid (SA w a ps)) (hk : Hid (ArrU w 0 keys)) (h0 : 0 < w.heap.size) (hv : RowV w2 w.heap.size (wvs f2 s2)) (hb : ∀ B, B ≤ w.heap.size → Below B w' w2) (hz : w2.heap.size = w'.heap.size) : Hid (KpC w a ps f2 s2 w2) := by
  have b : Below w.heap.size w w2 := h.out.below.trans (hb _ (Nat.le_refl _))
  exact ⟨b, hv, hA.out.below b, hk.out.below b h0, by rw [hz]; exact h.out.pos, by rw [hz]; exact h.out.up⟩
theorem IncAt.rightN {leaf root r p : ByteArray} {i n : Int} {ps : List ByteArray} {k f s : Nat} (h : IncAt leaf root i n ps k f s r) (hk : k < ps.length) (hp : ps[k] = p) (hs : s ≠ 0) (hr : Mer.rgt f s = true) : IncAt leaf root i n ps (k + 1) (Mer.nx f s).1 (Mer.nx f s).2 (nodeD p r) := by
  have := h.right hk hp hs hr
  rw [nx_right hr]
  exact this
theorem IncAt.leftN {leaf root r p : ByteArray} {i n : Int} {ps : List ByteArray} {k f s : Nat} (h : IncAt leaf root i n ps k f s r) (hk : k < ps.length) (hp : ps[k] = p) (hs : s ≠ 0) (hr : Mer.rgt f s = false) : IncAt leaf root i n ps (k + 1) (Mer.nx f s).1 (Mer.nx f s).2 (nodeD r p) := by
  have := h.left hk hp hs hr
  rw [nx_left hr]
  exact this
set_option maxRecDepth 100000 in
set_option maxHeartbeats 2000000 in
theorem incI0 (leaf root : ByteArray) (i n : Int) (a : Option Addr) (c m : Nat) (ps : List ByteArray) (w : World) (hm : ps.length = m) (hA : SA w a ps)
    (h : leaf.size = 32 ∧ root.size = 32 ∧ ps.length ≤ 400 ∧ okHs ps = true ∧ 1 ≤ n ∧ n ≤ 1099511627776 ∧ 0 ≤ i ∧ i < n) (hk : ArrU w 0 keys) (h0 : 0 < w.heap.size) :
    Calls Tryz.prog 31 #[.string leaf, .int .i64 i, .int .i64 n, .slice a m c, .string root] w fun e w' => e = .returned (.bool (incB leaf i n ps root)) ∧ Below w.heap.size w w' := by
  have hst : IncAt leaf root i n ps 0 i.toNat (n.toNat - 1) leaf := ⟨by rw [incB_yes h]; rfl, h.1⟩
  obtain ⟨h1, h2, h3, h4, h5, h6, h7, h8⟩ := h
  have hH1 : ∀ w0, Calls Tryz.prog 72 #[.string leaf] w0 fun e w' => e = .returned (.bool true) ∧ w0 = w' := fun w0 => ownH32 leaf w0 h1
  have hH2 : ∀ w0, Calls Tryz.prog 72 #[.string root] w0 fun e w' => e = .returned (.bool true) ∧ w0 = w' := fun w0 => ownH32 root w0 h2
  have HH3 : Hid (Calls Tryz.prog 71 #[.slice a m c] w fun e w' => e = .returned (.bool true) ∧ w = w') := by
    have := proofRI a c m ps w hm hA (by omega) (fun x hx => by rw [okHs_of h4 x hx]; decide)
    rw [show okPr ps = true by unfold okPr; rw [decide_eq_true h3, h4]; rfl] at this
    exact this
  have hH4 : ∀ w0, Calls Tryz.prog 73 #[.int .i64 n] w0 fun e w' => e = .returned (.bool true) ∧ w0 = w' := fun w0 => by
    have := sizeRI n w0
    rw [decide_eq_true ⟨h5, h6⟩] at this
    exact this
  have HP : Hid (∀ k (hk : k < ps.length), ps[k].size = 32) := fun k hk => okHs_of h4 _ (List.getElem_mem hk)
  have HA : Hid (SA w a ps) := hA
  have HM : Hid (ps.length = m) := hm
  have HK : Hid (ArrU w 0 keys) := hk
  have hmb : m ≤ 400 := by omega
  obtain ⟨f0, rfl⟩ := Int.eq_ofNat_of_zero_le h7
  obtain ⟨n0, rfl⟩ := Int.eq_ofNat_of_zero_le (show 0 ≤ n by omega)
  have HS : Hid (IncAt leaf root f0 n0 ps 0 f0 (n0 - 1) leaf) := hst
  have es : (n0 : Int) - 1 = ((n0 - 1 : Nat) : Int) := by omega
  obtain ⟨n1, hn1⟩ : ∃ n1, n0 - 1 = n1 := ⟨_, rfl⟩
  rw [hn1] at HS es
  have hn1' : n1 ≤ 1099511627776 := by omega
  obtain ⟨R, hR⟩ : ∃ R, incB leaf f0 n0 ps root = R := ⟨_, rfl⟩
  rw [hR]
  have HR : Hid (incB leaf f0 n0 ps root = R) := hR
  have hf0 : f0 ≤ 1099511627776 := by omega
  clear hst hA hm h3 h4 hR hk hn1
  have g3 : decide ((f0 : Int) < 0) = false := decide_eq_false (by omega)
  have g4 : decide (n0 ≤ f0) = false := decide_eq_false (by omega)
  have g5 : decide ((n0 : Int) ≤ (f0 : Int)) = false := decide_eq_false (by omega)
  go_enter Tryz.func31, Tryz.ntmps31
  go_wp2_with (first
    | (go_at_call 71; refine Calls.mono HH3.out ?_; rintro e w' ⟨rfl, rfl⟩)
    | (go_at_call 72; with_reducible refine (hH1 _).mono ?_; rintro e w' ⟨rfl, rfl⟩)
    | (go_at_call 72; with_reducible refine (hH2 _).mono ?_; rintro e w' ⟨rfl, rfl⟩)
    | (go_at_call 73; refine (hH4 _).mono ?_; rintro e w' ⟨rfl, rfl⟩)
    | (with_reducible refine wpList_allocV (w := w) (by with_unfolding_all rfl) 105 (by with_unfolding_all rfl) (wvs 0 0) Tryz.infoW ?_; intro w1 hA1 hB1 hS1; have z1 : w.heap.size < w1.heap.size := (by omega); clear hS1)
    | (with_reducible refine wpList_storeV (w := w1) (by with_unfolding_all rfl) 105 (.tmp 11) (.tmp 43) (by with_unfolding_all rfl) w.heap.size (wvs 0 0) (wvs f0 n1) (by with_unfolding_all rfl) (by with_unfolding_all rfl) hA1 2 Tryz.sizeW (by with_unfolding_all rfl) (by with_unfolding_all rfl) (wvs_one _ _) ?_; intro w2 hA2 hB2 hF2 hS2))
  have HC : Hid (KpC w a ps f0 n1 w2) := by
    have b : Below w.heap.size w w2 := hB1.trans (hB2 _ (Nat.le_refl _))
    exact ⟨b, hA2, HA.out.below b, HK.out.below b h0, by omega, by omega⟩
  clear hA1 hB1 z1 hA2 hB2 hF2 hS2 es HH3 hH1 hH2 hH4 g3 g4 g5
  go_loopw [12, 47] (fun vr vi wr => ∃ (k f s : Nat) (r : ByteArray), vi = .int .i64 (k : Int) ∧ vr = .string r ∧ k ≤ m ∧ f ≤ 1099511627776 ∧ s ≤ 1099511627776 ∧ Hid (IncAt leaf root f0 n0 ps k f s r) ∧ Hid (KpC w a ps f s wr)) (fun _ vi _ => m - (intOf vi).toNat)
  case atStart => exact ⟨0, f0, n1, leaf, rfl, rfl, Nat.zero_le _, hf0, hn1', HS, HC⟩
  case round =>
    clear HS HC hf0 hn1'
    obtain ⟨k, f, s, r, rfl, rfl, hk, hf, hs, HI, HC⟩ := hrel
    have hrs := HI.out.rs
    obtain ⟨p0, p1⟩ := HC.out.v.wlk
    by_cases hlt : k < m
    · have hkl : k < ps.length := by have := HM.out; omega
      obtain ⟨b, o, rfl, hc⟩ := HC.out.sa k hkl
      have hps := HP.out k hkl
      have HI2 : Hid (∀ (e1 : s ≠ 0) (e2 : Mer.rgt f s = true), IncAt leaf root f0 n0 ps (k + 1) (Mer.nx f s).1 (Mer.nx f s).2 (nodeD ps[k] r)) := fun e1 e2 => HI.out.rightN hkl rfl e1 e2
      have HI3 : Hid (∀ (e1 : s ≠ 0) (e2 : Mer.rgt f s = false), IncAt leaf root f0 n0 ps (k + 1) (Mer.nx f s).1 (Mer.nx f s).2 (nodeD r ps[k])) := fun e1 e2 => HI.out.leftN hkl rfl e1 e2
      have HI4 : Hid (s = 0 → incB leaf f0 n0 ps root = false) := fun e => by have := HI.out; rw [e] at this; exact this.stop hkl
      generalize ps[k] = p at *
      have lk : (k : Int) < m := by omega
      have l0 : (0 : Int) ≤ k := by omega
      clear hkl HI
      by_cases hs0 : s = 0
      · as_aux_lemma =>
        have HF : Hid (R = false) := by show _ = _; rw [← HR.out]; exact HI4.out hs0
        subst hs0
        clear HI2 HI3 HI4
        go_wp2
        go_ret
        exact ⟨retY HF.out.symm, HC.out.below⟩
      have d0 : ((s : Int) == 0) = false := beq_eq_false_iff_ne.2 (by omega)
      cases hr : Mer.rgt f s
      · as_aux_lemma =>
        have HI5 : Hid (IncAt leaf root f0 n0 ps (k + 1) (Mer.nx f s).1 (Mer.nx f s).2 (nodeD r p)) := HI3.out hs0 hr
        have hM : ∀ w0, Calls Tryz.prog 74 #[.agg #[.int .i64 (f : Int), .int .i64 (s : Int)]] w0 fun e w' => e = .returned (.bool false) ∧ Below w0.heap.size w0 w' := fun w0 => by
          have := metI f s w0 hf hs
          rw [show rgB f s = false from hr] at this
          exact this
        have hN : ∀ w0, Hid (KpC w (some ⟨b, o, none⟩) ps f s w0) → Calls Tryz.prog 75 #[.string r, .string p] w0 fun e w' => e = .returned (.string (nodeD r p)) ∧ Below w0.heap.size w0 w' := fun w0 h => nodeI32 r p w0 hrs hps h.out.arr h.out.pos
        have hU : ∀ w0, Calls Tryz.prog 76 #[.agg #[.int .i64 (f : Int), .int .i64 (s : Int)]] w0 fun e w' => e = .returned (.agg #[.int .i64 ((Mer.nx f s).1 : Int), .int .i64 ((Mer.nx f s).2 : Int)]) ∧ Below w0.heap.size w0 w' := fun w0 => aboveI f s w0 hf hs
        have hle := nx_le f s
        generalize (Mer.nx f s).1 = f2 at *
        generalize (Mer.nx f s).2 = s2 at *
        generalize nodeD r p = q at *
        clear HI2 HI3 HI4 hr hs0
        go_wp2_with (first
          | (go_at_call 74; refine (hM _).mono ?_; rintro e w3 ⟨rfl, hB3⟩; have HC3 := KpC.call HC hB3)
          | (go_at_call 75; refine (hN _ HC3).mono ?_; rintro e w4 ⟨rfl, hB4⟩; have HC4 := KpC.call HC3 hB4; obtain ⟨q0, q1⟩ := HC4.out.v.wlk)
          | (go_at_call 76; refine (hU _).mono ?_; rintro e w5 ⟨rfl, hB5⟩; have HC5 := KpC.call HC4 hB5)
          | (with_reducible refine wpList_storeV (w := w5) (by with_unfolding_all rfl) 105 (.tmp 11) (.tmp 63) (by with_unfolding_all rfl) w.heap.size (wvs f s) (wvs f2 s2) (by with_unfolding_all rfl) (by with_unfolding_all rfl) HC5.out.v 2 Tryz.sizeW (by with_unfolding_all rfl) (by with_unfolding_all rfl) (wvs_one _ _) ?_; intro w6 hA6 hB6 hF6 hS6; have HC6 := KpC.put HC5 HA HK h0 hA6 hB6 hS6; clear hS6))
        go_roundw
        case rel => exact ⟨k + 1, f2, s2, q, by go_num, rfl, hlt, by omega, by omega, HI5, HC6⟩
        case measure => simp [intOf]; omega
      · as_aux_lemma =>
        have HI5 : Hid (IncAt leaf root f0 n0 ps (k + 1) (Mer.nx f s).1 (Mer.nx f s).2 (nodeD p r)) := HI2.out hs0 hr
        have hM : ∀ w0, Calls Tryz.prog 74 #[.agg #[.int .i64 (f : Int), .int .i64 (s : Int)]] w0 fun e w' => e = .returned (.bool true) ∧ Below w0.heap.size w0 w' := fun w0 => by
          have := metI f s w0 hf hs
          rw [show rgB f s = true from hr] at this
          exact this
        have hN : ∀ w0, Hid (KpC w (some ⟨b, o, none⟩) ps f s w0) → Calls Tryz.prog 75 #[.string p, .string r] w0 fun e w' => e = .returned (.string (nodeD p r)) ∧ Below w0.heap.size w0 w' := fun w0 h => nodeI32 p r w0 hps hrs h.out.arr h.out.pos
        have hU : ∀ w0, Calls Tryz.prog 76 #[.agg #[.int .i64 (f : Int), .int .i64 (s : Int)]] w0 fun e w' => e = .returned (.agg #[.int .i64 ((Mer.nx f s).1 : Int), .int .i64 ((Mer.nx f s).2 : Int)]) ∧ Below w0.heap.size w0 w' := fun w0 => aboveI f s w0 hf hs
        have hle := nx_le f s
        generalize (Mer.nx f s).1 = f2 at *
        generalize (Mer.nx f s).2 = s2 at *
        generalize nodeD p r = q at *
        clear HI2 HI3 HI4 hr hs0
        go_wp2_with (first
          | (go_at_call 74; refine (hM _).mono ?_; rintro e w3 ⟨rfl, hB3⟩; have HC3 := KpC.call HC hB3)
          | (go_at_call 75; refine (hN _ HC3).mono ?_; rintro e w4 ⟨rfl, hB4⟩; have HC4 := KpC.call HC3 hB4; obtain ⟨q0, q1⟩ := HC4.out.v.wlk)
          | (go_at_call 76; refine (hU _).mono ?_; rintro e w5 ⟨rfl, hB5⟩; have HC5 := KpC.call HC4 hB5)
          | (with_reducible refine wpList_storeV (w := w5) (by with_unfolding_all rfl) 105 (.tmp 11) (.tmp 63) (by with_unfolding_all rfl) w.heap.size (wvs f s) (wvs f2 s2) (by with_unfolding_all rfl) (by with_unfolding_all rfl) HC5.out.v 2 Tryz.sizeW (by with_unfolding_all rfl) (by with_unfolding_all rfl) (wvs_one _ _) ?_; intro w6 hA6 hB6 hF6 hS6; have HC6 := KpC.put HC5 HA HK h0 hA6 hB6 hS6; clear hS6))
        go_roundw
        case rel => exact ⟨k + 1, f2, s2, q, by go_num, rfl, hlt, by omega, by omega, HI5, HC6⟩
        case measure => simp [intOf]; omega
    · obtain rfl : k = m := by omega
      have HF : Hid (R = (s == 0 && decide (r = root))) := by
        show _ = _
        have := HI.out
        rw [← HM.out] at this
        rw [← HR.out]
        exact this.done
      clear HI
      by_cases hs0 : s = 0
      · subst hs0
        by_cases hrr : r = root
        · have HF2 : Hid (R = true) := by show _ = _; rw [HF.out, decide_eq_true hrr]; rfl
          have t1 : (r.toList == root.toList) = true := by rw [hrr]; exact txt_eq _
          clear HF hrr
          go_wp2
          go_ret
          exact ⟨retY HF2.out.symm, HC.out.below⟩
        · have HF2 : Hid (R = false) := by show _ = _; rw [HF.out, decide_eq_false hrr]; rfl
          have t1 : (r.toList == root.toList) = false := txt_ne hrr
          clear HF hrr
          go_wp2
          go_ret
          exact ⟨retY HF2.out.symm, HC.out.below⟩
      · have HF2 : Hid (R = false) := by show _ = _; rw [HF.out, beq_eq_false_iff_ne.2 hs0, Bool.false_and]
        have d0 : ((s : Int) == 0) = false := beq_eq_false_iff_ne.2 (by omega)
        clear HF hs0
        go_wp2
        go_ret
        exact ⟨retY HF2.out.symm, HC.out.below⟩

set_option maxRecDepth 100000 in
set_option maxHeartbeats 1000000 in
theorem incI : IncI := by
  intro leaf root i n a c m ps w hm hc hA hl hr hM hx wi wn hk h0
  by_cases hok : leaf.size = 32 ∧ root.size = 32 ∧ ps.length ≤ 400 ∧ okHs ps = true ∧ 1 ≤ n ∧ n ≤ 1099511627776 ∧ 0 ≤ i ∧ i < n
  · exact incI0 leaf root i n a c m ps w hm hA hok hk h0
  have HR : Hid (incB leaf i n ps root = false) := incB_no hok
  have HH3 : Hid (Calls Tryz.prog 71 #[.slice a m c] w fun e w' => e = .returned (.bool (okPr ps)) ∧ w = w') := proofRI a c m ps w hm hA (by omega) hx
  have hH1 : ∀ w0, Calls Tryz.prog 72 #[.string leaf] w0 fun e w' => e = .returned (.bool (decide (leaf.size = 32))) ∧ w0 = w' := fun w0 => ownH32B leaf w0 hl
  have hH2 : ∀ w0, Calls Tryz.prog 72 #[.string root] w0 fun e w' => e = .returned (.bool (decide (root.size = 32))) ∧ w0 = w' := fun w0 => ownH32B root w0 hr
  have hH4 : ∀ w0, Calls Tryz.prog 73 #[.int .i64 n] w0 fun e w' => e = .returned (.bool (decide (1 ≤ n ∧ n ≤ 1099511627776))) ∧ w0 = w' := fun w0 => sizeRI n w0
  have HO : Hid (okPr ps = true → leaf.size = 32 → root.size = 32 → (1 ≤ n ∧ n ≤ 1099511627776) → 0 ≤ i → i < n → False) := fun e1 e2 e3 e4 e5 e6 => by
    unfold okPr at e1
    rw [Bool.and_eq_true, decide_eq_true_eq] at e1
    exact hok ⟨e2, e3, e1.1, e1.2, e4.1, e4.2, e5, e6⟩
  clear hok hA hx hk
  cases q0 : okPr ps with
  | false =>
    rw [q0] at HH3
    clear q0
    clear HO
    go_enter Tryz.func31, Tryz.ntmps31
    go_wp2_with (first
      | (go_at_call 71; refine Calls.mono HH3.out ?_; rintro e w' ⟨rfl, rfl⟩)
      | (go_at_call 72; with_reducible refine (hH1 _).mono ?_; rintro e w' ⟨rfl, rfl⟩)
      | (go_at_call 72; with_reducible refine (hH2 _).mono ?_; rintro e w' ⟨rfl, rfl⟩)
      | (go_at_call 73; refine (hH4 _).mono ?_; rintro e w' ⟨rfl, rfl⟩))
    go_ret
    exact ⟨retY HR.out.symm, Below.refl _ _⟩
  | true =>
  rw [q0] at HH3
  by_cases q1 : leaf.size = 32
  case neg =>
    rw [decide_eq_false q1] at hH1
    clear HO
    go_enter Tryz.func31, Tryz.ntmps31
    go_wp2_with (first
      | (go_at_call 71; refine Calls.mono HH3.out ?_; rintro e w' ⟨rfl, rfl⟩)
      | (go_at_call 72; with_reducible refine (hH1 _).mono ?_; rintro e w' ⟨rfl, rfl⟩)
      | (go_at_call 72; with_reducible refine (hH2 _).mono ?_; rintro e w' ⟨rfl, rfl⟩)
      | (go_at_call 73; refine (hH4 _).mono ?_; rintro e w' ⟨rfl, rfl⟩))
    go_ret
    exact ⟨retY HR.out.symm, Below.refl _ _⟩
  rw [decide_eq_true q1] at hH1
  by_cases q2 : root.size = 32
  case neg =>
    rw [decide_eq_false q2] at hH2
    clear HO
    go_enter Tryz.func31, Tryz.ntmps31
    go_wp2_with (first
      | (go_at_call 71; refine Calls.mono HH3.out ?_; rintro e w' ⟨rfl, rfl⟩)
      | (go_at_call 72; with_reducible refine (hH1 _).mono ?_; rintro e w' ⟨rfl, rfl⟩)
      | (go_at_call 72; with_reducible refine (hH2 _).mono ?_; rintro e w' ⟨rfl, rfl⟩)
      | (go_at_call 73; refine (hH4 _).mono ?_; rintro e w' ⟨rfl, rfl⟩))
    go_ret
    exact ⟨retY HR.out.symm, Below.refl _ _⟩
  rw [decide_eq_true q2] at hH2
  by_cases q3 : 1 ≤ n ∧ n ≤ 1099511627776
  case neg =>
    rw [decide_eq_false q3] at hH4
    clear HO
    go_enter Tryz.func31, Tryz.ntmps31
    go_wp2_with (first
      | (go_at_call 71; refine Calls.mono HH3.out ?_; rintro e w' ⟨rfl, rfl⟩)
      | (go_at_call 72; with_reducible refine (hH1 _).mono ?_; rintro e w' ⟨rfl, rfl⟩)
      | (go_at_call 72; with_reducible refine (hH2 _).mono ?_; rintro e w' ⟨rfl, rfl⟩)
      | (go_at_call 73; refine (hH4 _).mono ?_; rintro e w' ⟨rfl, rfl⟩))
    go_ret
    exact ⟨retY HR.out.symm, Below.refl _ _⟩
  rw [decide_eq_true q3] at hH4
  by_cases c2 : i < 0
  · have e2 : decide (i < 0) = true := decide_eq_true c2
    clear HO
    go_enter Tryz.func31, Tryz.ntmps31
    go_wp2_with (first
      | (go_at_call 71; refine Calls.mono HH3.out ?_; rintro e w' ⟨rfl, rfl⟩)
      | (go_at_call 72; with_reducible refine (hH1 _).mono ?_; rintro e w' ⟨rfl, rfl⟩)
      | (go_at_call 72; with_reducible refine (hH2 _).mono ?_; rintro e w' ⟨rfl, rfl⟩)
      | (go_at_call 73; refine (hH4 _).mono ?_; rintro e w' ⟨rfl, rfl⟩))
    go_ret
    exact ⟨retY HR.out.symm, Below.refl _ _⟩
  have e2 : decide (i < 0) = false := decide_eq_false c2
  by_cases c3 : n ≤ i
  · have e3 : decide (n ≤ i) = true := decide_eq_true c3
    clear HO
    go_enter Tryz.func31, Tryz.ntmps31
    go_wp2_with (first
      | (go_at_call 71; refine Calls.mono HH3.out ?_; rintro e w' ⟨rfl, rfl⟩)
      | (go_at_call 72; with_reducible refine (hH1 _).mono ?_; rintro e w' ⟨rfl, rfl⟩)
      | (go_at_call 72; with_reducible refine (hH2 _).mono ?_; rintro e w' ⟨rfl, rfl⟩)
      | (go_at_call 73; refine (hH4 _).mono ?_; rintro e w' ⟨rfl, rfl⟩))
    go_ret
    exact ⟨retY HR.out.symm, Below.refl _ _⟩
  exact absurd (HO.out q0 q1 q2 q3 (by omega) (by omega)) id
end Go.Proofs.YtdfglpbappeoaaaGreatDoor
