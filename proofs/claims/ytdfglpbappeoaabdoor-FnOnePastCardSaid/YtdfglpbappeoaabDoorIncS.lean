/- InclusionCheck of the specification, walked. -/
import Derived.Test.YtdfglpbappeoaabDoorInc
namespace Go.Proofs.YtdfglpbappeoaabDoor
open Go.RowKit
set_option linter.unusedVariables false

/- What holds at the head of a round. -/
structure IncAt (leaf root : ByteArray) (i n : Int) (ps : List ByteArray) (k f s : Nat) (r : ByteArray) : Prop where
  eq : incB leaf i n ps root = chkI root (ps.drop k) f s r
  rs : r.size = 32
theorem rgt_odd {f s : Nat} (h : f % 2 = 1) : Mer.rgt f s = true := by unfold Mer.rgt; rw [beq_iff_eq.2 h]; rfl
theorem rgt_same {f s : Nat} (h : f = s) : Mer.rgt f s = true := by unfold Mer.rgt; rw [beq_iff_eq.2 h, Bool.or_true]
theorem rgt_not {f s : Nat} (h1 : ¬ f % 2 = 1) (h2 : ¬ f = s) : Mer.rgt f s = false := by unfold Mer.rgt; rw [beq_eq_false_iff_ne.2 h1, beq_eq_false_iff_ne.2 h2]; rfl
theorem IncAt.right {leaf root r p : ByteArray} {i n : Int} {ps : List ByteArray} {k f s : Nat} (h : IncAt leaf root i n ps k f s r) (hk : k < ps.length) (hp : ps[k] = p) (hs : s ≠ 0) (hr : Mer.rgt f s = true) : IncAt leaf root i n ps (k + 1) ((dn f s).1 / 2) ((dn f s).2 / 2) (nodeD p r) := by
  refine ⟨?_, nodeD_size _ _⟩
  rw [h.eq, List.drop_eq_getElem_cons hk, hp, chkI, nx_right hr, if_pos hr]
  simp [hs]
theorem IncAt.left {leaf root r p : ByteArray} {i n : Int} {ps : List ByteArray} {k f s : Nat} (h : IncAt leaf root i n ps k f s r) (hk : k < ps.length) (hp : ps[k] = p) (hs : s ≠ 0) (hr : Mer.rgt f s = false) : IncAt leaf root i n ps (k + 1) (f / 2) (s / 2) (nodeD r p) := by
  refine ⟨?_, nodeD_size _ _⟩
  rw [h.eq, List.drop_eq_getElem_cons hk, hp, chkI, nx_left hr, hr, if_neg (by decide)]
  simp [hs]
theorem IncAt.stop {leaf root r : ByteArray} {i n : Int} {ps : List ByteArray} {k f : Nat} (h : IncAt leaf root i n ps k f 0 r) (hk : k < ps.length) : incB leaf i n ps root = false := by
  rw [h.eq, List.drop_eq_getElem_cons hk, chkI]; rfl
theorem IncAt.done {leaf root r : ByteArray} {i n : Int} {ps : List ByteArray} {f s : Nat} (h : IncAt leaf root i n ps ps.length f s r) : incB leaf i n ps root = (s == 0 && decide (r = root)) := by
  rw [h.eq, List.drop_of_length_le (Nat.le_refl _), chkI]

set_option maxRecDepth 100000 in
set_option maxHeartbeats 2000000 in
theorem specInc0 (leaf root : ByteArray) (i n : Int) (a : Option Addr) (c m : Nat) (ps : List ByteArray) (w : World) (hm : ps.length = m) (hA : SA w a ps)
    (h : leaf.size = 32 ∧ root.size = 32 ∧ ps.length ≤ 400 ∧ okHs ps = true ∧ 1 ≤ n ∧ n ≤ 1099511627776 ∧ 0 ≤ i ∧ i < n) :
    Calls Tryd.prog 19 #[.string leaf, .int .i64 i, .int .i64 n, .slice a m c, .string root] w fun e w' => e = .returned (.bool (incB leaf i n ps root)) ∧ Below w.heap.size w w' := by
  have hst : IncAt leaf root i n ps 0 i.toNat (n.toNat - 1) leaf := ⟨by rw [incB_yes h]; rfl, h.1⟩
  obtain ⟨h1, h2, h3, h4, h5, h6, h7, h8⟩ := h
  have hH1 : ∀ w0, Calls Tryd.prog 59 #[.string leaf] w0 fun e w' => e = .returned (.bool true) ∧ w0 = w' := fun w0 => specH32 leaf w0 h1
  have hH2 : ∀ w0, Calls Tryd.prog 59 #[.string root] w0 fun e w' => e = .returned (.bool true) ∧ w0 = w' := fun w0 => specH32 root w0 h2
  have hH3 : Calls Tryd.prog 60 #[.slice a m c] w fun e w' => e = .returned (.bool true) ∧ w = w' := by
    have := specHashes a c m ps w hm hA (by omega) (fun x hx => by rw [okHs_of h4 x hx]; decide)
    rw [h4] at this
    exact this.mono fun e w' h => ⟨h.1, h.2.symm⟩
  have HH3 : Hid _ := hH3
  have hN : ∀ p r w0, p.size = 32 → r.size = 32 → Calls Tryd.prog 61 #[.string p, .string r] w0 fun e w' => e = .returned (.string (nodeD p r)) ∧ Below w0.heap.size w0 w' := fun p r w0 e1 e2 => specNode p r w0 (by omega) (by omega)
  have HP : Hid (∀ k (hk : k < ps.length), ps[k].size = 32) := fun k hk => okHs_of h4 _ (List.getElem_mem hk)
  have HA : Hid (SA w a ps) := hA
  have HM : Hid (ps.length = m) := hm
  have hmb : m ≤ 400 := by omega
  obtain ⟨f0, rfl⟩ := Int.eq_ofNat_of_zero_le h7
  obtain ⟨n0, rfl⟩ := Int.eq_ofNat_of_zero_le (show 0 ≤ n by omega)
  have HS : Hid (IncAt leaf root f0 n0 ps 0 f0 (n0 - 1) leaf) := hst
  have es : (n0 : Int) - 1 = ((n0 - 1 : Nat) : Int) := by omega
  obtain ⟨R, hR⟩ : ∃ R, incB leaf f0 n0 ps root = R := ⟨_, rfl⟩
  rw [hR]
  have HR : Hid (incB leaf f0 n0 ps root = R) := hR
  clear hst hH3 hA hm h3 h4 hR
  have g1 : decide ((n0 : Int) < 1) = false := decide_eq_false (by omega)
  have g2 : decide ((1099511627776 : Int) < (n0 : Int)) = false := decide_eq_false (by omega)
  have g3 : decide ((f0 : Int) < 0) = false := decide_eq_false (by omega)
  have g4 : decide (n0 ≤ f0) = false := decide_eq_false (by omega)
  have g5 : decide ((n0 : Int) ≤ (f0 : Int)) = false := decide_eq_false (by omega)
  have g6 : decide ((400 : Int) < (m : Int)) = false := decide_eq_false (by omega)
  go_enter Tryd.func19, Tryd.ntmps19
  go_wp2_with (first
    | (go_at_call 59; with_reducible refine (hH1 _).mono ?_; rintro e w' ⟨rfl, rfl⟩)
    | (go_at_call 59; with_reducible refine (hH2 _).mono ?_; rintro e w' ⟨rfl, rfl⟩)
    | (go_at_call 60; refine Calls.mono HH3.out ?_; rintro e w' ⟨rfl, rfl⟩))
  go_loopw [11, 12, 13, 14] (fun vf vs vr vi wr => ∃ (k f s : Nat) (r : ByteArray), vi = .int .i64 (k : Int) ∧ vf = .int .i64 (f : Int) ∧ vs = .int .i64 (s : Int) ∧ vr = .string r ∧ k ≤ m ∧ f ≤ 1099511627776 ∧ s ≤ 1099511627776 ∧ IncAt leaf root f0 n0 ps k f s r ∧ Below w.heap.size w wr) (fun _ _ _ vi _ => m - (intOf vi).toNat)
  case atStart => exact ⟨0, f0, n0 - 1, leaf, rfl, rfl, rfl, rfl, Nat.zero_le _, by omega, by omega, HS.out, Below.refl _ _⟩
  case round =>
    obtain ⟨k, f, s, r, rfl, rfl, rfl, rfl, hk, hf, hs, hI, hB⟩ := hrel
    have HI : Hid (IncAt leaf root f0 n0 ps k f s r) := hI
    have HB : Hid (Below w.heap.size w wr) := hB
    have hrs := hI.rs
    clear hI HS es HH3 hH1 hH2 g1 g2 g3 g4 g5 g6
    by_cases hlt : k < m
    · have hkl : k < ps.length := by have := HM.out; omega
      obtain ⟨b, o, rfl, hc⟩ := (HA.out.below hB) k hkl
      have hps := HP.out k hkl
      have HI2 : Hid (∀ (e1 : s ≠ 0) (e2 : Mer.rgt f s = true), IncAt leaf root f0 n0 ps (k + 1) ((dn f s).1 / 2) ((dn f s).2 / 2) (nodeD ps[k] r)) := fun e1 e2 => HI.out.right hkl rfl e1 e2
      have HI3 : Hid (∀ (e1 : s ≠ 0) (e2 : Mer.rgt f s = false), IncAt leaf root f0 n0 ps (k + 1) (f / 2) (s / 2) (nodeD r ps[k])) := fun e1 e2 => HI.out.left hkl rfl e1 e2
      have HI4 : Hid (s = 0 → incB leaf f0 n0 ps root = false) := fun e => by have := HI.out; rw [e] at this; exact this.stop hkl
      generalize ps[k] = p at *
      have lk : (k : Int) < m := by omega
      have l0 : (0 : Int) ≤ k := by omega
      clear hB hkl HI
      by_cases hs0 : s = 0
      · as_aux_lemma =>
        have HF : Hid (R = false) := by show _ = _; rw [← HR.out]; exact HI4.out hs0
        subst hs0
        clear HI2 HI3 HI4
        go_wp2
        go_ret
        exact ⟨retY HF.out.symm, HB.out⟩
      have d0 : ((s : Int) == 0) = false := beq_eq_false_iff_ne.2 (by omega)
      have hc0 := hs0
      by_cases hodd : f % 2 = 1
      · as_aux_lemma =>
        have hrg : Mer.rgt f s = true := rgt_odd hodd
        have d5 : ((f : Int) % 2 == 1) = true := beq_iff_eq.2 (by omega)
        clear hodd
        have HI5 : Hid (IncAt leaf root f0 n0 ps (k + 1) ((dn f s).1 / 2) ((dn f s).2 / 2) (nodeD p r)) := HI2.out hs0 hrg
        clear HI2 HI3 HI4 hrg hc0
        have hN1 : Calls Tryd.prog 61 #[.string p, .string r] wr fun e w' => e = .returned (.string (nodeD p r)) ∧ Below wr.heap.size wr w' := hN p r wr hps hrs
        have HN1 : Hid _ := hN1
        obtain ⟨F, S, hFS⟩ : ∃ F S, dn f s = (F, S) := ⟨_, _, rfl⟩
        have HD : Hid (dn f s = (F, S)) := hFS
        rw [hFS] at HI5
        generalize nodeD p r = q at *
        clear hN1 hN hFS
        go_wp2_with (go_at_call 61; refine Calls.mono HN1.out ?_; rintro e w2 ⟨rfl, hB2⟩)
        have HB2 : Hid (Below w.heap.size w w2) := HB.out.trans (hB2.mono HB.out.size)
        clear hB2 HB HN1 hc
        go_loopw [11, 12] (fun vf vs wx => ∃ (f' s' : Nat), vf = .int .i64 (f' : Int) ∧ vs = .int .i64 (s' : Int) ∧ f' ≤ 1099511627776 ∧ s' ≤ 1099511627776 ∧ Hid (dn f' s' = (F, S)) ∧ wx = w2) (fun vf _ _ => (intOf vf).toNat)
        case atStart => exact ⟨f, s, rfl, rfl, hf, hs, HD, rfl⟩
        case round =>
          clear HD
          obtain ⟨f', s', rfl, rfl, hf', hs', HD', rfl⟩ := hrel
          by_cases e1 : f' % 2 = 0
          · have t1 : ((f' : Int) % 2 == 0) = true := beq_iff_eq.2 (by omega)
            by_cases e2 : f' = 0
            · have t2 : ((f' : Int) != 0) = false := by simp [e2]
              have t3 : ((f' : Int) == 0) = true := by simp [e2]
              have HE : Hid (f' = F ∧ s' = S) := by have := HD'.out; rw [dn_stop (Or.inr e2)] at this; injection this with a1 a2; exact ⟨a1, a2⟩
              clear HD' e1 e2
              go_wp2
              go_roundw
              case rel => exact ⟨k + 1, F / 2, S / 2, q, by go_num, by rw [← HE.out.1]; go_num, by rw [← HE.out.2]; go_num, rfl, hlt, by have := HE.out.1; omega, by have := HE.out.2; omega, HI5.out, HB2.out⟩
              case measure => simp [intOf]; omega
            · have t2 : ((f' : Int) != 0) = true := by simp; omega
              have t3 : ((f' : Int) == 0) = false := by simp; omega
              have HE : Hid (dn (f' / 2) (s' / 2) = (F, S)) := by have := HD'.out; rw [dn_go e1 e2] at this; exact this
              clear HD' e1
              go_wp2
              go_roundw
              case rel => exact ⟨f' / 2, s' / 2, by go_num, by go_num, by omega, by omega, HE, trivial⟩
              case measure => simp [intOf]; omega
          · have t1 : ((f' : Int) % 2 == 0) = false := beq_eq_false_iff_ne.2 (by omega)
            have HE : Hid (f' = F ∧ s' = S) := by have := HD'.out; rw [dn_stop (Or.inl (by omega))] at this; injection this with a1 a2; exact ⟨a1, a2⟩
            clear HD' e1
            go_wp2
            go_roundw
            case rel => exact ⟨k + 1, F / 2, S / 2, q, by go_num, by rw [← HE.out.1]; go_num, by rw [← HE.out.2]; go_num, rfl, hlt, by have := HE.out.1; omega, by have := HE.out.2; omega, HI5.out, HB2.out⟩
            case measure => simp [intOf]; omega
      have d5 : ((f : Int) % 2 == 1) = false := beq_eq_false_iff_ne.2 (by omega)
      by_cases hsame : f = s
      · as_aux_lemma =>
        have hrg : Mer.rgt f s = true := rgt_same hsame
        have d6 : ((f : Int) == (s : Int)) = true := beq_iff_eq.2 (by omega)
        clear hodd hsame
        have HI5 : Hid (IncAt leaf root f0 n0 ps (k + 1) ((dn f s).1 / 2) ((dn f s).2 / 2) (nodeD p r)) := HI2.out hs0 hrg
        clear HI2 HI3 HI4 hrg hc0
        have hN1 : Calls Tryd.prog 61 #[.string p, .string r] wr fun e w' => e = .returned (.string (nodeD p r)) ∧ Below wr.heap.size wr w' := hN p r wr hps hrs
        have HN1 : Hid _ := hN1
        obtain ⟨F, S, hFS⟩ : ∃ F S, dn f s = (F, S) := ⟨_, _, rfl⟩
        have HD : Hid (dn f s = (F, S)) := hFS
        rw [hFS] at HI5
        generalize nodeD p r = q at *
        clear hN1 hN hFS
        go_wp2_with (go_at_call 61; refine Calls.mono HN1.out ?_; rintro e w2 ⟨rfl, hB2⟩)
        have HB2 : Hid (Below w.heap.size w w2) := HB.out.trans (hB2.mono HB.out.size)
        clear hB2 HB HN1 hc
        go_loopw [11, 12] (fun vf vs wx => ∃ (f' s' : Nat), vf = .int .i64 (f' : Int) ∧ vs = .int .i64 (s' : Int) ∧ f' ≤ 1099511627776 ∧ s' ≤ 1099511627776 ∧ Hid (dn f' s' = (F, S)) ∧ wx = w2) (fun vf _ _ => (intOf vf).toNat)
        case atStart => exact ⟨f, s, rfl, rfl, hf, hs, HD, rfl⟩
        case round =>
          clear HD
          obtain ⟨f', s', rfl, rfl, hf', hs', HD', rfl⟩ := hrel
          by_cases e1 : f' % 2 = 0
          · have t1 : ((f' : Int) % 2 == 0) = true := beq_iff_eq.2 (by omega)
            by_cases e2 : f' = 0
            · have t2 : ((f' : Int) != 0) = false := by simp [e2]
              have t3 : ((f' : Int) == 0) = true := by simp [e2]
              have HE : Hid (f' = F ∧ s' = S) := by have := HD'.out; rw [dn_stop (Or.inr e2)] at this; injection this with a1 a2; exact ⟨a1, a2⟩
              clear HD' e1 e2
              go_wp2
              go_roundw
              case rel => exact ⟨k + 1, F / 2, S / 2, q, by go_num, by rw [← HE.out.1]; go_num, by rw [← HE.out.2]; go_num, rfl, hlt, by have := HE.out.1; omega, by have := HE.out.2; omega, HI5.out, HB2.out⟩
              case measure => simp [intOf]; omega
            · have t2 : ((f' : Int) != 0) = true := by simp; omega
              have t3 : ((f' : Int) == 0) = false := by simp; omega
              have HE : Hid (dn (f' / 2) (s' / 2) = (F, S)) := by have := HD'.out; rw [dn_go e1 e2] at this; exact this
              clear HD' e1
              go_wp2
              go_roundw
              case rel => exact ⟨f' / 2, s' / 2, by go_num, by go_num, by omega, by omega, HE, trivial⟩
              case measure => simp [intOf]; omega
          · have t1 : ((f' : Int) % 2 == 0) = false := beq_eq_false_iff_ne.2 (by omega)
            have HE : Hid (f' = F ∧ s' = S) := by have := HD'.out; rw [dn_stop (Or.inl (by omega))] at this; injection this with a1 a2; exact ⟨a1, a2⟩
            clear HD' e1
            go_wp2
            go_roundw
            case rel => exact ⟨k + 1, F / 2, S / 2, q, by go_num, by rw [← HE.out.1]; go_num, by rw [← HE.out.2]; go_num, rfl, hlt, by have := HE.out.1; omega, by have := HE.out.2; omega, HI5.out, HB2.out⟩
            case measure => simp [intOf]; omega
      · as_aux_lemma =>
        have HI5 : Hid (IncAt leaf root f0 n0 ps (k + 1) (f / 2) (s / 2) (nodeD r p)) := HI3.out hs0 (rgt_not hodd hsame)
        have d6 : ((f : Int) == (s : Int)) = false := beq_eq_false_iff_ne.2 (by omega)
        have HN1 : Hid (Calls Tryd.prog 61 #[.string r, .string p] wr fun e w' => e = .returned (.string (nodeD r p)) ∧ Below wr.heap.size wr w') := hN r p wr hrs hps
        generalize nodeD r p = q at *
        clear HI2 HI3 HI4 hc0 hodd hsame hN
        go_wp2_with (go_at_call 61; refine Calls.mono HN1.out ?_; rintro e w2 ⟨rfl, hB2⟩)
        have HB2 : Hid (Below w.heap.size w w2) := HB.out.trans (hB2.mono HB.out.size)
        clear hB2 HB HN1 hc
        go_roundw
        case rel => exact ⟨k + 1, f / 2, s / 2, q, by go_num, by go_num, by go_num, rfl, hlt, by omega, by omega, HI5.out, HB2.out⟩
        case measure => simp [intOf]; omega
    · obtain rfl : k = m := by omega
      have HF : Hid (R = (s == 0 && decide (r = root))) := by
        show _ = _
        have := HI.out
        rw [← HM.out] at this
        rw [← HR.out]
        exact this.done
      clear HI hB
      by_cases hs0 : s = 0
      · subst hs0
        by_cases hrr : r = root
        · have HF2 : Hid (R = true) := by show _ = _; rw [HF.out, decide_eq_true hrr]; rfl
          have t1 : (r.toList == root.toList) = true := by rw [hrr]; exact txt_eq _
          clear HF hrr
          go_wp2
          go_ret
          exact ⟨retY HF2.out.symm, HB.out⟩
        · have HF2 : Hid (R = false) := by show _ = _; rw [HF.out, decide_eq_false hrr]; rfl
          have t1 := txt_ne hrr
          clear HF hrr
          go_wp2
          go_ret
          exact ⟨retY HF2.out.symm, HB.out⟩
      · have HF2 : Hid (R = false) := by show _ = _; rw [HF.out, beq_eq_false_iff_ne.2 hs0]; rfl
        have d0 : ((s : Int) == 0) = false := beq_eq_false_iff_ne.2 (by omega)
        clear HF
        go_wp2
        go_ret
        exact ⟨retY HF2.out.symm, HB.out⟩
set_option maxRecDepth 100000 in
set_option maxHeartbeats 2000000 in
theorem specInc (leaf root : ByteArray) (i n : Int) (a : Option Addr) (c m : Nat) (ps : List ByteArray) (w : World) (hm : ps.length = m) (hA : SA w a ps) (hl : leaf.size ≤ maxLen) (hr : root.size ≤ maxLen) (hM : m ≤ 1000000000) (hx : ∀ x ∈ ps, x.size ≤ maxLen) :
    Calls Tryd.prog 19 #[.string leaf, .int .i64 i, .int .i64 n, .slice a m c, .string root] w fun e w' => e = .returned (.bool (incB leaf i n ps root)) ∧ Below w.heap.size w w' := by
  by_cases hok : leaf.size = 32 ∧ root.size = 32 ∧ ps.length ≤ 400 ∧ okHs ps = true ∧ 1 ≤ n ∧ n ≤ 1099511627776 ∧ 0 ≤ i ∧ i < n
  · exact specInc0 leaf root i n a c m ps w hm hA hok
  have HR : Hid (incB leaf i n ps root = false) := incB_no hok
  have hH1 : ∀ w0, leaf.size = 32 → Calls Tryd.prog 59 #[.string leaf] w0 fun e w' => e = .returned (.bool true) ∧ w0 = w' := fun w0 h => specH32 leaf w0 h
  have hH1' : ∀ w0, ¬ leaf.size = 32 → Calls Tryd.prog 59 #[.string leaf] w0 fun e w' => e = .returned (.bool false) ∧ w0 = w' := fun w0 h => specH32' leaf w0 h hl
  have hH2 : ∀ w0, root.size = 32 → Calls Tryd.prog 59 #[.string root] w0 fun e w' => e = .returned (.bool true) ∧ w0 = w' := fun w0 h => specH32 root w0 h
  have hH2' : ∀ w0, ¬ root.size = 32 → Calls Tryd.prog 59 #[.string root] w0 fun e w' => e = .returned (.bool false) ∧ w0 = w' := fun w0 h => specH32' root w0 h hr
  have HH3 : Hid (Calls Tryd.prog 60 #[.slice a m c] w fun e w' => e = .returned (.bool (okHs ps)) ∧ w = w') := (specHashes a c m ps w hm hA hM hx).mono fun e w' h => ⟨h.1, h.2.symm⟩
  have hmm : ps.length = m := hm
  unfold maxLen at hl hr
  clear hA hx
  by_cases b1 : 20000 < leaf.size
  · have db1 : decide ((20000 : Int) < (leaf.size : Int)) = true := decide_eq_true (by omega)
    clear HH3 hok
    go_enter Tryd.func19, Tryd.ntmps19
    go_wp2
    go_ret
    exact ⟨retY HR.out.symm, Below.refl _ _⟩
  have db1 : decide ((20000 : Int) < (leaf.size : Int)) = false := decide_eq_false (by omega)
  by_cases b2 : 20000 < root.size
  · have db2 : decide ((20000 : Int) < (root.size : Int)) = true := decide_eq_true (by omega)
    clear HH3 hok
    go_enter Tryd.func19, Tryd.ntmps19
    go_wp2
    go_ret
    exact ⟨retY HR.out.symm, Below.refl _ _⟩
  have db2 : decide ((20000 : Int) < (root.size : Int)) = false := decide_eq_false (by omega)
  by_cases b3 : 400 < m
  · have db3 : decide ((400 : Int) < (m : Int)) = true := decide_eq_true (by omega)
    clear HH3 hok
    go_enter Tryd.func19, Tryd.ntmps19
    go_wp2
    go_ret
    exact ⟨retY HR.out.symm, Below.refl _ _⟩
  have db3 : decide ((400 : Int) < (m : Int)) = false := decide_eq_false (by omega)
  by_cases q1 : leaf.size = 32
  case neg =>
    clear HH3 hok
    go_enter Tryd.func19, Tryd.ntmps19
    go_wp2_with (first
      | (go_at_call 59; with_reducible refine (hH1' _ q1).mono ?_; rintro e w' ⟨rfl, rfl⟩))
    go_ret
    exact ⟨retY HR.out.symm, Below.refl _ _⟩
  by_cases q2 : root.size = 32
  case neg =>
    clear HH3 hok
    go_enter Tryd.func19, Tryd.ntmps19
    go_wp2_with (first
      | (go_at_call 59; with_reducible refine (hH1 _ q1).mono ?_; rintro e w' ⟨rfl, rfl⟩)
      | (go_at_call 59; with_reducible refine (hH2' _ q2).mono ?_; rintro e w' ⟨rfl, rfl⟩))
    go_ret
    exact ⟨retY HR.out.symm, Below.refl _ _⟩
  by_cases q3 : okHs ps = true
  case neg =>
    have q3' : okHs ps = false := by simpa using q3
    rw [q3'] at HH3
    clear hok q3 q3'
    go_enter Tryd.func19, Tryd.ntmps19
    go_wp2_with (first
      | (go_at_call 59; with_reducible refine (hH1 _ q1).mono ?_; rintro e w' ⟨rfl, rfl⟩)
      | (go_at_call 59; with_reducible refine (hH2 _ q2).mono ?_; rintro e w' ⟨rfl, rfl⟩)
      | (go_at_call 60; refine Calls.mono HH3.out ?_; rintro e w' ⟨rfl, rfl⟩))
    go_ret
    exact ⟨retY HR.out.symm, Below.refl _ _⟩
  rw [q3] at HH3
  by_cases c0 : n < 1
  · have e0 : decide (n < 1) = true := decide_eq_true c0
    clear hok
    go_enter Tryd.func19, Tryd.ntmps19
    go_wp2_with (first
      | (go_at_call 59; with_reducible refine (hH1 _ q1).mono ?_; rintro e w' ⟨rfl, rfl⟩)
      | (go_at_call 59; with_reducible refine (hH2 _ q2).mono ?_; rintro e w' ⟨rfl, rfl⟩)
      | (go_at_call 60; refine Calls.mono HH3.out ?_; rintro e w' ⟨rfl, rfl⟩))
    go_ret
    exact ⟨retY HR.out.symm, Below.refl _ _⟩
  have e0 : decide (n < 1) = false := decide_eq_false c0
  by_cases c1 : 1099511627776 < n
  · have e1 : decide (1099511627776 < n) = true := decide_eq_true c1
    clear hok
    go_enter Tryd.func19, Tryd.ntmps19
    go_wp2_with (first
      | (go_at_call 59; with_reducible refine (hH1 _ q1).mono ?_; rintro e w' ⟨rfl, rfl⟩)
      | (go_at_call 59; with_reducible refine (hH2 _ q2).mono ?_; rintro e w' ⟨rfl, rfl⟩)
      | (go_at_call 60; refine Calls.mono HH3.out ?_; rintro e w' ⟨rfl, rfl⟩))
    go_ret
    exact ⟨retY HR.out.symm, Below.refl _ _⟩
  have e1 : decide (1099511627776 < n) = false := decide_eq_false c1
  by_cases c2 : i < 0
  · have e2 : decide (i < 0) = true := decide_eq_true c2
    clear hok
    go_enter Tryd.func19, Tryd.ntmps19
    go_wp2_with (first
      | (go_at_call 59; with_reducible refine (hH1 _ q1).mono ?_; rintro e w' ⟨rfl, rfl⟩)
      | (go_at_call 59; with_reducible refine (hH2 _ q2).mono ?_; rintro e w' ⟨rfl, rfl⟩)
      | (go_at_call 60; refine Calls.mono HH3.out ?_; rintro e w' ⟨rfl, rfl⟩))
    go_ret
    exact ⟨retY HR.out.symm, Below.refl _ _⟩
  have e2 : decide (i < 0) = false := decide_eq_false c2
  by_cases c3 : n ≤ i
  · have e3 : decide (n ≤ i) = true := decide_eq_true c3
    clear hok
    go_enter Tryd.func19, Tryd.ntmps19
    go_wp2_with (first
      | (go_at_call 59; with_reducible refine (hH1 _ q1).mono ?_; rintro e w' ⟨rfl, rfl⟩)
      | (go_at_call 59; with_reducible refine (hH2 _ q2).mono ?_; rintro e w' ⟨rfl, rfl⟩)
      | (go_at_call 60; refine Calls.mono HH3.out ?_; rintro e w' ⟨rfl, rfl⟩))
    go_ret
    exact ⟨retY HR.out.symm, Below.refl _ _⟩
  have e3 : decide (n ≤ i) = false := decide_eq_false c3
  exact absurd ⟨q1, q2, by omega, q3, by omega, by omega, by omega, by omega⟩ hok
end Go.Proofs.YtdfglpbappeoaabDoor
