/- ConsistencyCheck of the specification, walked. -/
import Derived.Test.YtdfglpbappeoaabDoorCon
namespace Go.Proofs.YtdfglpbappeoaabDoor
open Go.RowKit
set_option linter.unusedVariables false

theorem pwB_eq (i : Int) : (bits .and .i64 i (i - 1) == 0) = pwB i := rfl
theorem conR_rest {i n : Int} {ps : List ByteArray} {old root : ByteArray} {L : List ByteArray} (hne : ¬ i = n) (hL : conLs i ps old = L) (h : 0 < L.length) (f s : Nat) (hs : Mer.strip (i.toNat - 1) (n.toNat - 1) = (f, s)) : conR i n ps old root = chkC old root (L.drop 1) f s L[0] L[0] := by
  unfold conR
  rw [if_neg hne, hL, hs]
  match L, h with
  | x :: rest, _ => rfl
theorem conR_none {i n : Int} {ps : List ByteArray} {old root : ByteArray} (hne : ¬ i = n) (hL : conLs i ps old = []) : conR i n ps old root = false := by
  unfold conR
  rw [if_neg hne, hL]
set_option maxRecDepth 100000 in
set_option maxHeartbeats 4000000 in
theorem specCon0 (old root : ByteArray) (i n : Int) (b o c m : Nat) (ps : List ByteArray) (w : World) (hm : ps.length = m) (hA : SA w (some ⟨b, o, none⟩) ps) (h : ConOk i n ps old root) (hne : ¬ i = n) :
    Calls Tryd.prog 23 #[.int .i64 i, .int .i64 n, .slice (some ⟨b, o, none⟩) m c, .string old, .string root] w fun e w' => e = .returned (.bool (conR i n ps old root)) ∧ Below w.heap.size w w' := by
  obtain ⟨h1, h2, h3, h4, h5, h6, h7, h8⟩ := h
  have hH1 : ∀ w0, Calls Tryd.prog 59 #[.string old] w0 fun e w' => e = .returned (.bool true) ∧ w0 = w' := fun w0 => specH32 old w0 h1
  have hH2 : ∀ w0, Calls Tryd.prog 59 #[.string root] w0 fun e w' => e = .returned (.bool true) ∧ w0 = w' := fun w0 => specH32 root w0 h2
  have hH3 : Calls Tryd.prog 60 #[.slice (some ⟨b, o, none⟩) m c] w fun e w' => e = .returned (.bool true) ∧ w = w' := by
    have := specHashes (some ⟨b, o, none⟩) c m ps w hm hA (by omega) (fun x hx => by rw [okHs_of h4 x hx]; decide)
    rw [h4] at this
    exact this.mono fun e w' h => ⟨h.1, h.2.symm⟩
  have HH3 : Hid _ := hH3
  have hN : ∀ p r w0, p.size = 32 → r.size = 32 → Calls Tryd.prog 61 #[.string p, .string r] w0 fun e w' => e = .returned (.string (nodeD p r)) ∧ Below w0.heap.size w0 w' := fun p r w0 e1 e2 => specNode p r w0 (by omega) (by omega)
  have HP0 : Hid (∀ x ∈ ps, x.size = 32) := fun x hx => okHs_of h4 x hx
  have HA : Hid (SA w (some ⟨b, o, none⟩) ps) := hA
  have HM : Hid (ps.length = m) := hm
  have hmb : m ≤ 400 := by omega
  obtain ⟨f0, rfl⟩ := Int.eq_ofNat_of_zero_le (show 0 ≤ i by omega)
  obtain ⟨n0, rfl⟩ := Int.eq_ofNat_of_zero_le (show 0 ≤ n by omega)
  have es : (n0 : Int) - 1 = ((n0 - 1 : Nat) : Int) := by omega
  have ef : (f0 : Int) - 1 = ((f0 - 1 : Nat) : Int) := by omega
  obtain ⟨F0, S0, hFS⟩ : ∃ F S, Mer.strip (f0 - 1) (n0 - 1) = (F, S) := ⟨_, _, rfl⟩
  have HFS : Hid (Mer.strip (f0 - 1) (n0 - 1) = (F0, S0)) := hFS
  have HRL0 : Hid (∀ L : List ByteArray, conLs f0 ps old = L → ∀ h : 0 < L.length, conR f0 n0 ps old root = chkC old root (L.drop 1) F0 S0 L[0] L[0]) := fun L hL h => conR_rest hne hL h F0 S0 hFS
  have HRN : Hid (conLs f0 ps old = [] → conR f0 n0 ps old root = false) := fun hL => conR_none hne hL
  obtain ⟨R, hR⟩ : ∃ R, conR f0 n0 ps old root = R := ⟨_, rfl⟩
  rw [hR] at HRL0 HRN ⊢
  have u1 : decide ((n0 : Int) < 1) = false := decide_eq_false (by omega)
  have u2 : decide ((1099511627776 : Int) < (n0 : Int)) = false := decide_eq_false (by omega)
  have u3 : decide ((f0 : Int) < 1) = false := decide_eq_false (by omega)
  have u4 : decide (n0 < f0) = false := decide_eq_false (by omega)
  have u5 : decide ((n0 : Int) < (f0 : Int)) = false := decide_eq_false (by omega)
  have u6 : decide ((400 : Int) < (m : Int)) = false := decide_eq_false (by omega)
  have u7 : ((f0 : Int) == (n0 : Int)) = false := beq_eq_false_iff_ne.2 hne
  have u8 : (f0 == n0) = false := beq_eq_false_iff_ne.2 (by omega)
  have B1 : Below w.heap.size w (w.alloc (.cells #[] 9)) := (Below.refl _ _).alloc (Nat.le_refl _) _
  have hsa1 : SA (w.alloc (.cells #[] 9)) (some ⟨b, o, none⟩) ps := hA.below B1
  have hown1 : (w.alloc (.cells #[] 9)).ownsRow w.heap.size 9 1 (.slice (some ⟨w.heap.size, 0, none⟩) 0 0) 0 (svl []) := World.ownsRow_made w #[] 0 (Nat.le_refl _) (Nat.zero_le _) rfl
  have hz1 : w.heap.size ≤ (w.alloc (.cells #[] 9)).heap.size := B1.size
  have HX1 : Hid (SA (w.alloc (.cells #[] 9)) (some ⟨b, o, none⟩) ps ∧ (w.alloc (.cells #[] 9)).ownsRow w.heap.size 9 1 (.slice (some ⟨w.heap.size, 0, none⟩) 0 0) 0 (svl []) ∧ Below w.heap.size w (w.alloc (.cells #[] 9))) := ⟨hsa1, hown1, B1⟩
  clear hH3 hA h3 h4 hR hFS hsa1 hown1 B1 hm
  by_cases hpw : pwB f0 = true
  · have e9 : (bits .and .i64 (f0 : Int) ((f0 : Int) - 1) == 0) = true := by rw [pwB_eq]; exact hpw
    have e9' : (bits .and .i64 (f0 : Int) ((f0 - 1 : Nat) : Int) == 0) = true := by rw [← ef]; exact e9
    have hLs : conLs f0 ps old = old :: ps := by unfold conLs; rw [hpw]; rfl
    as_aux_lemma =>
    obtain ⟨L, hLL⟩ : ∃ L, conLs f0 ps old = L := ⟨_, rfl⟩
    have hLe : L = old :: ps := hLL.symm.trans hLs
    have HRL : Hid (∀ h : 0 < L.length, R = chkC old root (L.drop 1) F0 S0 L[0] L[0]) := fun h => HRL0.out L hLL h
    have HP : Hid (∀ k (hk : k < L.length), L[k].size = 32) := fun k hk => by
      have := List.getElem_mem hk
      generalize L[k] = z at *
      rw [hLe] at this
      rcases List.mem_cons.1 this with e | e
      · rw [e]; exact h1
      · exact HP0.out _ e
    clear HRL0 HRN hpw hLs hLL
    go_enter Tryd.func23, Tryd.ntmps23
    go_wp2_with (first
      | (go_at_call 59; with_reducible refine (hH1 _).mono ?_; rintro e w' ⟨rfl, rfl⟩)
      | (go_at_call 59; with_reducible refine (hH2 _).mono ?_; rintro e w' ⟨rfl, rfl⟩)
      | (go_at_call 60; refine Calls.mono HH3.out ?_; rintro e w' ⟨rfl, rfl⟩)
      | (at_builtin; refine wpList_append_strs rfl _ _ rfl w.heap.size (.slice (some ⟨w.heap.size, 0, none⟩) 0 0) 0 m [] ps rfl HX1.out.2.1 b o c rfl HM.out HX1.out.1 (by omega) hz1 ?_; intro v7 w7 hO7 hB7 hv7; rw [Nat.zero_add, List.nil_append] at hO7; obtain ⟨g7, c7, rfl, hl7, hg7, hc7, hm7, hsa7⟩ := own_some hO7 (hv7 (by simp)); have z7 := hB7.size; have zz7 : w.heap.size ≤ w7.heap.size := Nat.le_trans hz1 z7)
      | (at_builtin; refine wpList_append_strs rfl _ _ rfl w7.heap.size (.slice (some ⟨w7.heap.size, 0, none⟩) 1 1) 1 m [old] ps rfl (World.ownsRow_lit w7 #[.string old] 1 (Nat.le_refl _) (by unfold maxLen; omega) rfl) g7 0 c7 rfl HM.out (hsa7.below ((Below.refl _ _).alloc (Nat.le_refl _) _)) (by omega) (by simp) ?_; intro v8 w8 hO8 hB8 hv8; obtain ⟨g, c8, rfl, hl8, hg8, hc8, hm8, hsa8⟩ := own_some hO8 (hv8 (by simp))))
    have HB8 : Hid (Below w.heap.size w w8) := (HX1.out.2.2.trans hB7).trans ((((Below.refl _ _).alloc (Nat.le_refl _) _).trans hB8).mono zz7)
    have HSA : Hid (SA w8 (some ⟨g, 0, none⟩) L) := by rw [hLe]; exact hsa8
    obtain ⟨N, hNN⟩ : ∃ N, 1 + m = N := ⟨_, rfl⟩
    have HN' : Hid (L.length = N) := by show _ = _; rw [hLe, List.length_cons, HM.out]; omega
    rw [hNN]
    have hN1 : 1 ≤ N := by omega
    have hNb : N ≤ 401 := by omega
    clear hO7 hB7 hv7 hl7 hg7 hc7 hm7 hsa7 z7 zz7 hO8 hB8 hv8 hl8 hg8 hc8 hm8 hsa8 HX1 hz1 HA HP0 HM hH1 hH2 HH3 u1 u2 u3 u4 u5 u6 u7 u8 e9 e9' hLe hNN es ef
    go_loopw [12, 13] (fun vf vs wx => ∃ (f' s' : Nat), vf = .int .i64 (f' : Int) ∧ vs = .int .i64 (s' : Int) ∧ f' ≤ 1099511627776 ∧ s' ≤ 1099511627776 ∧ Hid (Mer.strip f' s' = (F0, S0)) ∧ w8 = wx) (fun vf _ _ => (intOf vf).toNat)
    case atStart => exact ⟨f0 - 1, n0 - 1, rfl, rfl, by omega, by omega, HFS, rfl⟩
    case round =>
      clear HFS
      obtain ⟨f1, s1, rfl, rfl, hf1, hs1, HD1, rfl⟩ := hrel
      by_cases e1 : f1 % 2 = 1
      · have t1 : ((f1 : Int) % 2 == 1) = true := beq_iff_eq.2 (by omega)
        have HE : Hid (Mer.strip (f1 / 2) (s1 / 2) = (F0, S0)) := by have := HD1.out; rw [strip_go e1] at this; exact this
        clear HD1
        go_wp2
        go_roundw
        case rel => exact ⟨f1 / 2, s1 / 2, by go_num, by go_num, by omega, by omega, HE, trivial⟩
        case measure => simp [intOf]; omega
      have t1 : ((f1 : Int) % 2 == 1) = false := beq_eq_false_iff_ne.2 (by omega)
      have HE : Hid (f1 = F0 ∧ s1 = S0) := by have := HD1.out; rw [strip_stop e1] at this; injection this with a1 a2; exact ⟨a1, a2⟩
      have hL0 : 0 < L.length := by have := HN'.out; omega
      obtain ⟨b0, o0, hb0, hc0⟩ := HSA.out 0 hL0
      injection hb0 with hb0
      injection hb0 with hb1 hb2
      subst hb1 hb2
      have HST : Hid (ConAt R old root L 1 f1 s1 L[0] L[0]) := by
        have e0 : L[0].size = 32 := HP.out 0 hL0
        refine ⟨?_, e0, e0⟩
        rw [HE.out.1, HE.out.2]
        exact HRL.out hL0
      generalize L[0] = x0 at *
      have lN : (0 : Int) < (N : Int) := by omega
      clear HD1 HE e1 hL0
      go_wp2_with fail
      go_quiet (fail)
      go_wp2_with fail
      go_loopw [12, 13, 14, 15, 16] (fun vf vs va vb vi wr => ∃ (k f s : Nat) (x y : ByteArray), vi = .int .i64 (k : Int) ∧ vf = .int .i64 (f : Int) ∧ vs = .int .i64 (s : Int) ∧ va = .string x ∧ vb = .string y ∧ 1 ≤ k ∧ k ≤ N ∧ f ≤ 1099511627776 ∧ s ≤ 1099511627776 ∧ ConAt R old root L k f s x y ∧ Below w8.heap.size w8 wr) (fun _ _ _ _ vi _ => N - (intOf vi).toNat)
      case atStart => exact ⟨1, f1, s1, x0, x0, rfl, rfl, rfl, rfl, rfl, Nat.le_refl _, by omega, hf1, hs1, HST.out, belowN (Below.refl _ _) _⟩
      case round =>
        clear HST hc0 hf1 hs1 t1
        obtain ⟨k, f, s, x, y, rfl, rfl, rfl, rfl, rfl, hk1, hk, hf, hs, hI, hB⟩ := hrel
        have HI : Hid (ConAt R old root L k f s x y) := hI
        have HB : Hid (Below w8.heap.size w8 wr) := hB
        have hxs := hI.sa32
        have hys := hI.sb32
        clear hI
        by_cases hlt : k < N
        · have hkl : k < L.length := by have := HN'.out; omega
          obtain ⟨b1, o1, hb, hc⟩ := (HSA.out.below hB) k hkl
          injection hb with hb
          injection hb with hb1 hb2
          subst hb1 hb2
          rw [Nat.zero_add] at hc
          have hps := HP.out k hkl
          have HI2 : Hid (∀ (e1 : s ≠ 0) (e2 : Mer.rgt f s = true), ConAt R old root L (k + 1) ((dn f s).1 / 2) ((dn f s).2 / 2) (nodeD L[k] x) (nodeD L[k] y)) := fun e1 e2 => HI.out.right hkl rfl e1 e2
          have HI3 : Hid (∀ (e1 : s ≠ 0) (e2 : Mer.rgt f s = false), ConAt R old root L (k + 1) (f / 2) (s / 2) x (nodeD y L[k])) := fun e1 e2 => HI.out.left hkl rfl e1 e2
          have HI4 : Hid (s = 0 → R = false) := fun e => by have := HI.out; rw [e] at this; exact this.stop hkl
          generalize L[k] = p at *
          have lk : (k : Int) < N := by omega
          have l0 : (0 : Int) ≤ k := by omega
          clear hB hkl HI
          by_cases hs0 : s = 0
          · as_aux_lemma =>
            have HF2 : Hid (R = false) := HI4.out hs0
            subst hs0
            clear HI2 HI3 HI4
            go_wp2
            go_ret
            exact ⟨retY HF2.out.symm, HB8.out.trans (HB.out.mono HB8.out.size)⟩
          have d0 : ((s : Int) == 0) = false := beq_eq_false_iff_ne.2 (by omega)
          by_cases hodd : f % 2 = 1
          · as_aux_lemma =>
            have hrg : Mer.rgt f s = true := rgt_odd hodd
            have d5 : ((f : Int) % 2 == 1) = true := beq_iff_eq.2 (by omega)
            clear hodd
            have HI5 : Hid (ConAt R old root L (k + 1) ((dn f s).1 / 2) ((dn f s).2 / 2) (nodeD p x) (nodeD p y)) := HI2.out hs0 hrg
            clear HI2 HI3 HI4 hrg
            have HN1 : Hid (Calls Tryd.prog 61 #[.string p, .string x] wr fun e w' => e = .returned (.string (nodeD p x)) ∧ Below wr.heap.size wr w') := hN p x wr hps hxs
            have HN2 : Hid (∀ w0, Calls Tryd.prog 61 #[.string p, .string y] w0 fun e w' => e = .returned (.string (nodeD p y)) ∧ Below w0.heap.size w0 w') := fun w0 => hN p y w0 hps hys
            obtain ⟨F, S, hFS⟩ : ∃ F S, dn f s = (F, S) := ⟨_, _, rfl⟩
            have HD : Hid (dn f s = (F, S)) := hFS
            rw [hFS] at HI5
            obtain ⟨q, hq⟩ : ∃ q, nodeD p x = q := ⟨_, rfl⟩
            obtain ⟨q2, hq2⟩ : ∃ q2, nodeD p y = q2 := ⟨_, rfl⟩
            rw [hq, hq2] at HI5
            rw [hq] at HN1
            rw [hq2] at HN2
            clear hN hFS hq hq2
            go_wp2_with fail
            refine Calls.mono HN1.out ?_
            rintro e w2 ⟨rfl, hB2⟩
            have hc2 := (hB2.cell (p := ⟨g, k, none⟩) (cellLt hc)).trans hc
            have HB2 : Hid (Below w8.heap.size w8 w2) := HB.out.trans (hB2.mono HB.out.size)
            clear hB2 HB HN1 hc
            go_wp2_with fail
            refine (HN2.out _).mono ?_
            rintro e w3 ⟨rfl, hB3⟩
            have HB3 : Hid (Below w8.heap.size w8 w3) := HB2.out.trans (hB3.mono HB2.out.size)
            clear hB3 HB2 HN2 hc2
            go_wp2_with fail
            go_loopw [12, 13] (fun vf vs wx => ∃ (f' s' : Nat), vf = .int .i64 (f' : Int) ∧ vs = .int .i64 (s' : Int) ∧ f' ≤ 1099511627776 ∧ s' ≤ 1099511627776 ∧ Hid (dn f' s' = (F, S)) ∧ w3 = wx) (fun vf _ _ => (intOf vf).toNat)
            case atStart => exact ⟨f, s, rfl, rfl, hf, hs, HD, rfl⟩
            case round =>
              clear HD
              obtain ⟨f', s', rfl, rfl, hf', hs', HD', rfl⟩ := hrel
              by_cases e1 : f' % 2 = 0
              · have t1 : ((f' : Int) % 2 == 0) = true := beq_iff_eq.2 (by omega)
                by_cases e2 : f' = 0
                · have t2 : ((f' : Int) != 0) = false := by simp [e2]
                  have t3 : ((f' : Int) == 0) = true := by simp [e2]
                  have HE : Hid (f' = F ∧ s' = S) := by have := HD'.out; rw [dn_stop (Or.inr e2)] at this; injection this with a1 a2; exact ⟨a1, a2⟩
                  clear HD' e1 e2
                  go_wp2
                  go_roundw
                  case rel => exact ⟨k + 1, F / 2, S / 2, q, q2, by go_num, by rw [← HE.out.1]; go_num, by rw [← HE.out.2]; go_num, rfl, rfl, by omega, hlt, by have := HE.out.1; omega, by have := HE.out.2; omega, HI5.out, HB3.out⟩
                  case measure => simp [intOf]; omega
                · have t2 : ((f' : Int) != 0) = true := by simp; omega
                  have t3 : ((f' : Int) == 0) = false := by simp; omega
                  have HE : Hid (dn (f' / 2) (s' / 2) = (F, S)) := by have := HD'.out; rw [dn_go e1 e2] at this; exact this
                  clear HD' e1
                  go_wp2
                  go_roundw
                  case rel => exact ⟨f' / 2, s' / 2, by go_num, by go_num, by omega, by omega, HE, trivial⟩
                  case measure => simp [intOf]; omega
              · have t1 : ((f' : Int) % 2 == 0) = false := beq_eq_false_iff_ne.2 (by omega)
                have HE : Hid (f' = F ∧ s' = S) := by have := HD'.out; rw [dn_stop (Or.inl (by omega))] at this; injection this with a1 a2; exact ⟨a1, a2⟩
                clear HD' e1
                go_wp2
                go_roundw
                case rel => exact ⟨k + 1, F / 2, S / 2, q, q2, by go_num, by rw [← HE.out.1]; go_num, by rw [← HE.out.2]; go_num, rfl, rfl, by omega, hlt, by have := HE.out.1; omega, by have := HE.out.2; omega, HI5.out, HB3.out⟩
                case measure => simp [intOf]; omega
          have d5 : ((f : Int) % 2 == 1) = false := beq_eq_false_iff_ne.2 (by omega)
          by_cases hsame : f = s
          · as_aux_lemma =>
            have hrg : Mer.rgt f s = true := rgt_same hsame
            have d6 : ((f : Int) == (s : Int)) = true := beq_iff_eq.2 (by omega)
            clear hodd hsame
            have HI5 : Hid (ConAt R old root L (k + 1) ((dn f s).1 / 2) ((dn f s).2 / 2) (nodeD p x) (nodeD p y)) := HI2.out hs0 hrg
            clear HI2 HI3 HI4 hrg
            have HN1 : Hid (Calls Tryd.prog 61 #[.string p, .string x] wr fun e w' => e = .returned (.string (nodeD p x)) ∧ Below wr.heap.size wr w') := hN p x wr hps hxs
            have HN2 : Hid (∀ w0, Calls Tryd.prog 61 #[.string p, .string y] w0 fun e w' => e = .returned (.string (nodeD p y)) ∧ Below w0.heap.size w0 w') := fun w0 => hN p y w0 hps hys
            obtain ⟨F, S, hFS⟩ : ∃ F S, dn f s = (F, S) := ⟨_, _, rfl⟩
            have HD : Hid (dn f s = (F, S)) := hFS
            rw [hFS] at HI5
            obtain ⟨q, hq⟩ : ∃ q, nodeD p x = q := ⟨_, rfl⟩
            obtain ⟨q2, hq2⟩ : ∃ q2, nodeD p y = q2 := ⟨_, rfl⟩
            rw [hq, hq2] at HI5
            rw [hq] at HN1
            rw [hq2] at HN2
            clear hN hFS hq hq2
            go_wp2_with fail
            refine Calls.mono HN1.out ?_
            rintro e w2 ⟨rfl, hB2⟩
            have hc2 := (hB2.cell (p := ⟨g, k, none⟩) (cellLt hc)).trans hc
            have HB2 : Hid (Below w8.heap.size w8 w2) := HB.out.trans (hB2.mono HB.out.size)
            clear hB2 HB HN1 hc
            go_wp2_with fail
            refine (HN2.out _).mono ?_
            rintro e w3 ⟨rfl, hB3⟩
            have HB3 : Hid (Below w8.heap.size w8 w3) := HB2.out.trans (hB3.mono HB2.out.size)
            clear hB3 HB2 HN2 hc2
            go_wp2_with fail
            go_loopw [12, 13] (fun vf vs wx => ∃ (f' s' : Nat), vf = .int .i64 (f' : Int) ∧ vs = .int .i64 (s' : Int) ∧ f' ≤ 1099511627776 ∧ s' ≤ 1099511627776 ∧ Hid (dn f' s' = (F, S)) ∧ w3 = wx) (fun vf _ _ => (intOf vf).toNat)
            case atStart => exact ⟨f, s, rfl, rfl, hf, hs, HD, rfl⟩
            case round =>
              clear HD
              obtain ⟨f', s', rfl, rfl, hf', hs', HD', rfl⟩ := hrel
              by_cases e1 : f' % 2 = 0
              · have t1 : ((f' : Int) % 2 == 0) = true := beq_iff_eq.2 (by omega)
                by_cases e2 : f' = 0
                · have t2 : ((f' : Int) != 0) = false := by simp [e2]
                  have t3 : ((f' : Int) == 0) = true := by simp [e2]
                  have HE : Hid (f' = F ∧ s' = S) := by have := HD'.out; rw [dn_stop (Or.inr e2)] at this; injection this with a1 a2; exact ⟨a1, a2⟩
                  clear HD' e1 e2
                  go_wp2
                  go_roundw
                  case rel => exact ⟨k + 1, F / 2, S / 2, q, q2, by go_num, by rw [← HE.out.1]; go_num, by rw [← HE.out.2]; go_num, rfl, rfl, by omega, hlt, by have := HE.out.1; omega, by have := HE.out.2; omega, HI5.out, HB3.out⟩
                  case measure => simp [intOf]; omega
                · have t2 : ((f' : Int) != 0) = true := by simp; omega
                  have t3 : ((f' : Int) == 0) = false := by simp; omega
                  have HE : Hid (dn (f' / 2) (s' / 2) = (F, S)) := by have := HD'.out; rw [dn_go e1 e2] at this; exact this
                  clear HD' e1
                  go_wp2
                  go_roundw
                  case rel => exact ⟨f' / 2, s' / 2, by go_num, by go_num, by omega, by omega, HE, trivial⟩
                  case measure => simp [intOf]; omega
              · have t1 : ((f' : Int) % 2 == 0) = false := beq_eq_false_iff_ne.2 (by omega)
                have HE : Hid (f' = F ∧ s' = S) := by have := HD'.out; rw [dn_stop (Or.inl (by omega))] at this; injection this with a1 a2; exact ⟨a1, a2⟩
                clear HD' e1
                go_wp2
                go_roundw
                case rel => exact ⟨k + 1, F / 2, S / 2, q, q2, by go_num, by rw [← HE.out.1]; go_num, by rw [← HE.out.2]; go_num, rfl, rfl, by omega, hlt, by have := HE.out.1; omega, by have := HE.out.2; omega, HI5.out, HB3.out⟩
                case measure => simp [intOf]; omega
          · as_aux_lemma =>
            have HI5 : Hid (ConAt R old root L (k + 1) (f / 2) (s / 2) x (nodeD y p)) := HI3.out hs0 (rgt_not hodd hsame)
            have d6 : ((f : Int) == (s : Int)) = false := beq_eq_false_iff_ne.2 (by omega)
            have HN1 : Hid (Calls Tryd.prog 61 #[.string y, .string p] wr fun e w' => e = .returned (.string (nodeD y p)) ∧ Below wr.heap.size wr w') := hN y p wr hys hps
            generalize nodeD y p = q at *
            clear HI2 HI3 HI4 hodd hsame hN
            go_wp2_with (go_at_call 61; refine Calls.mono HN1.out ?_; rintro e w2 ⟨rfl, hB2⟩)
            have HB2 : Hid (Below w8.heap.size w8 w2) := HB.out.trans (hB2.mono HB.out.size)
            clear hB2 HB HN1 hc
            go_roundw
            case rel => exact ⟨k + 1, f / 2, s / 2, x, q, by go_num, by go_num, by go_num, rfl, rfl, by omega, hlt, by omega, by omega, HI5.out, HB2.out⟩
            case measure => simp [intOf]; omega
        · as_aux_lemma =>
          obtain rfl : k = N := by omega
          have HF : Hid (R = (decide (x = old) && (decide (y = root) && s == 0))) := by
            show _ = _
            have := HI.out
            rw [← HN'.out] at this
            exact this.done
          clear HI hB
          by_cases hxo : x = old
          case neg =>
            have HF2 : Hid (R = false) := by show _ = _; rw [HF.out, decide_eq_false hxo]; rfl
            have t1 := txt_ne hxo
            clear HF hxo
            go_wp2
            go_ret
            exact ⟨retY HF2.out.symm, HB8.out.trans (HB.out.mono HB8.out.size)⟩
          have t1 : (x.toList == old.toList) = true := by rw [hxo]; exact txt_eq _
          by_cases hyr : y = root
          case neg =>
            have HF2 : Hid (R = false) := by show _ = _; rw [HF.out, decide_eq_true hxo, decide_eq_false hyr]; rfl
            have t2 := txt_ne hyr
            clear HF hxo hyr
            go_wp2
            go_ret
            exact ⟨retY HF2.out.symm, HB8.out.trans (HB.out.mono HB8.out.size)⟩
          have t2 : (y.toList == root.toList) = true := by rw [hyr]; exact txt_eq _
          by_cases hs0 : s = 0
          · have HF2 : Hid (R = true) := by show _ = _; rw [HF.out, decide_eq_true hxo, decide_eq_true hyr, hs0]; rfl
            subst hs0
            clear HF hxo hyr
            go_wp2
            go_ret
            exact ⟨retY HF2.out.symm, HB8.out.trans (HB.out.mono HB8.out.size)⟩
          · have HF2 : Hid (R = false) := by show _ = _; rw [HF.out, decide_eq_true hxo, decide_eq_true hyr, beq_eq_false_iff_ne.2 hs0]; rfl
            have d0 : ((s : Int) == 0) = false := beq_eq_false_iff_ne.2 (by omega)
            clear HF hxo hyr
            go_wp2
            go_ret
            exact ⟨retY HF2.out.symm, HB8.out.trans (HB.out.mono HB8.out.size)⟩
  · have e9 : (bits .and .i64 (f0 : Int) ((f0 : Int) - 1) == 0) = false := by rw [pwB_eq]; exact by simpa using hpw
    have e9' : (bits .and .i64 (f0 : Int) ((f0 - 1 : Nat) : Int) == 0) = false := by rw [← ef]; exact e9
    have hLs : conLs f0 ps old = ps := by unfold conLs; rw [if_neg hpw]
    by_cases hm0 : m = 0
    · as_aux_lemma =>
      have HF2 : Hid (R = false) := HRN.out (by rw [hLs]; exact List.length_eq_zero_iff.1 (HM.out.trans hm0))
      subst hm0
      clear HRL0 HRN hpw HFS
      go_enter Tryd.func23, Tryd.ntmps23
      go_wp2_with (first
        | (go_at_call 59; with_reducible refine (hH1 _).mono ?_; rintro e w' ⟨rfl, rfl⟩)
        | (go_at_call 59; with_reducible refine (hH2 _).mono ?_; rintro e w' ⟨rfl, rfl⟩)
        | (go_at_call 60; refine Calls.mono HH3.out ?_; rintro e w' ⟨rfl, rfl⟩)
        | (at_builtin; refine wpList_append_strs rfl _ _ rfl w.heap.size (.slice (some ⟨w.heap.size, 0, none⟩) 0 0) 0 0 [] ps rfl HX1.out.2.1 b o c rfl HM.out HX1.out.1 (by omega) hz1 ?_; intro v7 w7 hO7 hB7 hv7; obtain ⟨g7, c7, rfl, hl7, hg7, hc7, hm7, hsa7⟩ := own_some hO7 (hv7 (by simp))))
      go_ret
      exact ⟨retY HF2.out.symm, HX1.out.2.2.trans hB7⟩
    as_aux_lemma =>
    obtain ⟨L, hLL⟩ : ∃ L, conLs f0 ps old = L := ⟨_, rfl⟩
    have hLe : L = ps := hLL.symm.trans hLs
    have HRL : Hid (∀ h : 0 < L.length, R = chkC old root (L.drop 1) F0 S0 L[0] L[0]) := fun h => HRL0.out L hLL h
    have HP : Hid (∀ k (hk : k < L.length), L[k].size = 32) := fun k hk => by
      have := List.getElem_mem hk
      generalize L[k] = z at *
      rw [hLe] at this
      exact HP0.out _ this
    clear HRL0 HRN hpw hLs hLL
    go_enter Tryd.func23, Tryd.ntmps23
    go_wp2_with (first
      | (go_at_call 59; with_reducible refine (hH1 _).mono ?_; rintro e w' ⟨rfl, rfl⟩)
      | (go_at_call 59; with_reducible refine (hH2 _).mono ?_; rintro e w' ⟨rfl, rfl⟩)
      | (go_at_call 60; refine Calls.mono HH3.out ?_; rintro e w' ⟨rfl, rfl⟩)
      | (at_builtin; refine wpList_append_strs rfl _ _ rfl w.heap.size (.slice (some ⟨w.heap.size, 0, none⟩) 0 0) 0 m [] ps rfl HX1.out.2.1 b o c rfl HM.out HX1.out.1 (by omega) hz1 ?_; intro v7 w7 hO7 hB7 hv7; rw [Nat.zero_add, List.nil_append] at hO7; obtain ⟨g7, c7, rfl, hl7, hg7, hc7, hm7, hsa7⟩ := own_some hO7 (hv7 (by simp)); have z7 := hB7.size; have zz7 : w.heap.size ≤ w7.heap.size := Nat.le_trans hz1 z7))
    have HB8 : Hid (Below w.heap.size w w7) := HX1.out.2.2.trans hB7
    have HSA : Hid (SA w7 (some ⟨g7, 0, none⟩) L) := by rw [hLe]; exact hsa7
    have HN' : Hid (L.length = m) := by show _ = _; rw [hLe]; exact HM.out
    have hN1 : 1 ≤ m := by omega
    clear hO7 hB7 hv7 hl7 hg7 hc7 hm7 hsa7 z7 zz7 HX1 hz1 HA HP0 HM hH1 hH2 HH3 u1 u2 u3 u4 u5 u6 u7 u8 e9 e9' hLe es ef
    go_loopw [12, 13] (fun vf vs wx => ∃ (f' s' : Nat), vf = .int .i64 (f' : Int) ∧ vs = .int .i64 (s' : Int) ∧ f' ≤ 1099511627776 ∧ s' ≤ 1099511627776 ∧ Hid (Mer.strip f' s' = (F0, S0)) ∧ w7 = wx) (fun vf _ _ => (intOf vf).toNat)
    case atStart => exact ⟨f0 - 1, n0 - 1, rfl, rfl, by omega, by omega, HFS, rfl⟩
    case round =>
      clear HFS
      obtain ⟨f1, s1, rfl, rfl, hf1, hs1, HD1, rfl⟩ := hrel
      by_cases e1 : f1 % 2 = 1
      · have t1 : ((f1 : Int) % 2 == 1) = true := beq_iff_eq.2 (by omega)
        have HE : Hid (Mer.strip (f1 / 2) (s1 / 2) = (F0, S0)) := by have := HD1.out; rw [strip_go e1] at this; exact this
        clear HD1
        go_wp2
        go_roundw
        case rel => exact ⟨f1 / 2, s1 / 2, by go_num, by go_num, by omega, by omega, HE, trivial⟩
        case measure => simp [intOf]; omega
      have t1 : ((f1 : Int) % 2 == 1) = false := beq_eq_false_iff_ne.2 (by omega)
      have HE : Hid (f1 = F0 ∧ s1 = S0) := by have := HD1.out; rw [strip_stop e1] at this; injection this with a1 a2; exact ⟨a1, a2⟩
      have hL0 : 0 < L.length := by have := HN'.out; omega
      obtain ⟨b0, o0, hb0, hc0⟩ := HSA.out 0 hL0
      injection hb0 with hb0
      injection hb0 with hb1 hb2
      subst hb1 hb2
      have HST : Hid (ConAt R old root L 1 f1 s1 L[0] L[0]) := by
        have e0 : L[0].size = 32 := HP.out 0 hL0
        refine ⟨?_, e0, e0⟩
        rw [HE.out.1, HE.out.2]
        exact HRL.out hL0
      generalize L[0] = x0 at *
      have lN : (0 : Int) < (m : Int) := by omega
      clear HD1 HE e1 hL0
      go_wp2_with fail
      go_quiet (fail)
      go_wp2_with fail
      go_loopw [12, 13, 14, 15, 16] (fun vf vs va vb vi wr => ∃ (k f s : Nat) (x y : ByteArray), vi = .int .i64 (k : Int) ∧ vf = .int .i64 (f : Int) ∧ vs = .int .i64 (s : Int) ∧ va = .string x ∧ vb = .string y ∧ 1 ≤ k ∧ k ≤ m ∧ f ≤ 1099511627776 ∧ s ≤ 1099511627776 ∧ ConAt R old root L k f s x y ∧ Below w7.heap.size w7 wr) (fun _ _ _ _ vi _ => m - (intOf vi).toNat)
      case atStart => exact ⟨1, f1, s1, x0, x0, rfl, rfl, rfl, rfl, rfl, Nat.le_refl _, by omega, hf1, hs1, HST.out, belowN (Below.refl _ _) _⟩
      case round =>
        clear HST hc0 hf1 hs1 t1
        obtain ⟨k, f, s, x, y, rfl, rfl, rfl, rfl, rfl, hk1, hk, hf, hs, hI, hB⟩ := hrel
        have HI : Hid (ConAt R old root L k f s x y) := hI
        have HB : Hid (Below w7.heap.size w7 wr) := hB
        have hxs := hI.sa32
        have hys := hI.sb32
        clear hI
        by_cases hlt : k < m
        · have hkl : k < L.length := by have := HN'.out; omega
          obtain ⟨b1, o1, hb, hc⟩ := (HSA.out.below hB) k hkl
          injection hb with hb
          injection hb with hb1 hb2
          subst hb1 hb2
          rw [Nat.zero_add] at hc
          have hps := HP.out k hkl
          have HI2 : Hid (∀ (e1 : s ≠ 0) (e2 : Mer.rgt f s = true), ConAt R old root L (k + 1) ((dn f s).1 / 2) ((dn f s).2 / 2) (nodeD L[k] x) (nodeD L[k] y)) := fun e1 e2 => HI.out.right hkl rfl e1 e2
          have HI3 : Hid (∀ (e1 : s ≠ 0) (e2 : Mer.rgt f s = false), ConAt R old root L (k + 1) (f / 2) (s / 2) x (nodeD y L[k])) := fun e1 e2 => HI.out.left hkl rfl e1 e2
          have HI4 : Hid (s = 0 → R = false) := fun e => by have := HI.out; rw [e] at this; exact this.stop hkl
          generalize L[k] = p at *
          have lk : (k : Int) < m := by omega
          have l0 : (0 : Int) ≤ k := by omega
          clear hB hkl HI
          by_cases hs0 : s = 0
          · as_aux_lemma =>
            have HF2 : Hid (R = false) := HI4.out hs0
            subst hs0
            clear HI2 HI3 HI4
            go_wp2
            go_ret
            exact ⟨retY HF2.out.symm, HB8.out.trans (HB.out.mono HB8.out.size)⟩
          have d0 : ((s : Int) == 0) = false := beq_eq_false_iff_ne.2 (by omega)
          by_cases hodd : f % 2 = 1
          · as_aux_lemma =>
            have hrg : Mer.rgt f s = true := rgt_odd hodd
            have d5 : ((f : Int) % 2 == 1) = true := beq_iff_eq.2 (by omega)
            clear hodd
            have HI5 : Hid (ConAt R old root L (k + 1) ((dn f s).1 / 2) ((dn f s).2 / 2) (nodeD p x) (nodeD p y)) := HI2.out hs0 hrg
            clear HI2 HI3 HI4 hrg
            have HN1 : Hid (Calls Tryd.prog 61 #[.string p, .string x] wr fun e w' => e = .returned (.string (nodeD p x)) ∧ Below wr.heap.size wr w') := hN p x wr hps hxs
            have HN2 : Hid (∀ w0, Calls Tryd.prog 61 #[.string p, .string y] w0 fun e w' => e = .returned (.string (nodeD p y)) ∧ Below w0.heap.size w0 w') := fun w0 => hN p y w0 hps hys
            obtain ⟨F, S, hFS⟩ : ∃ F S, dn f s = (F, S) := ⟨_, _, rfl⟩
            have HD : Hid (dn f s = (F, S)) := hFS
            rw [hFS] at HI5
            obtain ⟨q, hq⟩ : ∃ q, nodeD p x = q := ⟨_, rfl⟩
            obtain ⟨q2, hq2⟩ : ∃ q2, nodeD p y = q2 := ⟨_, rfl⟩
            rw [hq, hq2] at HI5
            rw [hq] at HN1
            rw [hq2] at HN2
            clear hN hFS hq hq2
            go_wp2_with fail
            refine Calls.mono HN1.out ?_
            rintro e w2 ⟨rfl, hB2⟩
            have hc2 := (hB2.cell (p := ⟨g7, k, none⟩) (cellLt hc)).trans hc
            have HB2 : Hid (Below w7.heap.size w7 w2) := HB.out.trans (hB2.mono HB.out.size)
            clear hB2 HB HN1 hc
            go_wp2_with fail
            refine (HN2.out _).mono ?_
            rintro e w3 ⟨rfl, hB3⟩
            have HB3 : Hid (Below w7.heap.size w7 w3) := HB2.out.trans (hB3.mono HB2.out.size)
            clear hB3 HB2 HN2 hc2
            go_wp2_with fail
            go_loopw [12, 13] (fun vf vs wx => ∃ (f' s' : Nat), vf = .int .i64 (f' : Int) ∧ vs = .int .i64 (s' : Int) ∧ f' ≤ 1099511627776 ∧ s' ≤ 1099511627776 ∧ Hid (dn f' s' = (F, S)) ∧ w3 = wx) (fun vf _ _ => (intOf vf).toNat)
            case atStart => exact ⟨f, s, rfl, rfl, hf, hs, HD, rfl⟩
            case round =>
              clear HD
              obtain ⟨f', s', rfl, rfl, hf', hs', HD', rfl⟩ := hrel
              by_cases e1 : f' % 2 = 0
              · have t1 : ((f' : Int) % 2 == 0) = true := beq_iff_eq.2 (by omega)
                by_cases e2 : f' = 0
                · have t2 : ((f' : Int) != 0) = false := by simp [e2]
                  have t3 : ((f' : Int) == 0) = true := by simp [e2]
                  have HE : Hid (f' = F ∧ s' = S) := by have := HD'.out; rw [dn_stop (Or.inr e2)] at this; injection this with a1 a2; exact ⟨a1, a2⟩
                  clear HD' e1 e2
                  go_wp2
                  go_roundw
                  case rel => exact ⟨k + 1, F / 2, S / 2, q, q2, by go_num, by rw [← HE.out.1]; go_num, by rw [← HE.out.2]; go_num, rfl, rfl, by omega, hlt, by have := HE.out.1; omega, by have := HE.out.2; omega, HI5.out, HB3.out⟩
                  case measure => simp [intOf]; omega
                · have t2 : ((f' : Int) != 0) = true := by simp; omega
                  have t3 : ((f' : Int) == 0) = false := by simp; omega
                  have HE : Hid (dn (f' / 2) (s' / 2) = (F, S)) := by have := HD'.out; rw [dn_go e1 e2] at this; exact this
                  clear HD' e1
                  go_wp2
                  go_roundw
                  case rel => exact ⟨f' / 2, s' / 2, by go_num, by go_num, by omega, by omega, HE, trivial⟩
                  case measure => simp [intOf]; omega
              · have t1 : ((f' : Int) % 2 == 0) = false := beq_eq_false_iff_ne.2 (by omega)
                have HE : Hid (f' = F ∧ s' = S) := by have := HD'.out; rw [dn_stop (Or.inl (by omega))] at this; injection this with a1 a2; exact ⟨a1, a2⟩
                clear HD' e1
                go_wp2
                go_roundw
                case rel => exact ⟨k + 1, F / 2, S / 2, q, q2, by go_num, by rw [← HE.out.1]; go_num, by rw [← HE.out.2]; go_num, rfl, rfl, by omega, hlt, by have := HE.out.1; omega, by have := HE.out.2; omega, HI5.out, HB3.out⟩
                case measure => simp [intOf]; omega
          have d5 : ((f : Int) % 2 == 1) = false := beq_eq_false_iff_ne.2 (by omega)
          by_cases hsame : f = s
          · as_aux_lemma =>
            have hrg : Mer.rgt f s = true := rgt_same hsame
            have d6 : ((f : Int) == (s : Int)) = true := beq_iff_eq.2 (by omega)
            clear hodd hsame
            have HI5 : Hid (ConAt R old root L (k + 1) ((dn f s).1 / 2) ((dn f s).2 / 2) (nodeD p x) (nodeD p y)) := HI2.out hs0 hrg
            clear HI2 HI3 HI4 hrg
            have HN1 : Hid (Calls Tryd.prog 61 #[.string p, .string x] wr fun e w' => e = .returned (.string (nodeD p x)) ∧ Below wr.heap.size wr w') := hN p x wr hps hxs
            have HN2 : Hid (∀ w0, Calls Tryd.prog 61 #[.string p, .string y] w0 fun e w' => e = .returned (.string (nodeD p y)) ∧ Below w0.heap.size w0 w') := fun w0 => hN p y w0 hps hys
            obtain ⟨F, S, hFS⟩ : ∃ F S, dn f s = (F, S) := ⟨_, _, rfl⟩
            have HD : Hid (dn f s = (F, S)) := hFS
            rw [hFS] at HI5
            obtain ⟨q, hq⟩ : ∃ q, nodeD p x = q := ⟨_, rfl⟩
            obtain ⟨q2, hq2⟩ : ∃ q2, nodeD p y = q2 := ⟨_, rfl⟩
            rw [hq, hq2] at HI5
            rw [hq] at HN1
            rw [hq2] at HN2
            clear hN hFS hq hq2
            go_wp2_with fail
            refine Calls.mono HN1.out ?_
            rintro e w2 ⟨rfl, hB2⟩
            have hc2 := (hB2.cell (p := ⟨g7, k, none⟩) (cellLt hc)).trans hc
            have HB2 : Hid (Below w7.heap.size w7 w2) := HB.out.trans (hB2.mono HB.out.size)
            clear hB2 HB HN1 hc
            go_wp2_with fail
            refine (HN2.out _).mono ?_
            rintro e w3 ⟨rfl, hB3⟩
            have HB3 : Hid (Below w7.heap.size w7 w3) := HB2.out.trans (hB3.mono HB2.out.size)
            clear hB3 HB2 HN2 hc2
            go_wp2_with fail
            go_loopw [12, 13] (fun vf vs wx => ∃ (f' s' : Nat), vf = .int .i64 (f' : Int) ∧ vs = .int .i64 (s' : Int) ∧ f' ≤ 1099511627776 ∧ s' ≤ 1099511627776 ∧ Hid (dn f' s' = (F, S)) ∧ w3 = wx) (fun vf _ _ => (intOf vf).toNat)
            case atStart => exact ⟨f, s, rfl, rfl, hf, hs, HD, rfl⟩
            case round =>
              clear HD
              obtain ⟨f', s', rfl, rfl, hf', hs', HD', rfl⟩ := hrel
              by_cases e1 : f' % 2 = 0
              · have t1 : ((f' : Int) % 2 == 0) = true := beq_iff_eq.2 (by omega)
                by_cases e2 : f' = 0
                · have t2 : ((f' : Int) != 0) = false := by simp [e2]
                  have t3 : ((f' : Int) == 0) = true := by simp [e2]
                  have HE : Hid (f' = F ∧ s' = S) := by have := HD'.out; rw [dn_stop (Or.inr e2)] at this; injection this with a1 a2; exact ⟨a1, a2⟩
                  clear HD' e1 e2
                  go_wp2
                  go_roundw
                  case rel => exact ⟨k + 1, F / 2, S / 2, q, q2, by go_num, by rw [← HE.out.1]; go_num, by rw [← HE.out.2]; go_num, rfl, rfl, by omega, hlt, by have := HE.out.1; omega, by have := HE.out.2; omega, HI5.out, HB3.out⟩
                  case measure => simp [intOf]; omega
                · have t2 : ((f' : Int) != 0) = true := by simp; omega
                  have t3 : ((f' : Int) == 0) = false := by simp; omega
                  have HE : Hid (dn (f' / 2) (s' / 2) = (F, S)) := by have := HD'.out; rw [dn_go e1 e2] at this; exact this
                  clear HD' e1
                  go_wp2
                  go_roundw
                  case rel => exact ⟨f' / 2, s' / 2, by go_num, by go_num, by omega, by omega, HE, trivial⟩
                  case measure => simp [intOf]; omega
              · have t1 : ((f' : Int) % 2 == 0) = false := beq_eq_false_iff_ne.2 (by omega)
                have HE : Hid (f' = F ∧ s' = S) := by have := HD'.out; rw [dn_stop (Or.inl (by omega))] at this; injection this with a1 a2; exact ⟨a1, a2⟩
                clear HD' e1
                go_wp2
                go_roundw
                case rel => exact ⟨k + 1, F / 2, S / 2, q, q2, by go_num, by rw [← HE.out.1]; go_num, by rw [← HE.out.2]; go_num, rfl, rfl, by omega, hlt, by have := HE.out.1; omega, by have := HE.out.2; omega, HI5.out, HB3.out⟩
                case measure => simp [intOf]; omega
          · as_aux_lemma =>
            have HI5 : Hid (ConAt R old root L (k + 1) (f / 2) (s / 2) x (nodeD y p)) := HI3.out hs0 (rgt_not hodd hsame)
            have d6 : ((f : Int) == (s : Int)) = false := beq_eq_false_iff_ne.2 (by omega)
            have HN1 : Hid (Calls Tryd.prog 61 #[.string y, .string p] wr fun e w' => e = .returned (.string (nodeD y p)) ∧ Below wr.heap.size wr w') := hN y p wr hys hps
            generalize nodeD y p = q at *
            clear HI2 HI3 HI4 hodd hsame hN
            go_wp2_with (go_at_call 61; refine Calls.mono HN1.out ?_; rintro e w2 ⟨rfl, hB2⟩)
            have HB2 : Hid (Below w7.heap.size w7 w2) := HB.out.trans (hB2.mono HB.out.size)
            clear hB2 HB HN1 hc
            go_roundw
            case rel => exact ⟨k + 1, f / 2, s / 2, x, q, by go_num, by go_num, by go_num, rfl, rfl, by omega, hlt, by omega, by omega, HI5.out, HB2.out⟩
            case measure => simp [intOf]; omega
        · as_aux_lemma =>
          obtain rfl : k = m := by omega
          have HF : Hid (R = (decide (x = old) && (decide (y = root) && s == 0))) := by
            show _ = _
            have := HI.out
            rw [← HN'.out] at this
            exact this.done
          clear HI hB
          by_cases hxo : x = old
          case neg =>
            have HF2 : Hid (R = false) := by show _ = _; rw [HF.out, decide_eq_false hxo]; rfl
            have t1 := txt_ne hxo
            clear HF hxo
            go_wp2
            go_ret
            exact ⟨retY HF2.out.symm, HB8.out.trans (HB.out.mono HB8.out.size)⟩
          have t1 : (x.toList == old.toList) = true := by rw [hxo]; exact txt_eq _
          by_cases hyr : y = root
          case neg =>
            have HF2 : Hid (R = false) := by show _ = _; rw [HF.out, decide_eq_true hxo, decide_eq_false hyr]; rfl
            have t2 := txt_ne hyr
            clear HF hxo hyr
            go_wp2
            go_ret
            exact ⟨retY HF2.out.symm, HB8.out.trans (HB.out.mono HB8.out.size)⟩
          have t2 : (y.toList == root.toList) = true := by rw [hyr]; exact txt_eq _
          by_cases hs0 : s = 0
          · have HF2 : Hid (R = true) := by show _ = _; rw [HF.out, decide_eq_true hxo, decide_eq_true hyr, hs0]; rfl
            subst hs0
            clear HF hxo hyr
            go_wp2
            go_ret
            exact ⟨retY HF2.out.symm, HB8.out.trans (HB.out.mono HB8.out.size)⟩
          · have HF2 : Hid (R = false) := by show _ = _; rw [HF.out, decide_eq_true hxo, decide_eq_true hyr, beq_eq_false_iff_ne.2 hs0]; rfl
            have d0 : ((s : Int) == 0) = false := beq_eq_false_iff_ne.2 (by omega)
            clear HF hxo hyr
            go_wp2
            go_ret
            exact ⟨retY HF2.out.symm, HB8.out.trans (HB.out.mono HB8.out.size)⟩
set_option maxRecDepth 100000 in
set_option maxHeartbeats 2000000 in
theorem specCon (old root : ByteArray) (i n : Int) (b o c m : Nat) (ps : List ByteArray) (w : World) (hm : ps.length = m) (hA : SA w (some ⟨b, o, none⟩) ps) (hl : old.size ≤ maxLen) (hr : root.size ≤ maxLen) (hM : m ≤ 1000000000) (hx : ∀ x ∈ ps, x.size ≤ maxLen) :
    Calls Tryd.prog 23 #[.int .i64 i, .int .i64 n, .slice (some ⟨b, o, none⟩) m c, .string old, .string root] w fun e w' => e = .returned (.bool (conB i n ps old root)) ∧ Below w.heap.size w w' := by
  have hH1 : ∀ w0, old.size = 32 → Calls Tryd.prog 59 #[.string old] w0 fun e w' => e = .returned (.bool true) ∧ w0 = w' := fun w0 h => specH32 old w0 h
  have hH1' : ∀ w0, ¬ old.size = 32 → Calls Tryd.prog 59 #[.string old] w0 fun e w' => e = .returned (.bool false) ∧ w0 = w' := fun w0 h => specH32' old w0 h hl
  have hH2 : ∀ w0, root.size = 32 → Calls Tryd.prog 59 #[.string root] w0 fun e w' => e = .returned (.bool true) ∧ w0 = w' := fun w0 h => specH32 root w0 h
  have hH2' : ∀ w0, ¬ root.size = 32 → Calls Tryd.prog 59 #[.string root] w0 fun e w' => e = .returned (.bool false) ∧ w0 = w' := fun w0 h => specH32' root w0 h hr
  have HH3 : Hid (Calls Tryd.prog 60 #[.slice (some ⟨b, o, none⟩) m c] w fun e w' => e = .returned (.bool (okHs ps)) ∧ w = w') := (specHashes (some ⟨b, o, none⟩) c m ps w hm hA hM hx).mono fun e w' h => ⟨h.1, h.2.symm⟩
  have hmm : ps.length = m := hm
  by_cases hok : ConOk i n ps old root
  · by_cases hne : i = n
    · have HR : Hid (conB i n ps old root = (decide (ps = []) && decide (old = root))) := by show _ = _; rw [conB_yes hok]; unfold conR; rw [if_pos hne]
      obtain ⟨q1, q2, h3, q3, h5, h6, h7, h8⟩ := hok
      subst hne
      rw [q3] at HH3
      have e0 : decide (i < 1) = false := decide_eq_false (by omega)
      have e1 : decide (1099511627776 < i) = false := decide_eq_false (by omega)
      have e3 : decide (i < i) = false := decide_eq_false (by omega)
      have e4 : (i == i) = true := by simp
      have e5 : decide ((400 : Int) < (m : Int)) = false := decide_eq_false (by omega)
      by_cases hm0 : m = 0
      · have hp0 : ps = [] := List.length_eq_zero_iff.1 (hmm.trans hm0)
        subst hm0
        by_cases hor : old = root
        · have HF2 : Hid (conB i i ps old root = true) := by show _ = _; rw [HR.out, decide_eq_true hp0, decide_eq_true hor]; rfl
          have t1 : (old.toList == root.toList) = true := by rw [hor]; exact txt_eq _
          clear HR hA hx hor hp0 hm hmm
          go_enter Tryd.func23, Tryd.ntmps23
          go_wp2_with (first
            | (go_at_call 59; with_reducible refine (hH1 _ q1).mono ?_; rintro e w' ⟨rfl, rfl⟩)
            | (go_at_call 59; with_reducible refine (hH2 _ q2).mono ?_; rintro e w' ⟨rfl, rfl⟩)
            | (go_at_call 60; refine Calls.mono HH3.out ?_; rintro e w' ⟨rfl, rfl⟩))
          go_ret
          exact ⟨retY HF2.out.symm, Below.refl _ _⟩
        · have HF2 : Hid (conB i i ps old root = false) := by show _ = _; rw [HR.out, decide_eq_false hor, Bool.and_false]
          have t1 := txt_ne hor
          clear HR hA hx hor hp0 hm hmm
          go_enter Tryd.func23, Tryd.ntmps23
          go_wp2_with (first
            | (go_at_call 59; with_reducible refine (hH1 _ q1).mono ?_; rintro e w' ⟨rfl, rfl⟩)
            | (go_at_call 59; with_reducible refine (hH2 _ q2).mono ?_; rintro e w' ⟨rfl, rfl⟩)
            | (go_at_call 60; refine Calls.mono HH3.out ?_; rintro e w' ⟨rfl, rfl⟩))
          go_ret
          exact ⟨retY HF2.out.symm, Below.refl _ _⟩
      · have HF2 : Hid (conB i i ps old root = false) := by show _ = _; rw [HR.out, decide_eq_false (fun e => hm0 (by rw [← hmm, e]; rfl))]; rfl
        have t0 : ((m : Int) == 0) = false := beq_eq_false_iff_ne.2 (by omega)
        clear HR hA hx hm hmm
        go_enter Tryd.func23, Tryd.ntmps23
        go_wp2_with (first
          | (go_at_call 59; with_reducible refine (hH1 _ q1).mono ?_; rintro e w' ⟨rfl, rfl⟩)
          | (go_at_call 59; with_reducible refine (hH2 _ q2).mono ?_; rintro e w' ⟨rfl, rfl⟩)
          | (go_at_call 60; refine Calls.mono HH3.out ?_; rintro e w' ⟨rfl, rfl⟩))
        go_ret
        exact ⟨retY HF2.out.symm, Below.refl _ _⟩
    · have := specCon0 old root i n b o c m ps w hm hA hok hne
      rw [← conB_yes hok] at this
      exact this
  have HF2 : Hid (conB i n ps old root = false) := conB_no hok
  unfold maxLen at hl hr
  clear hA hx
  by_cases b1 : 20000 < old.size
  · have db1 : decide ((20000 : Int) < (old.size : Int)) = true := decide_eq_true (by omega)
    clear HH3 hok
    go_enter Tryd.func23, Tryd.ntmps23
    go_wp2
    go_ret
    exact ⟨retY HF2.out.symm, Below.refl _ _⟩
  have db1 : decide ((20000 : Int) < (old.size : Int)) = false := decide_eq_false (by omega)
  by_cases b2 : 20000 < root.size
  · have db2 : decide ((20000 : Int) < (root.size : Int)) = true := decide_eq_true (by omega)
    clear HH3 hok
    go_enter Tryd.func23, Tryd.ntmps23
    go_wp2
    go_ret
    exact ⟨retY HF2.out.symm, Below.refl _ _⟩
  have db2 : decide ((20000 : Int) < (root.size : Int)) = false := decide_eq_false (by omega)
  by_cases b3 : 400 < m
  · have db3 : decide ((400 : Int) < (m : Int)) = true := decide_eq_true (by omega)
    clear HH3 hok
    go_enter Tryd.func23, Tryd.ntmps23
    go_wp2
    go_ret
    exact ⟨retY HF2.out.symm, Below.refl _ _⟩
  have db3 : decide ((400 : Int) < (m : Int)) = false := decide_eq_false (by omega)
  by_cases q1 : old.size = 32
  case neg =>
    clear HH3 hok
    go_enter Tryd.func23, Tryd.ntmps23
    go_wp2_with (first
      | (go_at_call 59; with_reducible refine (hH1' _ q1).mono ?_; rintro e w' ⟨rfl, rfl⟩))
    go_ret
    exact ⟨retY HF2.out.symm, Below.refl _ _⟩
  by_cases q2 : root.size = 32
  case neg =>
    clear HH3 hok
    go_enter Tryd.func23, Tryd.ntmps23
    go_wp2_with (first
      | (go_at_call 59; with_reducible refine (hH1 _ q1).mono ?_; rintro e w' ⟨rfl, rfl⟩)
      | (go_at_call 59; with_reducible refine (hH2' _ q2).mono ?_; rintro e w' ⟨rfl, rfl⟩))
    go_ret
    exact ⟨retY HF2.out.symm, Below.refl _ _⟩
  by_cases q3 : okHs ps = true
  case neg =>
    have q3' : okHs ps = false := by simpa using q3
    rw [q3'] at HH3
    clear hok q3 q3'
    go_enter Tryd.func23, Tryd.ntmps23
    go_wp2_with (first
      | (go_at_call 59; with_reducible refine (hH1 _ q1).mono ?_; rintro e w' ⟨rfl, rfl⟩)
      | (go_at_call 59; with_reducible refine (hH2 _ q2).mono ?_; rintro e w' ⟨rfl, rfl⟩)
      | (go_at_call 60; refine Calls.mono HH3.out ?_; rintro e w' ⟨rfl, rfl⟩))
    go_ret
    exact ⟨retY HF2.out.symm, Below.refl _ _⟩
  rw [q3] at HH3
  by_cases c0 : n < 1
  · have e0 : decide (n < 1) = true := decide_eq_true c0
    clear hok
    go_enter Tryd.func23, Tryd.ntmps23
    go_wp2_with (first
      | (go_at_call 59; with_reducible refine (hH1 _ q1).mono ?_; rintro e w' ⟨rfl, rfl⟩)
      | (go_at_call 59; with_reducible refine (hH2 _ q2).mono ?_; rintro e w' ⟨rfl, rfl⟩)
      | (go_at_call 60; refine Calls.mono HH3.out ?_; rintro e w' ⟨rfl, rfl⟩))
    go_ret
    exact ⟨retY HF2.out.symm, Below.refl _ _⟩
  have e0 : decide (n < 1) = false := decide_eq_false c0
  by_cases c1 : 1099511627776 < n
  · have e1 : decide (1099511627776 < n) = true := decide_eq_true c1
    clear hok
    go_enter Tryd.func23, Tryd.ntmps23
    go_wp2_with (first
      | (go_at_call 59; with_reducible refine (hH1 _ q1).mono ?_; rintro e w' ⟨rfl, rfl⟩)
      | (go_at_call 59; with_reducible refine (hH2 _ q2).mono ?_; rintro e w' ⟨rfl, rfl⟩)
      | (go_at_call 60; refine Calls.mono HH3.out ?_; rintro e w' ⟨rfl, rfl⟩))
    go_ret
    exact ⟨retY HF2.out.symm, Below.refl _ _⟩
  have e1 : decide (1099511627776 < n) = false := decide_eq_false c1
  by_cases c2 : i < 1
  · have e2 : decide (i < 1) = true := decide_eq_true c2
    clear hok
    go_enter Tryd.func23, Tryd.ntmps23
    go_wp2_with (first
      | (go_at_call 59; with_reducible refine (hH1 _ q1).mono ?_; rintro e w' ⟨rfl, rfl⟩)
      | (go_at_call 59; with_reducible refine (hH2 _ q2).mono ?_; rintro e w' ⟨rfl, rfl⟩)
      | (go_at_call 60; refine Calls.mono HH3.out ?_; rintro e w' ⟨rfl, rfl⟩))
    go_ret
    exact ⟨retY HF2.out.symm, Below.refl _ _⟩
  have e2 : decide (i < 1) = false := decide_eq_false c2
  by_cases c3 : n < i
  · have e3 : decide (n < i) = true := decide_eq_true c3
    clear hok
    go_enter Tryd.func23, Tryd.ntmps23
    go_wp2_with (first
      | (go_at_call 59; with_reducible refine (hH1 _ q1).mono ?_; rintro e w' ⟨rfl, rfl⟩)
      | (go_at_call 59; with_reducible refine (hH2 _ q2).mono ?_; rintro e w' ⟨rfl, rfl⟩)
      | (go_at_call 60; refine Calls.mono HH3.out ?_; rintro e w' ⟨rfl, rfl⟩))
    go_ret
    exact ⟨retY HF2.out.symm, Below.refl _ _⟩
  have e3 : decide (n < i) = false := decide_eq_false c3
  exact absurd (show ConOk i n ps old root from ⟨q1, q2, by omega, q3, by omega, by omega, by omega, by omega⟩) hok
end Go.Proofs.YtdfglpbappeoaabDoor
