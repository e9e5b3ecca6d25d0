/- The pairs on the way from a leaf to the root, as the laws' helper gathers them. Two unlike pairs with one hash are found. -/
import Derived.Test.YtdfglpbappeoaabDoorPrs
import Derived.Test.YtdfglpbappeoaabDoorIncS
namespace Go.Proofs.YtdfglpbappeoaabDoor
open Go.RowKit
set_option linter.unusedVariables false

set_option maxRecDepth 100000 in
theorem hidP {p : Prop} (h : p) : Hid p := h
def wayT (ps : List ByteArray) (f s : Nat) (b : ByteArray) : List Pair := Mer.way nodeD ps f s b
theorem wayT_len : ∀ (ps : List ByteArray) (f s : Nat) (b : ByteArray), (wayT ps f s b).length = ps.length
  | [], f, s, b => rfl
  | p :: ps, f, s, b => by
    show (_ :: Mer.way nodeD ps _ _ _).length = _
    rw [List.length_cons, List.length_cons]
    exact congrArg (· + 1) (wayT_len ps _ _ _)
def pcs (x y : ByteArray) : List Value := [.string x, .string y]
set_option maxRecDepth 100000 in
theorem pcs_one (x y : ByteArray) : ∀ v ∈ pcs x y, v.oneCell' = true := by
  intro v hv
  simp [pcs] at hv
  rcases hv with h | h <;> (rw [h]; rfl)
set_option maxRecDepth 100000 in
theorem RowV.prs {w : World} {g : Nat} {x y : ByteArray} (h : RowV w g (pcs x y)) : w.cell? ⟨g, 0, none⟩ = some (.string x) ∧ w.cell? ⟨g, 1, none⟩ = some (.string y) := ⟨h.cell (k := 0) rfl, h.cell (k := 1) rfl⟩
theorem Tryd.infoPz : (Tryd.prog.info? 97).map (fun i => i.zero) = some (some (.agg (pcs ⟨#[]⟩ ⟨#[]⟩).toArray)) := by kernel_rfl
theorem Tryd.sizePz : (Tryd.prog.info? 97).map (·.size) = some 2 := by kernel_rfl
/- What holds at the head of a round. -/
structure WayAt (W : List Pair) (ps : List ByteArray) (k f s : Nat) (r : ByteArray) (L : List Pair) : Prop where
  eq : W = L ++ wayT (ps.drop k) f s r
  rs : r.size = 32
  len : L.length = k
set_option maxRecDepth 100000 in
theorem WayAt.right {W : List Pair} {ps : List ByteArray} {k f s : Nat} {r p : ByteArray} {L : List Pair} (h : WayAt W ps k f s r L) (hk : k < ps.length) (hp : ps[k] = p) (hr : Mer.rgt f s = true) : WayAt W ps (k + 1) ((dn f s).1 / 2) ((dn f s).2 / 2) (nodeD p r) (L ++ [(p, r)]) := by
  refine ⟨?_, nodeD_size _ _, by rw [List.length_append, h.len]; rfl⟩
  rw [h.eq, List.drop_eq_getElem_cons hk, hp, List.append_assoc]
  congr 1
  show Mer.way nodeD (p :: _) f s r = _
  rw [Mer.way, hr, nx_right hr]
  rfl
set_option maxRecDepth 100000 in
theorem WayAt.left {W : List Pair} {ps : List ByteArray} {k f s : Nat} {r p : ByteArray} {L : List Pair} (h : WayAt W ps k f s r L) (hk : k < ps.length) (hp : ps[k] = p) (hr : Mer.rgt f s = false) : WayAt W ps (k + 1) (f / 2) (s / 2) (nodeD r p) (L ++ [(r, p)]) := by
  refine ⟨?_, nodeD_size _ _, by rw [List.length_append, h.len]; rfl⟩
  rw [h.eq, List.drop_eq_getElem_cons hk, hp, List.append_assoc]
  congr 1
  show Mer.way nodeD (p :: _) f s r = _
  rw [Mer.way, hr, nx_left hr]
  rfl
/- What stands in a round. -/
structure KpQ (w : World) (a : Option Addr) (ps : List ByteArray) (v : Value) (k : Nat) (L : List Pair) (w' : World) : Prop where
  below : Below w.heap.size w w'
  own : OwnP w' w.heap.size v k L
  sa : SA w' a ps
set_option maxRecDepth 100000 in
theorem KpQ.call {w w' w2 : World} {a : Option Addr} {ps : List ByteArray} {v : Value} {k : Nat} {L : List Pair} (h : Hid (KpQ w a ps v k L w')) (hb : Below w'.heap.size w' w2) : Hid (KpQ w a ps v k L w2) :=
  ⟨h.out.below.trans (hb.mono h.out.below.size), ownP_below h.out.own hb, h.out.sa.below hb⟩
theorem KpQ.app {w w' w2 w3 : World} {a : Option Addr} {ps : List ByteArray} {v v2 : Value} {k k2 : Nat} {L L2 : List Pair} (hA : Hid (SA w a ps)) (h : Hid (KpQ w a ps v k L w')) (ho : OwnP w3 w.heap.size v2 k2 L2) (hb : Below w.heap.size w' w3) : Hid (KpQ w a ps v2 k2 L2 w3) :=
  ⟨h.out.below.trans hb, ho, hA.out.below (h.out.below.trans hb)⟩
set_option maxRecDepth 100000 in
set_option maxHeartbeats 4000000 in
theorem lwWay_any (leaf : ByteArray) (i0 n0 : Nat) (a : Option Addr) (c m : Nat) (ps : List ByteArray) (w : World) (hm : ps.length = m) (hA : SA w a ps) (h32 : leaf.size = 32) (hps : ∀ x ∈ ps, x.size = 32) (hmb : m ≤ 1000) (hi : i0 ≤ 1099511627776) (hn1 : 1 ≤ n0) (hn : n0 ≤ 1099511627776) :
    Calls Tryd.prog 21 #[.string leaf, .int .i64 (i0 : Int), .int .i64 (n0 : Int), .slice a m c] w fun e w' => ∃ v, e = .returned v ∧ v ≠ .slice none 0 0 ∧ OwnP w' w.heap.size v m (wayT ps i0 (n0 - 1) leaf) ∧ Below w.heap.size w w' := by
  have hN0 : ∀ (p r : ByteArray) w0, p.size = 32 → r.size = 32 → Calls Tryd.prog 62 #[.string p, .string r] w0 fun e w' => e = .returned (.string (nodeD p r)) ∧ Below w0.heap.size w0 w' := fun p r w0 e1 e2 => by
    have := specNodeH p r w0 (by rw [e1]; decide) (by rw [e2]; decide)
    rw [show nodeA p r = nodeD p r from if_pos ⟨e1, e2⟩] at this
    exact this
  have HP : Hid (∀ k (hk : k < ps.length), ps[k].size = 32) := fun k hk => hps _ (List.getElem_mem hk)
  have HA : Hid (SA w a ps) := hA
  have HM : Hid (ps.length = m) := hm
  obtain ⟨n1, hn1e⟩ : ∃ n1, n0 - 1 = n1 := ⟨_, rfl⟩
  have es : (n0 : Int) - 1 = (n1 : Int) := by omega
  obtain ⟨W, hW⟩ : ∃ W, wayT ps i0 n1 leaf = W := ⟨_, rfl⟩
  have HS : Hid (WayAt W ps 0 i0 n1 leaf []) := ⟨hW.symm, h32, rfl⟩
  have HWl : Hid (W.length = m) := by show _ = _; rw [← hW, wayT_len, hm]
  rw [hn1e, hW]
  have hn1' : n1 ≤ 1099511627776 := by omega
  have B0 : Below w.heap.size w (w.alloc (.cells #[] 97)) := (Below.refl _ _).alloc (Nat.le_refl _) _
  have HQ0 : Hid (KpQ w a ps (.slice (some ⟨w.heap.size, 0, none⟩) 0 0) 0 [] (w.alloc (.cells #[] 97))) := ⟨B0, World.ownsRow_made w #[] 0 (Nat.le_refl _) (Nat.zero_le _) rfl, hA.below B0⟩
  have HV0 : Hid ((.slice (some ⟨w.heap.size, 0, none⟩) 0 0 : Value) ≠ .slice none 0 0) := by show _ ≠ _; simp
  clear hA hm h32 hW hps B0 hn1e hn1
  go_enter Tryd.func21, Tryd.ntmps21
  go_wp2_with fail
  go_loopw [9, 10, 11, 12, 13] (fun vo vf vs vr vi wr => ∃ (k f s : Nat) (r : ByteArray) (L : List Pair), vi = .int .i64 (k : Int) ∧ vf = .int .i64 (f : Int) ∧ vs = .int .i64 (s : Int) ∧ vr = .string r ∧ k ≤ m ∧ f ≤ 1099511627776 ∧ s ≤ 1099511627776 ∧ Hid (vo ≠ .slice none 0 0) ∧ Hid (WayAt W ps k f s r L) ∧ Hid (KpQ w a ps vo k L wr)) (fun _ _ _ _ vi _ => m - (intOf vi).toNat)
  case atStart => exact ⟨0, i0, n1, leaf, [], rfl, rfl, rfl, rfl, Nat.zero_le _, hi, hn1', HV0, HS, HQ0⟩
  case round =>
    clear HV0 HS HQ0 hi hn1' es
    obtain ⟨k, f, s, r, L, rfl, rfl, rfl, rfl, hk, hf, hs, HVo, HI, HQ⟩ := hrel
    have hrs := HI.out.rs
    by_cases hlt : k < m
    · have hkl : k < ps.length := by have := HM.out; omega
      obtain ⟨b, o, ha, hc⟩ := HQ.out.sa k hkl
      have hps := HP.out k hkl
      have HI2 : Hid (∀ (e2 : Mer.rgt f s = true), WayAt W ps (k + 1) ((dn f s).1 / 2) ((dn f s).2 / 2) (nodeD ps[k] r) (L ++ [(ps[k], r)])) := fun e2 => HI.out.right hkl rfl e2
      have HI3 : Hid (∀ (e2 : Mer.rgt f s = false), WayAt W ps (k + 1) (f / 2) (s / 2) (nodeD r ps[k]) (L ++ [(r, ps[k])])) := fun e2 => HI.out.left hkl rfl e2
      generalize ps[k] = p at *
      have lk : (k : Int) < m := by omega
      have l0 : (0 : Int) ≤ k := by omega
      clear hkl HI HWl
      subst ha
      by_cases hodd : f % 2 = 1
      · as_aux_lemma =>
        have hrg : Mer.rgt f s = true := rgt_odd hodd
        have d5 : ((f : Int) % 2 == 1) = true := beq_iff_eq.2 (by omega)
        clear hodd
        have HI5 : Hid (WayAt W ps (k + 1) ((dn f s).1 / 2) ((dn f s).2 / 2) (nodeD p r) (L ++ [(p, r)])) := HI2.out hrg
        have hN : ∀ w0, Calls Tryd.prog 62 #[.string p, .string r] w0 fun e w' => e = .returned (.string (nodeD p r)) ∧ Below w0.heap.size w0 w' := fun w0 => hN0 p r w0 hps hrs
        obtain ⟨F, S, hFS⟩ : ∃ F S, dn f s = (F, S) := ⟨_, _, rfl⟩
        have HD : Hid (dn f s = (F, S)) := hFS
        rw [hFS] at HI5
        generalize nodeD p r = qq at *
        clear HI2 HI3 hrg hN0 hFS
        go_wp2_with (first
          | (with_reducible refine wpList_allocV (w := wr) (by with_unfolding_all rfl) 97 (by with_unfolding_all rfl) (pcs ⟨#[]⟩ ⟨#[]⟩) Tryd.infoPz ?_; intro w1 hA1 hB1 hS1; have z1 : wr.heap.size < w1.heap.size := (by omega); clear hS1)
          | (with_reducible refine wpList_storeV (w := w1) (by with_unfolding_all rfl) 97 (.tmp 14) (.tmp 31) (by with_unfolding_all rfl) wr.heap.size (pcs ⟨#[]⟩ ⟨#[]⟩) (pcs r p) (by with_unfolding_all rfl) (by with_unfolding_all rfl) hA1 2 Tryd.sizePz (by with_unfolding_all rfl) (by with_unfolding_all rfl) (pcs_one _ _) ?_; intro w2 hA2 hB2 hF2 hS2; have B2 : Below wr.heap.size wr w2 := hB1.trans (hB2 _ (Nat.le_refl _)); have z2 : wr.heap.size < w2.heap.size := (by omega); clear hS2; have hc2 := (hB2 wr.heap.size (Nat.le_refl _)).trans (Below.refl _ _); have cp : w2.cell? ⟨b, o + k, none⟩ = some (.string p) := (B2.cell (p := ⟨b, o + k, none⟩) (cellLt hc)).trans hc; clear hA1 hB1 hB2 hF2 hc2)
          | (with_reducible refine wpList_storeV (w := w2) (by with_unfolding_all rfl) 97 (.tmp 14) (.tmp 45) (by with_unfolding_all rfl) wr.heap.size (pcs r p) (pcs p r) (by with_unfolding_all rfl) (by with_unfolding_all rfl) hA2 2 Tryd.sizePz (by with_unfolding_all rfl) (by with_unfolding_all rfl) (pcs_one _ _) ?_; intro w6 hA6 hB6 hF6 hS6; have B6 : Below wr.heap.size wr w6 := B2.trans (hB6 _ (Nat.le_refl _)); have hgx : wr.heap.size < w6.heap.size := (by omega); clear hS6 hB6 hF6 hA2 B2 cp z1 z2))
        have HQ2 := KpQ.call HQ B6
        have HV2 : Hid (RowV w6 wr.heap.size (pcs p r)) := hA6
        obtain ⟨c0, c1⟩ := hA6.prs
        generalize wr.heap.size = gx at *
        try simp only [Act.put]
        clear HQ B6 hA6 hc
        go_loopw [10, 11] (fun vf vs wx => ∃ (f' s' : Nat), vf = .int .i64 (f' : Int) ∧ vs = .int .i64 (s' : Int) ∧ f' ≤ 1099511627776 ∧ s' ≤ 1099511627776 ∧ Hid (dn f' s' = (F, S)) ∧ w6 = wx) (fun vf _ _ => (intOf vf).toNat)
        case atStart => exact ⟨f, s, rfl, rfl, hf, hs, HD, rfl⟩
        case round =>
          clear HD
          obtain ⟨f', s', rfl, rfl, hf', hs', HD', rfl⟩ := hrel
          by_cases e1 : f' % 2 = 0
          · have t1 : ((f' : Int) % 2 == 0) = true := beq_iff_eq.2 (by omega)
            by_cases e2 : f' = 0
            · have t2 : ((f' : Int) != 0) = false := by simp [e2]
              have t3 : ((f' : Int) == 0) = true := by simp [e2]
              have HE : Hid (f' = F ∧ s' = S) := by have := HD'.out; rw [dn_stop (Or.inr e2)] at this; injection this with a1 a2; exact ⟨a1, a2⟩
              clear HD' e1 e2
              go_wp2_with (first
                | (go_at_call 62; refine (hN _).mono ?_; rintro e w3 ⟨rfl, hB3⟩; have HQ3 := KpQ.call HQ2 hB3; have V3 := HV2.out.below hB3 hgx; obtain ⟨q0, q1⟩ := V3.prs; have HO4 : Hid (OwnP (w3.alloc (.cells #[.string p, .string r] 97)) w.heap.size u9 k L) := ownP_below HQ3.out.own ((Below.refl _ _).alloc (Nat.le_refl _) _); have HX4 : Hid (PA (w3.alloc (.cells #[.string p, .string r] 97)) w3.heap.size 0 [(p, r)]) := lit_pa w3 (p, r) 97; have HB4 : Hid (Below w.heap.size w3 (w3.alloc (.cells #[.string p, .string r] 97))) := (Below.refl _ _).alloc HQ3.out.below.size _; have hz4 : w.heap.size ≤ (w3.alloc (.cells #[.string p, .string r] 97)).heap.size := Nat.le_trans HQ3.out.below.size HB4.out.size; clear hB3 V3)
                | (at_builtin; refine wpList_append_pairs rfl _ _ rfl w.heap.size u9 k 1 L [(p, r)] rfl HO4.out w3.heap.size 0 1 rfl rfl HX4.out (by omega) hz4 ?_; intro v5 w5 hO5 hB5 hv5))
              have HQ5 : Hid (KpQ w (some ⟨b, o, none⟩) ps v5 (k + 1) (L ++ [(p, r)]) w5) := KpQ.app (w2 := w3) HA HQ3 hO5 (HB4.out.trans hB5)
              have HV5 : Hid (v5 ≠ .slice none 0 0) := hv5 HVo.out
              clear hO5 hB5 hv5 HO4 HX4 HB4 hz4 q0 q1
              go_roundw
              case rel => exact ⟨k + 1, F / 2, S / 2, qq, L ++ [(p, r)], by go_num, by (rw [← HE.out.1]; go_num), by (rw [← HE.out.2]; go_num), rfl, hlt, by (have := HE.out.1; omega), by (have := HE.out.2; omega), HV5, HI5, HQ5⟩
              case measure => simp [intOf]; omega
            · have t2 : ((f' : Int) != 0) = true := by simp; omega
              have t3 : ((f' : Int) == 0) = false := by simp; omega
              have HE : Hid (dn (f' / 2) (s' / 2) = (F, S)) := by have := HD'.out; rw [dn_go e1 e2] at this; exact this
              clear HD' e1
              go_wp2
              go_roundw
              case rel => exact ⟨f' / 2, s' / 2, by go_num, by go_num, by omega, by omega, HE, trivial⟩
              case measure => simp [intOf]; omega
          · have t1 : ((f' : Int) % 2 == 0) = false := beq_eq_false_iff_ne.2 (by omega)
            have HE : Hid (f' = F ∧ s' = S) := by have := HD'.out; rw [dn_stop (Or.inl (by omega))] at this; injection this with a1 a2; exact ⟨a1, a2⟩
            clear HD' e1
            go_wp2_with (first
              | (go_at_call 62; refine (hN _).mono ?_; rintro e w3 ⟨rfl, hB3⟩; have HQ3 := KpQ.call HQ2 hB3; have V3 := HV2.out.below hB3 hgx; obtain ⟨q0, q1⟩ := V3.prs; have HO4 : Hid (OwnP (w3.alloc (.cells #[.string p, .string r] 97)) w.heap.size u9 k L) := ownP_below HQ3.out.own ((Below.refl _ _).alloc (Nat.le_refl _) _); have HX4 : Hid (PA (w3.alloc (.cells #[.string p, .string r] 97)) w3.heap.size 0 [(p, r)]) := lit_pa w3 (p, r) 97; have HB4 : Hid (Below w.heap.size w3 (w3.alloc (.cells #[.string p, .string r] 97))) := (Below.refl _ _).alloc HQ3.out.below.size _; have hz4 : w.heap.size ≤ (w3.alloc (.cells #[.string p, .string r] 97)).heap.size := Nat.le_trans HQ3.out.below.size HB4.out.size; clear hB3 V3)
              | (at_builtin; refine wpList_append_pairs rfl _ _ rfl w.heap.size u9 k 1 L [(p, r)] rfl HO4.out w3.heap.size 0 1 rfl rfl HX4.out (by omega) hz4 ?_; intro v5 w5 hO5 hB5 hv5))
            have HQ5 : Hid (KpQ w (some ⟨b, o, none⟩) ps v5 (k + 1) (L ++ [(p, r)]) w5) := KpQ.app (w2 := w3) HA HQ3 hO5 (HB4.out.trans hB5)
            have HV5 : Hid (v5 ≠ .slice none 0 0) := hv5 HVo.out
            clear hO5 hB5 hv5 HO4 HX4 HB4 hz4 q0 q1
            go_roundw
            case rel => exact ⟨k + 1, F / 2, S / 2, qq, L ++ [(p, r)], by go_num, by (rw [← HE.out.1]; go_num), by (rw [← HE.out.2]; go_num), rfl, hlt, by (have := HE.out.1; omega), by (have := HE.out.2; omega), HV5, HI5, HQ5⟩
            case measure => simp [intOf]; omega
      have d5 : ((f : Int) % 2 == 1) = false := beq_eq_false_iff_ne.2 (by omega)
      by_cases hsame : f = s
      · as_aux_lemma =>
        have hrg : Mer.rgt f s = true := rgt_same hsame
        have d6 : ((f : Int) == (s : Int)) = true := beq_iff_eq.2 (by omega)
        clear hodd hsame
        have HI5 : Hid (WayAt W ps (k + 1) ((dn f s).1 / 2) ((dn f s).2 / 2) (nodeD p r) (L ++ [(p, r)])) := HI2.out hrg
        have hN : ∀ w0, Calls Tryd.prog 62 #[.string p, .string r] w0 fun e w' => e = .returned (.string (nodeD p r)) ∧ Below w0.heap.size w0 w' := fun w0 => hN0 p r w0 hps hrs
        obtain ⟨F, S, hFS⟩ : ∃ F S, dn f s = (F, S) := ⟨_, _, rfl⟩
        have HD : Hid (dn f s = (F, S)) := hFS
        rw [hFS] at HI5
        generalize nodeD p r = qq at *
        clear HI2 HI3 hrg hN0 hFS
        go_wp2_with (first
          | (with_reducible refine wpList_allocV (w := wr) (by with_unfolding_all rfl) 97 (by with_unfolding_all rfl) (pcs ⟨#[]⟩ ⟨#[]⟩) Tryd.infoPz ?_; intro w1 hA1 hB1 hS1; have z1 : wr.heap.size < w1.heap.size := (by omega); clear hS1)
          | (with_reducible refine wpList_storeV (w := w1) (by with_unfolding_all rfl) 97 (.tmp 14) (.tmp 31) (by with_unfolding_all rfl) wr.heap.size (pcs ⟨#[]⟩ ⟨#[]⟩) (pcs r p) (by with_unfolding_all rfl) (by with_unfolding_all rfl) hA1 2 Tryd.sizePz (by with_unfolding_all rfl) (by with_unfolding_all rfl) (pcs_one _ _) ?_; intro w2 hA2 hB2 hF2 hS2; have B2 : Below wr.heap.size wr w2 := hB1.trans (hB2 _ (Nat.le_refl _)); have z2 : wr.heap.size < w2.heap.size := (by omega); clear hS2; have hc2 := (hB2 wr.heap.size (Nat.le_refl _)).trans (Below.refl _ _); have cp : w2.cell? ⟨b, o + k, none⟩ = some (.string p) := (B2.cell (p := ⟨b, o + k, none⟩) (cellLt hc)).trans hc; clear hA1 hB1 hB2 hF2 hc2)
          | (with_reducible refine wpList_storeV (w := w2) (by with_unfolding_all rfl) 97 (.tmp 14) (.tmp 45) (by with_unfolding_all rfl) wr.heap.size (pcs r p) (pcs p r) (by with_unfolding_all rfl) (by with_unfolding_all rfl) hA2 2 Tryd.sizePz (by with_unfolding_all rfl) (by with_unfolding_all rfl) (pcs_one _ _) ?_; intro w6 hA6 hB6 hF6 hS6; have B6 : Below wr.heap.size wr w6 := B2.trans (hB6 _ (Nat.le_refl _)); have hgx : wr.heap.size < w6.heap.size := (by omega); clear hS6 hB6 hF6 hA2 B2 cp z1 z2))
        have HQ2 := KpQ.call HQ B6
        have HV2 : Hid (RowV w6 wr.heap.size (pcs p r)) := hA6
        obtain ⟨c0, c1⟩ := hA6.prs
        generalize wr.heap.size = gx at *
        try simp only [Act.put]
        clear HQ B6 hA6 hc
        go_loopw [10, 11] (fun vf vs wx => ∃ (f' s' : Nat), vf = .int .i64 (f' : Int) ∧ vs = .int .i64 (s' : Int) ∧ f' ≤ 1099511627776 ∧ s' ≤ 1099511627776 ∧ Hid (dn f' s' = (F, S)) ∧ w6 = wx) (fun vf _ _ => (intOf vf).toNat)
        case atStart => exact ⟨f, s, rfl, rfl, hf, hs, HD, rfl⟩
        case round =>
          clear HD
          obtain ⟨f', s', rfl, rfl, hf', hs', HD', rfl⟩ := hrel
          by_cases e1 : f' % 2 = 0
          · have t1 : ((f' : Int) % 2 == 0) = true := beq_iff_eq.2 (by omega)
            by_cases e2 : f' = 0
            · have t2 : ((f' : Int) != 0) = false := by simp [e2]
              have t3 : ((f' : Int) == 0) = true := by simp [e2]
              have HE : Hid (f' = F ∧ s' = S) := by have := HD'.out; rw [dn_stop (Or.inr e2)] at this; injection this with a1 a2; exact ⟨a1, a2⟩
              clear HD' e1 e2
              go_wp2_with (first
                | (go_at_call 62; refine (hN _).mono ?_; rintro e w3 ⟨rfl, hB3⟩; have HQ3 := KpQ.call HQ2 hB3; have V3 := HV2.out.below hB3 hgx; obtain ⟨q0, q1⟩ := V3.prs; have HO4 : Hid (OwnP (w3.alloc (.cells #[.string p, .string r] 97)) w.heap.size u9 k L) := ownP_below HQ3.out.own ((Below.refl _ _).alloc (Nat.le_refl _) _); have HX4 : Hid (PA (w3.alloc (.cells #[.string p, .string r] 97)) w3.heap.size 0 [(p, r)]) := lit_pa w3 (p, r) 97; have HB4 : Hid (Below w.heap.size w3 (w3.alloc (.cells #[.string p, .string r] 97))) := (Below.refl _ _).alloc HQ3.out.below.size _; have hz4 : w.heap.size ≤ (w3.alloc (.cells #[.string p, .string r] 97)).heap.size := Nat.le_trans HQ3.out.below.size HB4.out.size; clear hB3 V3)
                | (at_builtin; refine wpList_append_pairs rfl _ _ rfl w.heap.size u9 k 1 L [(p, r)] rfl HO4.out w3.heap.size 0 1 rfl rfl HX4.out (by omega) hz4 ?_; intro v5 w5 hO5 hB5 hv5))
              have HQ5 : Hid (KpQ w (some ⟨b, o, none⟩) ps v5 (k + 1) (L ++ [(p, r)]) w5) := KpQ.app (w2 := w3) HA HQ3 hO5 (HB4.out.trans hB5)
              have HV5 : Hid (v5 ≠ .slice none 0 0) := hv5 HVo.out
              clear hO5 hB5 hv5 HO4 HX4 HB4 hz4 q0 q1
              go_roundw
              case rel => exact ⟨k + 1, F / 2, S / 2, qq, L ++ [(p, r)], by go_num, by (rw [← HE.out.1]; go_num), by (rw [← HE.out.2]; go_num), rfl, hlt, by (have := HE.out.1; omega), by (have := HE.out.2; omega), HV5, HI5, HQ5⟩
              case measure => simp [intOf]; omega
            · have t2 : ((f' : Int) != 0) = true := by simp; omega
              have t3 : ((f' : Int) == 0) = false := by simp; omega
              have HE : Hid (dn (f' / 2) (s' / 2) = (F, S)) := by have := HD'.out; rw [dn_go e1 e2] at this; exact this
              clear HD' e1
              go_wp2
              go_roundw
              case rel => exact ⟨f' / 2, s' / 2, by go_num, by go_num, by omega, by omega, HE, trivial⟩
              case measure => simp [intOf]; omega
          · have t1 : ((f' : Int) % 2 == 0) = false := beq_eq_false_iff_ne.2 (by omega)
            have HE : Hid (f' = F ∧ s' = S) := by have := HD'.out; rw [dn_stop (Or.inl (by omega))] at this; injection this with a1 a2; exact ⟨a1, a2⟩
            clear HD' e1
            go_wp2_with (first
              | (go_at_call 62; refine (hN _).mono ?_; rintro e w3 ⟨rfl, hB3⟩; have HQ3 := KpQ.call HQ2 hB3; have V3 := HV2.out.below hB3 hgx; obtain ⟨q0, q1⟩ := V3.prs; have HO4 : Hid (OwnP (w3.alloc (.cells #[.string p, .string r] 97)) w.heap.size u9 k L) := ownP_below HQ3.out.own ((Below.refl _ _).alloc (Nat.le_refl _) _); have HX4 : Hid (PA (w3.alloc (.cells #[.string p, .string r] 97)) w3.heap.size 0 [(p, r)]) := lit_pa w3 (p, r) 97; have HB4 : Hid (Below w.heap.size w3 (w3.alloc (.cells #[.string p, .string r] 97))) := (Below.refl _ _).alloc HQ3.out.below.size _; have hz4 : w.heap.size ≤ (w3.alloc (.cells #[.string p, .string r] 97)).heap.size := Nat.le_trans HQ3.out.below.size HB4.out.size; clear hB3 V3)
              | (at_builtin; refine wpList_append_pairs rfl _ _ rfl w.heap.size u9 k 1 L [(p, r)] rfl HO4.out w3.heap.size 0 1 rfl rfl HX4.out (by omega) hz4 ?_; intro v5 w5 hO5 hB5 hv5))
            have HQ5 : Hid (KpQ w (some ⟨b, o, none⟩) ps v5 (k + 1) (L ++ [(p, r)]) w5) := KpQ.app (w2 := w3) HA HQ3 hO5 (HB4.out.trans hB5)
            have HV5 : Hid (v5 ≠ .slice none 0 0) := hv5 HVo.out
            clear hO5 hB5 hv5 HO4 HX4 HB4 hz4 q0 q1
            go_roundw
            case rel => exact ⟨k + 1, F / 2, S / 2, qq, L ++ [(p, r)], by go_num, by (rw [← HE.out.1]; go_num), by (rw [← HE.out.2]; go_num), rfl, hlt, by (have := HE.out.1; omega), by (have := HE.out.2; omega), HV5, HI5, HQ5⟩
            case measure => simp [intOf]; omega
      · as_aux_lemma =>
        have HI5 : Hid (WayAt W ps (k + 1) (f / 2) (s / 2) (nodeD r p) (L ++ [(r, p)])) := HI3.out (rgt_not hodd hsame)
        have d6 : ((f : Int) == (s : Int)) = false := beq_eq_false_iff_ne.2 (by omega)
        have hN : ∀ w0, Calls Tryd.prog 62 #[.string r, .string p] w0 fun e w' => e = .returned (.string (nodeD r p)) ∧ Below w0.heap.size w0 w' := fun w0 => hN0 r p w0 hrs hps
        generalize nodeD r p = qq at *
        clear HI2 HI3 hN0 hodd hsame
        go_wp2_with (first
          | (with_reducible refine wpList_allocV (w := wr) (by with_unfolding_all rfl) 97 (by with_unfolding_all rfl) (pcs ⟨#[]⟩ ⟨#[]⟩) Tryd.infoPz ?_; intro w1 hA1 hB1 hS1; have z1 : wr.heap.size < w1.heap.size := (by omega); clear hS1)
          | (with_reducible refine wpList_storeV (w := w1) (by with_unfolding_all rfl) 97 (.tmp 14) (.tmp 31) (by with_unfolding_all rfl) wr.heap.size (pcs ⟨#[]⟩ ⟨#[]⟩) (pcs r p) (by with_unfolding_all rfl) (by with_unfolding_all rfl) hA1 2 Tryd.sizePz (by with_unfolding_all rfl) (by with_unfolding_all rfl) (pcs_one _ _) ?_; intro w2 hA2 hB2 hF2 hS2; have B2 : Below wr.heap.size wr w2 := hB1.trans (hB2 _ (Nat.le_refl _)); have hgx : wr.heap.size < w2.heap.size := (by omega); clear hS2; have HQ2 := KpQ.call HQ B2; have HV2 := hidP hA2; obtain ⟨c0, c1⟩ := hA2.prs; clear hA1 hB1 hB2 hF2 HQ B2 hA2)
          | (go_at_call 62; refine (hN _).mono ?_; rintro e w3 ⟨rfl, hB3⟩; have HQ3 := KpQ.call HQ2 hB3; have V3 := HV2.out.below hB3 hgx; obtain ⟨q0, q1⟩ := V3.prs; have HO4 : Hid (OwnP (w3.alloc (.cells #[.string r, .string p] 97)) w.heap.size u9 k L) := ownP_below HQ3.out.own ((Below.refl _ _).alloc (Nat.le_refl _) _); have HX4 : Hid (PA (w3.alloc (.cells #[.string r, .string p] 97)) w3.heap.size 0 [(r, p)]) := lit_pa w3 (r, p) 97; have HB4 : Hid (Below w.heap.size w3 (w3.alloc (.cells #[.string r, .string p] 97))) := (Below.refl _ _).alloc HQ3.out.below.size _; have hz4 : w.heap.size ≤ (w3.alloc (.cells #[.string r, .string p] 97)).heap.size := Nat.le_trans HQ3.out.below.size HB4.out.size; clear hB3 V3)
          | (at_builtin; refine wpList_append_pairs rfl _ _ rfl w.heap.size u9 k 1 L [(r, p)] rfl HO4.out w3.heap.size 0 1 rfl rfl HX4.out (by omega) hz4 ?_; intro v5 w5 hO5 hB5 hv5))
        have HQ5 : Hid (KpQ w (some ⟨b, o, none⟩) ps v5 (k + 1) (L ++ [(r, p)]) w5) := KpQ.app (w2 := w3) HA HQ3 hO5 (HB4.out.trans hB5)
        have HV5 : Hid (v5 ≠ .slice none 0 0) := hv5 HVo.out
        clear hO5 hB5 hv5 HO4 HX4 HB4 hz4 q0 q1
        go_roundw
        case rel => exact ⟨k + 1, f / 2, s / 2, qq, L ++ [(r, p)], by go_num, by go_num, by go_num, rfl, hlt, by omega, by omega, HV5, HI5, HQ5⟩
        case measure => simp [intOf]; omega
    · obtain rfl : k = m := by omega
      have HR : Hid (W = L) := by
        show _ = _
        rw [HI.out.eq, List.drop_of_length_le (by have := HM.out; omega)]
        exact List.append_nil _
      clear HI
      go_wp2
      go_ret
      refine ⟨_, rfl, HVo.out, ?_, HQ.out.below⟩
      rw [HR.out]
      exact HQ.out.own
end Go.Proofs.YtdfglpbappeoaabDoor
namespace Go.Proofs.YtdfglpbappeoaabDoor
open Go.RowKit
set_option linter.unusedVariables false

set_option maxRecDepth 100000 in
theorem clash_at {L : List Pair} (h : Mer.Clash nodeD L) : ∃ (i0 k0 : Nat) (x y : Pair), k0 < i0 ∧ i0 < L.length ∧ L[i0]? = some x ∧ L[k0]? = some y ∧ x ≠ y ∧ nodeD x.1 x.2 = nodeD y.1 y.2 := by
  obtain ⟨x, hx, y, hy, hne, he⟩ := h
  obtain ⟨i, hi, rfl⟩ := List.mem_iff_getElem.1 hx
  obtain ⟨j, hj, rfl⟩ := List.mem_iff_getElem.1 hy
  rcases Nat.lt_trichotomy i j with h1 | h1 | h1
  · exact ⟨j, i, _, _, h1, hj, List.getElem?_eq_getElem hj, List.getElem?_eq_getElem hi, fun e => hne e.symm, he.symm⟩
  · subst h1; exact absurd rfl hne
  · exact ⟨i, j, _, _, h1, hi, List.getElem?_eq_getElem hi, List.getElem?_eq_getElem hj, hne, he⟩
structure KpZ (w : World) (g : Nat) (L : List Pair) (w' : World) : Prop where
  below : Below w.heap.size w w'
  pa : PA w' g 0 L
set_option maxRecDepth 100000 in
theorem KpZ.call {w w' w2 : World} {g : Nat} {L : List Pair} (h : Hid (KpZ w g L w')) (hb : Below w'.heap.size w' w2) : Hid (KpZ w g L w2) := ⟨h.out.below.trans (hb.mono h.out.below.size), h.out.pa.below hb⟩
theorem KpZ.drew {w w' : World} {g : Nat} {L : List Pair} (h : Hid (KpZ w g L w')) : Hid (KpZ w g L w'.drew) := ⟨h.out.below.drew, h.out.pa⟩
theorem KpZ.drewN {w w' : World} {g : Nat} {L : List Pair} (h : Hid (KpZ w g L w')) (n : Nat) : Hid (KpZ w g L (w'.drewN n)) := ⟨belowN h.out.below n, h.out.pa⟩
set_option maxRecDepth 100000 in
theorem KpZ.at {w w' : World} {g i : Nat} {L : List Pair} {x : Pair} (h : Hid (KpZ w g L w')) (hx : L[i]? = some x) : w'.cell? ⟨g, i * 2, none⟩ = some (.string x.1) ∧ w'.cell? ⟨g, i * 2 + 1, none⟩ = some (.string x.2) := by
  obtain ⟨hi, rfl⟩ := List.getElem?_eq_some_iff.1 hx
  have := prC_get L i hi
  have h1 := h.out.pa (i * 2) _ this.1
  have h2 := h.out.pa (i * 2 + 1) _ this.2
  rw [Nat.zero_add] at h1 h2
  exact ⟨h1, h2⟩
set_option maxRecDepth 100000 in
theorem KpZ.five {w w' : World} {g i k : Nat} {L : List Pair} {a b a' b' : ByteArray} (h : Hid (KpZ w g L w')) (hx : Hid (L[i]? = some (a, b))) (hy : Hid (L[k]? = some (a', b'))) : w'.cell? ⟨g, i * 2, none⟩ = some (.string a) ∧ w'.cell? ⟨g, i * 2 + 1, none⟩ = some (.string b) ∧ w'.cell? ⟨g, k * 2, none⟩ = some (.string a') ∧ w'.cell? ⟨g, k * 2 + 1, none⟩ = some (.string b') ∧ Hid (KpZ w g L w') :=
  ⟨(KpZ.at h hx.out).1, (KpZ.at h hx.out).2, (KpZ.at h hy.out).1, (KpZ.at h hy.out).2, h⟩
set_option maxRecDepth 100000 in
set_option maxHeartbeats 4000000 in
theorem lwClash_any (g c n : Nat) (L : List Pair) (w : World) (hL : L.length = n) (hA : PA w g 0 L) (h32 : ∀ x ∈ L, x.1.size = 32 ∧ x.2.size = 32) (hnb : n ≤ 2000) (hcl : Mer.Clash nodeD L) :
    Calls Tryd.prog 20 #[.slice (some ⟨g, 0, none⟩) n c] w fun e w' => e = .returned (.bool true) ∧ Below w.heap.size w w' := by
  obtain ⟨i0, k0, x0, y0, hk0, hi0, hx0, hy0, hne0, he0⟩ := clash_at hcl
  have hN0 : ∀ (p r : ByteArray) w0, p.size = 32 → r.size = 32 → Calls Tryd.prog 62 #[.string p, .string r] w0 fun e w' => e = .returned (.string (nodeD p r)) ∧ Below w0.heap.size w0 w' := fun p r w0 e1 e2 => by
    have := specNodeH p r w0 (by rw [e1]; decide) (by rw [e2]; decide)
    rw [show nodeA p r = nodeD p r from if_pos ⟨e1, e2⟩] at this
    exact this
  rw [hL] at hi0
  have HZ : Hid (KpZ w g L w) := ⟨Below.refl _ _, hA⟩
  have HL : Hid (L.length = n) := hL
  have H32 : Hid (∀ x ∈ L, x.1.size = 32 ∧ x.2.size = 32) := h32
  have HC : Hid (∀ (i k : Nat) (x y : Pair), L[i]? = some x → L[k]? = some y → i = i0 → k = k0 → x ≠ y ∧ nodeD x.1 x.2 = nodeD y.1 y.2) := fun i k x y h1 h2 h3 h4 => by
    subst h3 h4
    rw [hx0] at h1
    rw [hy0] at h2
    obtain rfl := Option.some.inj h1
    obtain rfl := Option.some.inj h2
    exact ⟨hne0, he0⟩
  clear hL hA h32 hcl hx0 hy0 hne0 he0
  go_enter Tryd.func20, Tryd.ntmps20
  go_wp2_with fail
  go_loopw [3] (fun vi wr => ∃ i : Nat, vi = .int .i64 (i : Int) ∧ i ≤ i0 ∧ Hid (KpZ w g L wr)) (fun vi _ => n - (intOf vi).toNat)
  case atStart => exact ⟨0, rfl, Nat.zero_le _, HZ⟩
  case round =>
    clear HZ
    obtain ⟨i, rfl, hi, HZ⟩ := hrel
    have li : (i : Int) < (n : Int) := by omega
    go_wp2_with fail
    go_loopw [4] (fun vk wx => ∃ k : Nat, vk = .int .i64 (k : Int) ∧ k ≤ i ∧ (i < i0 ∨ k ≤ k0) ∧ Hid (KpZ w g L wx)) (fun vk _ => i - (intOf vk).toNat)
    case atStart => exact ⟨0, rfl, Nat.zero_le _, Or.inr (Nat.zero_le _), HZ⟩
    case round =>
      clear HZ
      obtain ⟨k, rfl, hk, hor, HZ⟩ := hrel
      by_cases hlt : k < i
      case neg =>
        have lk : ¬ (k : Int) < (i : Int) := by omega
        go_wp2
        go_roundw
        case rel => exact ⟨i + 1, by go_num, by omega, HZ⟩
        case measure => simp [intOf]; omega
      have lk : (k : Int) < (i : Int) := by omega
      obtain ⟨x, hx⟩ : ∃ x, L[i]? = some x := ⟨L[i]'(by have := HL.out; omega), List.getElem?_eq_getElem _⟩
      obtain ⟨y, hy⟩ : ∃ y, L[k]? = some y := ⟨L[k]'(by have := HL.out; omega), List.getElem?_eq_getElem _⟩
      have HCk := HC.out i k x y hx hy
      obtain ⟨p0, p1⟩ := KpZ.at HZ hx
      obtain ⟨q0, q1⟩ := KpZ.at HZ hy
      have HX : Hid (L[i]? = some x) := hx
      have HY : Hid (L[k]? = some y) := hy
      have sx := H32.out x (List.mem_of_getElem? hx)
      have sy := H32.out y (List.mem_of_getElem? hy)
      clear hx hy
      obtain ⟨a, b⟩ := x
      obtain ⟨a', b'⟩ := y
      dsimp only at p0 p1 q0 q1 sx sy HCk
      have i0' : (0 : Int) ≤ (i : Int) := by omega
      have k0' : (0 : Int) ≤ (k : Int) := by omega
      have kn' : (k : Int) < (n : Int) := by omega
      have ta := txt_eq a
      have tb := txt_eq b
      by_cases hab : a = a' ∧ b = b'
      · as_aux_lemma =>
        obtain ⟨rfl, rfl⟩ := hab
        have hor2 : i < i0 ∨ k + 1 ≤ k0 := by
          rcases hor with h | h
          · exact Or.inl h
          · by_cases h1 : i < i0
            · exact Or.inl h1
            · by_cases h2 : k = k0
              · exact absurd rfl (HCk (by omega) h2).1
              · exact Or.inr (by omega)
        clear HCk HC hor
        go_wp2_with fail
        go_quiet (fail)
        go_wp2
        exact ⟨⟨k + 1, by go_num, by omega, hor2, KpZ.drewN HZ _⟩, by simp [intOf]; omega⟩
      by_cases ha : a = a'
      · obtain rfl := ha
        have hb : ¬ b = b' := fun e => hab ⟨rfl, e⟩
        have tn := txt_ne hb
        clear hab
        have hN1 : ∀ w0, Calls Tryd.prog 62 #[.string a, .string b] w0 fun e w' => e = .returned (.string (nodeD a b)) ∧ Below w0.heap.size w0 w' := fun w0 => hN0 a b w0 sx.1 sx.2
        have hN2 : ∀ w0, Calls Tryd.prog 62 #[.string a, .string b'] w0 fun e w' => e = .returned (.string (nodeD a b')) ∧ Below w0.heap.size w0 w' := fun w0 => hN0 a b' w0 sy.1 sy.2
        clear hN0
        generalize nodeD a b = D1 at *
        generalize nodeD a b' = D2 at *
        by_cases hD : D1 = D2
        · as_aux_lemma =>
          have HE : Hid (D1 = D2) := hD
          subst hD
          have td := txt_eq D1
          clear HCk HC hor
          have HS := KpZ.drew HZ
          clear HZ p0 p1 q0 q1
          go_wp2_with fail
          go_region_held3 (fun w' => w'.cell? ⟨g, i * 2, none⟩ = some (.string a) ∧ w'.cell? ⟨g, i * 2 + 1, none⟩ = some (.string b) ∧ w'.cell? ⟨g, k * 2, none⟩ = some (.string a) ∧ w'.cell? ⟨g, k * 2 + 1, none⟩ = some (.string b') ∧ Hid (KpZ w g L w'))
            (first | exact KpZ.five HS HX HY | exact KpZ.five (KpZ.call HS h8) HX HY | exact KpZ.five (KpZ.call (KpZ.call HS h8) h9) HX HY)
            (first
              | (go_at_call 62; with_reducible refine (hN1 _).mono ?_; rintro e w8 ⟨rfl, h8⟩)
              | (go_at_call 62; with_reducible refine (hN2 _).mono ?_; rintro e w9 ⟨rfl, h9⟩))
          all_goals
            have BZ := KpZ.call (KpZ.call HS h8) h9
            clear HS h8 h9 hN1 hN2
            go_wp2
            go_ret
            exact ⟨rfl, BZ.out.below⟩
        · as_aux_lemma =>
          have hor2 : i < i0 ∨ k + 1 ≤ k0 := by
            rcases hor with h | h
            · exact Or.inl h
            · by_cases h1 : i < i0
              · exact Or.inl h1
              · by_cases h2 : k = k0
                · exact absurd (HCk (by omega) h2).2 hD
                · exact Or.inr (by omega)
          have td := txt_ne hD
          clear HCk HC hor
          have HS := KpZ.drew HZ
          clear HZ p0 p1 q0 q1
          go_wp2_with fail
          go_region_held3 (fun w' => w'.cell? ⟨g, i * 2, none⟩ = some (.string a) ∧ w'.cell? ⟨g, i * 2 + 1, none⟩ = some (.string b) ∧ w'.cell? ⟨g, k * 2, none⟩ = some (.string a) ∧ w'.cell? ⟨g, k * 2 + 1, none⟩ = some (.string b') ∧ Hid (KpZ w g L w'))
            (first | exact KpZ.five HS HX HY | exact KpZ.five (KpZ.call HS h8) HX HY | exact KpZ.five (KpZ.call (KpZ.call HS h8) h9) HX HY)
            (first
              | (go_at_call 62; with_reducible refine (hN1 _).mono ?_; rintro e w8 ⟨rfl, h8⟩)
              | (go_at_call 62; with_reducible refine (hN2 _).mono ?_; rintro e w9 ⟨rfl, h9⟩))
          all_goals
            have BZ := KpZ.call (KpZ.call HS h8) h9
            clear HS h8 h9 hN1 hN2
            go_wp2
            exact ⟨⟨k + 1, by go_num, by omega, hor2, BZ⟩, by simp [intOf]; omega⟩
      · have tn := txt_ne ha
        clear hab
        have hN1 : ∀ w0, Calls Tryd.prog 62 #[.string a, .string b] w0 fun e w' => e = .returned (.string (nodeD a b)) ∧ Below w0.heap.size w0 w' := fun w0 => hN0 a b w0 sx.1 sx.2
        have hN2 : ∀ w0, Calls Tryd.prog 62 #[.string a', .string b'] w0 fun e w' => e = .returned (.string (nodeD a' b')) ∧ Below w0.heap.size w0 w' := fun w0 => hN0 a' b' w0 sy.1 sy.2
        clear hN0
        generalize nodeD a b = D1 at *
        generalize nodeD a' b' = D2 at *
        by_cases hD : D1 = D2
        · as_aux_lemma =>
          have HE : Hid (D1 = D2) := hD
          subst hD
          have td := txt_eq D1
          clear HCk HC hor
          have HS := KpZ.drew HZ
          clear HZ p0 p1 q0 q1
          go_wp2_with fail
          go_region_held3 (fun w' => w'.cell? ⟨g, i * 2, none⟩ = some (.string a) ∧ w'.cell? ⟨g, i * 2 + 1, none⟩ = some (.string b) ∧ w'.cell? ⟨g, k * 2, none⟩ = some (.string a') ∧ w'.cell? ⟨g, k * 2 + 1, none⟩ = some (.string b') ∧ Hid (KpZ w g L w'))
            (first | exact KpZ.five HS HX HY | exact KpZ.five (KpZ.call HS h8) HX HY | exact KpZ.five (KpZ.call (KpZ.call HS h8) h9) HX HY)
            (first
              | (go_at_call 62; with_reducible refine (hN1 _).mono ?_; rintro e w8 ⟨rfl, h8⟩)
              | (go_at_call 62; with_reducible refine (hN2 _).mono ?_; rintro e w9 ⟨rfl, h9⟩))
          all_goals
            have BZ := KpZ.call (KpZ.call HS h8) h9
            clear HS h8 h9 hN1 hN2
            go_wp2
            go_ret
            exact ⟨rfl, BZ.out.below⟩
        · as_aux_lemma =>
          have hor2 : i < i0 ∨ k + 1 ≤ k0 := by
            rcases hor with h | h
            · exact Or.inl h
            · by_cases h1 : i < i0
              · exact Or.inl h1
              · by_cases h2 : k = k0
                · exact absurd (HCk (by omega) h2).2 hD
                · exact Or.inr (by omega)
          have td := txt_ne hD
          clear HCk HC hor
          have HS := KpZ.drew HZ
          clear HZ p0 p1 q0 q1
          go_wp2_with fail
          go_region_held3 (fun w' => w'.cell? ⟨g, i * 2, none⟩ = some (.string a) ∧ w'.cell? ⟨g, i * 2 + 1, none⟩ = some (.string b) ∧ w'.cell? ⟨g, k * 2, none⟩ = some (.string a') ∧ w'.cell? ⟨g, k * 2 + 1, none⟩ = some (.string b') ∧ Hid (KpZ w g L w'))
            (first | exact KpZ.five HS HX HY | exact KpZ.five (KpZ.call HS h8) HX HY | exact KpZ.five (KpZ.call (KpZ.call HS h8) h9) HX HY)
            (first
              | (go_at_call 62; with_reducible refine (hN1 _).mono ?_; rintro e w8 ⟨rfl, h8⟩)
              | (go_at_call 62; with_reducible refine (hN2 _).mono ?_; rintro e w9 ⟨rfl, h9⟩))
          all_goals
            have BZ := KpZ.call (KpZ.call HS h8) h9
            clear HS h8 h9 hN1 hN2
            go_wp2
            exact ⟨⟨k + 1, by go_num, by omega, hor2, BZ⟩, by simp [intOf]; omega⟩
end Go.Proofs.YtdfglpbappeoaabDoor
