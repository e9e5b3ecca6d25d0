/- The pairs of a consistency proof, of both roots, as the laws' helper gathers them. -/
import Derived.Test.YtdfglpbappeoaabDoorJn8
import Derived.Test.YtdfglpbappeoaabDoorCon
import Derived.Test.YtdfglpbappeoaabDoorDrwP
namespace Go.Proofs.YtdfglpbappeoaabDoor
open Go.RowKit
set_option linter.unusedVariables false

def stpT : List ByteArray → Nat → Nat → ByteArray → ByteArray → List Pair
  | [], _, _, _, _ => []
  | p :: ps, f, s, a, b => (if Mer.rgt f s then [(p, a), (p, b)] else [(b, p)]) ++ stpT ps (Mer.nx f s).1 (Mer.nx f s).2 (if Mer.rgt f s then nodeD p a else a) (if Mer.rgt f s then nodeD p b else nodeD b p)
set_option maxRecDepth 100000 in
theorem stpT_way : ∀ (ps : List ByteArray) (f s : Nat) (a b : ByteArray), ∀ x ∈ Mer.way nodeD ps f s b, x ∈ stpT ps f s a b
  | [], f, s, a, b, x, hx => by simp [Mer.way] at hx
  | p :: ps, f, s, a, b, x, hx => by
    rw [Mer.way] at hx
    rw [stpT]
    refine List.mem_append.2 ?_
    rcases List.mem_cons.1 hx with rfl | hx
    · left
      cases Mer.rgt f s <;> simp
    · right
      exact stpT_way ps _ _ _ _ x hx
set_option maxRecDepth 100000 in
theorem stpT_hs : ∀ (ps : List ByteArray) (f s : Nat) (a b : ByteArray), a.size = 32 → b.size = 32 → (∀ x ∈ ps, x.size = 32) → ∀ x ∈ stpT ps f s a b, x.1.size = 32 ∧ x.2.size = 32
  | [], f, s, a, b, ha, hb, h, x, hx => by simp [stpT] at hx
  | p :: ps, f, s, a, b, ha, hb, h, x, hx => by
    have hp := h p (by simp)
    rw [stpT] at hx
    rcases List.mem_append.1 hx with hx | hx
    · cases hr : Mer.rgt f s
      · rw [hr] at hx
        rw [List.mem_singleton.1 hx]
        exact ⟨hb, hp⟩
      · rw [hr] at hx
        rcases List.mem_cons.1 hx with rfl | hx
        · exact ⟨hp, ha⟩
        · rw [List.mem_singleton.1 hx]; exact ⟨hp, hb⟩
    · refine stpT_hs ps _ _ _ _ ?_ ?_ (fun y hy => h y (List.mem_cons_of_mem _ hy)) x hx
      · cases Mer.rgt f s
        · exact ha
        · exact nodeD_size _ _
      · cases Mer.rgt f s <;> exact nodeD_size _ _
set_option maxRecDepth 100000 in
theorem stpT_len : ∀ (ps : List ByteArray) (f s : Nat) (a b : ByteArray), (stpT ps f s a b).length ≤ 2 * ps.length
  | [], f, s, a, b => Nat.le_refl _
  | p :: ps, f, s, a, b => by
    rw [stpT, List.length_append, List.length_cons]
    have := stpT_len ps (Mer.nx f s).1 (Mer.nx f s).2 (if Mer.rgt f s then nodeD p a else a) (if Mer.rgt f s then nodeD p b else nodeD b p)
    cases hr : Mer.rgt f s
    · rw [hr] at this
      simp at this ⊢
      omega
    · rw [hr] at this
      simp at this ⊢
      omega
/- What holds at the head of a round. -/
structure StpAt (W : List Pair) (L : List ByteArray) (k f s : Nat) (a b : ByteArray) (P : List Pair) : Prop where
  eq : W = P ++ stpT (L.drop k) f s a b
  sa32 : a.size = 32
  sb32 : b.size = 32
set_option maxRecDepth 100000 in
theorem StpAt.right {W : List Pair} {L : List ByteArray} {k f s : Nat} {a b p : ByteArray} {P : List Pair} (h : StpAt W L k f s a b P) (hk : k < L.length) (hp : L[k] = p) (hr : Mer.rgt f s = true) : StpAt W L (k + 1) ((dn f s).1 / 2) ((dn f s).2 / 2) (nodeD p a) (nodeD p b) (P ++ [(p, a), (p, b)]) := by
  refine ⟨?_, nodeD_size _ _, nodeD_size _ _⟩
  rw [h.eq, List.drop_eq_getElem_cons hk, hp, stpT, hr, nx_right hr, List.append_assoc]
  rfl
set_option maxRecDepth 100000 in
theorem StpAt.left {W : List Pair} {L : List ByteArray} {k f s : Nat} {a b p : ByteArray} {P : List Pair} (h : StpAt W L k f s a b P) (hk : k < L.length) (hp : L[k] = p) (hr : Mer.rgt f s = false) : StpAt W L (k + 1) (f / 2) (s / 2) a (nodeD b p) (P ++ [(b, p)]) := by
  refine ⟨?_, h.sa32, nodeD_size _ _⟩
  rw [h.eq, List.drop_eq_getElem_cons hk, hp, stpT, hr, nx_left hr, List.append_assoc]
  rfl
/- What stands in a round: what is gathered lies in another block than the hashes. -/
structure KpS (w : World) (g : Nat) (L : List ByteArray) (v : Value) (n : Nat) (P : List Pair) (w' : World) : Prop where
  below : Below w.heap.size w w'
  own : OwnP w' w.heap.size v n P
  sa : SA w' (some ⟨g, 0, none⟩) L
  glt : g < w'.heap.size
  gne : v.ownBlock ≠ some g
set_option maxRecDepth 100000 in
theorem KpS.call {w w' w2 : World} {g : Nat} {L : List ByteArray} {v : Value} {n : Nat} {P : List Pair} (h : Hid (KpS w g L v n P w')) (hb : Below w'.heap.size w' w2) : Hid (KpS w g L v n P w2) :=
  ⟨h.out.below.trans (hb.mono h.out.below.size), ownP_below h.out.own hb, h.out.sa.below hb, Nat.lt_of_lt_of_le h.out.glt hb.size, h.out.gne⟩
theorem KpS.drew {w w' : World} {g : Nat} {L : List ByteArray} {v : Value} {n : Nat} {P : List Pair} (h : Hid (KpS w g L v n P w')) : Hid (KpS w g L v n P w'.drew) := ⟨h.out.below.drew, h.out.own, h.out.sa.drew, h.out.glt, h.out.gne⟩
set_option maxRecDepth 100000 in
theorem KpS.drewN {w w' : World} {g : Nat} {L : List ByteArray} {v : Value} {n : Nat} {P : List Pair} (h : Hid (KpS w g L v n P w')) (k : Nat) : Hid (KpS w g L v n P (w'.drewN k)) := ⟨belowN h.out.below k, h.out.own, h.out.sa.drewN k, h.out.glt, h.out.gne⟩
theorem KpS.app {w w' w2 : World} {g : Nat} {L : List ByteArray} {v v2 : Value} {n n2 : Nat} {P P2 : List Pair} (h : Hid (KpS w g L v n P w')) (ho : OwnP w2 w.heap.size v2 n2 P2) (hg : w'.grownBy w2 v.ownBlock) (hv : v2.ownBlock = v.ownBlock ∨ v2.ownBlock = some w'.heap.size) : Hid (KpS w g L v2 n2 P2 w2) := by
  have hB : Below w.heap.size w' w2 := (Below.refl _ _).grown hg h.out.below.size (fun k hk => (h.out.own.lt k hk).1)
  refine ⟨h.out.below.trans hB, ho, fun k hk => ?_, Nat.lt_of_lt_of_le h.out.glt hg.size, ?_⟩
  · obtain ⟨b, o, e, hc⟩ := h.out.sa k hk
    injection e with e
    injection e with e1 e2
    subst e1 e2
    exact ⟨g, 0, rfl, hg.cell hc (fun e => h.out.gne e.symm)⟩
  · rcases hv with hv | hv
    · rw [hv]; exact h.out.gne
    · rw [hv]
      intro e
      injection e with e
      have := h.out.glt
      omega
set_option maxRecDepth 100000 in
theorem wp_append_pairs_k {W : World} {o : Oper} {a : Act} {K : Act → World → Prop} {Q : Exit → Act → World → Prop} (s x : Operand) (ho : o.op = .call { callee := .builtin .append, args := #[s, x], argTypes := #[37, 37] })
    (base : Nat) (v : Value) (n m : Nat) (l1 l2 : List Pair) (hs : a.eval s = v) (hown : OwnP W base v n l1) (g p c : Nat) (hx : a.eval x = .slice (some ⟨g, p, none⟩) m c) (hl2 : l2.length = m) (hA : PA W g p l2) (hn : n + m ≤ 1000000) (hbase : base ≤ W.heap.size)
    (h : ∀ v' w', OwnP w' base v' (n + m) (l1 ++ l2) → W.grownBy w' v.ownBlock → (v'.ownBlock = v.ownBlock ∨ v'.ownBlock = some W.heap.size) → (v ≠ .slice none 0 0 → v' ≠ .slice none 0 0) → K (a.put o.dst v') w') : Oper.wp Tryd.prog o a W K Q := by
  obtain ⟨i0, hi, hz0, hz1, hz2⟩ := info_parts Tryd.infoPr
  obtain ⟨v', w', hr, h2, h3, h4, h5⟩ := run_append_own_at (P := Tryd.prog) W base 37 o.type 97 i0 (.agg #[.string ⟨#[]⟩, .string ⟨#[]⟩]) 2 32 Tryd.underlying37 hi hz0 hz1 hz2 rfl (by decide) v n (prC l1) hown ⟨g, p, none⟩ m c (prC l2) (by rw [prC_len, hl2])
    (fun j u hj => by rw [Addr.add_lit]; exact hA j u hj) (fun u hu => prC_one _ u hu) (by unfold maxLen; omega) (by omega) hbase
  unfold Oper.wp execOp
  simp only [ho, resolve, invoke, builtin, Sem.run_bind, Sem.run_pure, Result.andThen_ok, List.map_toArray, List.map_cons, List.map_nil, hs, hx, hr]
  exact h v' w' (by show w'.ownsRow _ _ _ _ _ _; rw [prC_app]; exact h2) h3 h5 (fun hv hv' => hv (h4.1 hv').1)
set_option maxRecDepth 100000 in
theorem wpList_append_pairs_k {W : World} {ops : Array Oper} {rest : List Oper} {o : Oper} {a : Act} {Q : Exit → Act → World → Prop} (hgd : o.guard = none) (s x : Operand) (ho : o.op = .call { callee := .builtin .append, args := #[s, x], argTypes := #[37, 37] })
    (base : Nat) (v : Value) (n m : Nat) (l1 l2 : List Pair) (hs : a.eval s = v) (hown : OwnP W base v n l1) (g p c : Nat) (hx : a.eval x = .slice (some ⟨g, p, none⟩) m c) (hl2 : l2.length = m) (hA : PA W g p l2) (hn : n + m ≤ 1000000) (hbase : base ≤ W.heap.size)
    (h : ∀ v' w', OwnP w' base v' (n + m) (l1 ++ l2) → W.grownBy w' v.ownBlock → (v'.ownBlock = v.ownBlock ∨ v'.ownBlock = some W.heap.size) → (v ≠ .slice none 0 0 → v' ≠ .slice none 0 0) → wpList Tryd.prog ops Q rest (a.put o.dst v') w') : wpList Tryd.prog ops Q (o :: rest) a W :=
  wpList_plain hgd fun K hK => wp_append_pairs_k s x ho base v n m l1 l2 hs hown g p c hx hl2 hA hn hbase (fun v' w' k1 k2 k3 k4 => hK _ _ (h v' w' k1 k2 k3 k4))
set_option maxRecDepth 100000 in
theorem lit_pa2 (w : World) (x y : Pair) (t : TypeId) : PA (w.alloc (.cells #[.string x.1, .string x.2, .string y.1, .string y.2] t)) w.heap.size 0 [x, y] := fun j u hj => by
  match j, hj with
  | 0, hj => simp [prC] at hj; subst hj; simp
  | 1, hj => simp [prC] at hj; subst hj; simp
  | 2, hj => simp [prC] at hj; subst hj; simp
  | 3, hj => simp [prC] at hj; subst hj; simp
attribute [local go_sem ↓] Go.wp_at_zero Go.wp_at_succ
set_option maxRecDepth 100000 in
set_option maxHeartbeats 4000000 in
theorem lwSteps_any (old : ByteArray) (f0 n0 F0 S0 : Nat) (pa : Option Addr) (c m : Nat) (ps L : List ByteArray) (w : World) (hm : ps.length = m) (hA : MayS w (.slice pa m c) ps) (h32 : old.size = 32) (hps : ∀ x ∈ ps, x.size = 32) (hmb : m ≤ 400) (hi1 : 1 ≤ f0) (hi : f0 ≤ 1099511627776) (hn1 : 1 ≤ n0) (hn : n0 ≤ 1099511627776) (hFS : Mer.strip (f0 - 1) (n0 - 1) = (F0, S0)) (hL : conLs (f0 : Int) ps old = L) (hL1 : 1 ≤ L.length) :
    Calls Tryd.prog 24 #[.int .i64 (f0 : Int), .int .i64 (n0 : Int), .slice pa m c, .string old] w fun e w' => ∃ v nn, e = .returned v ∧ v ≠ .slice none 0 0 ∧ OwnP w' w.heap.size v nn (stpT (L.drop 1) F0 S0 (L.getD 0 ⟨#[]⟩) (L.getD 0 ⟨#[]⟩)) ∧ Below w.heap.size w w' := by
  have hN0 : ∀ (p r : ByteArray) w0, p.size = 32 → r.size = 32 → Calls Tryd.prog 62 #[.string p, .string r] w0 fun e w' => e = .returned (.string (nodeD p r)) ∧ Below w0.heap.size w0 w' := fun p r w0 e1 e2 => by
    have := specNodeH p r w0 (by rw [e1]; decide) (by rw [e2]; decide)
    rw [show nodeA p r = nodeD p r from if_pos ⟨e1, e2⟩] at this
    exact this
  obtain ⟨W, hW⟩ : ∃ W, stpT (L.drop 1) F0 S0 (L.getD 0 ⟨#[]⟩) (L.getD 0 ⟨#[]⟩) = W := ⟨_, rfl⟩
  rw [hW]
  have HW : Hid (∀ h : 0 < L.length, W = [] ++ stpT (L.drop 1) F0 S0 L[0] L[0]) := fun h => by rw [← hW, List.getD_eq_getElem?_getD, List.getElem?_eq_getElem h]; rfl
  have HFS : Hid (Mer.strip (f0 - 1) (n0 - 1) = (F0, S0)) := hFS
  have HM : Hid (ps.length = m) := hm
  have es : (n0 : Int) - 1 = ((n0 - 1 : Nat) : Int) := by omega
  have ef : (f0 : Int) - 1 = ((f0 - 1 : Nat) : Int) := by omega
  have HP : Hid (∀ k (hk : k < L.length), L[k].size = 32) := fun k hk => by
    have := List.getElem_mem hk
    generalize L[k] = z at *
    rw [← hL] at this
    unfold conLs at this
    split at this
    · rcases List.mem_cons.1 this with e | e
      · rw [e]; exact h32
      · exact hps _ e
    · exact hps _ this
  have B1 : Below w.heap.size w (w.alloc (.cells #[] 97)) := (Below.refl _ _).alloc (Nat.le_refl _) _
  obtain ⟨w1, hw1⟩ : ∃ w1, w.alloc (.cells #[] 97) = w1 := ⟨_, rfl⟩
  have hown1 : OwnP w1 w.heap.size (.slice (some ⟨w.heap.size, 0, none⟩) 0 0) 0 [] := by rw [← hw1]; exact World.ownsRow_made w #[] 0 (Nat.le_refl _) (Nat.zero_le _) rfl
  have z1 : w1.heap.size = w.heap.size + 1 := by rw [← hw1]; exact Array.size_push _
  rw [hw1] at B1
  have B2 : Below w1.heap.size w1 (w1.alloc (.cells #[] 9)) := (Below.refl _ _).alloc (Nat.le_refl _) _
  have HU2 : Hid (MayS (w1.alloc (.cells #[] 9)) (.slice pa m c) ps) := (hA.below B1).below B2
  have HO2 : Hid ((w1.alloc (.cells #[] 9)).ownsRow w1.heap.size 9 1 (.slice (some ⟨w1.heap.size, 0, none⟩) 0 0) 0 (svl [])) := World.ownsRow_made w1 #[] 0 (Nat.le_refl _) (Nat.zero_le _) rfl
  have HB2 : Hid (Below w1.heap.size w1 (w1.alloc (.cells #[] 9))) := B2
  have hz2 : w1.heap.size ≤ (w1.alloc (.cells #[] 9)).heap.size := B2.size
  have HB1 : Hid (Below w.heap.size w w1) := B1
  have HO1 : Hid (OwnP w1 w.heap.size (.slice (some ⟨w.heap.size, 0, none⟩) 0 0) 0 []) := hown1
  have HZ1 : Hid (w1.heap.size = w.heap.size + 1) := z1
  have HV0 : Hid ((.slice (some ⟨w.heap.size, 0, none⟩) 0 0 : Value) ≠ .slice none 0 0) := by show _ ≠ _; simp
  clear hA hW hFS hm hps B1 B2 hown1 z1
  by_cases hpw : pwB f0 = true
  · have e9 : (bits .and .i64 (f0 : Int) ((f0 : Int) - 1) == 0) = true := hpw
    have e9' : (bits .and .i64 (f0 : Int) ((f0 - 1 : Nat) : Int) == 0) = true := by rw [← ef]; exact e9
    have hLe : L = old :: ps := by rw [← hL]; unfold conLs; rw [hpw]; rfl
    as_aux_lemma =>
    clear hL hpw
    go_enter Tryd.func24, Tryd.ntmps24
    go_wp2_with (first
      | (at_builtin; (try simp only [hw1]); refine wpList_append_may rfl _ _ rfl w1.heap.size (.slice (some ⟨w1.heap.size, 0, none⟩) 0 0) 0 m [] ps rfl HO2.out (.slice pa m c) rfl HM.out HU2.out (by omega) hz2 ?_; intro v7 w7 hO7 hB7 hv7; rw [Nat.zero_add, List.nil_append] at hO7; obtain ⟨g7, c7, rfl, hl7, hg7, hc7, hm7, hsa7⟩ := own_some hO7 (hv7 (by simp)); have B7 : Below w1.heap.size w1 w7 := HB2.out.trans hB7; have z7 := B7.size; clear hO7 hB7 hv7)
      | (at_builtin; refine wpList_append_strs rfl _ _ rfl w7.heap.size (.slice (some ⟨w7.heap.size, 0, none⟩) 1 1) 1 m [old] ps rfl (World.ownsRow_lit w7 #[.string old] 1 (Nat.le_refl _) (by unfold maxLen; omega) rfl) g7 0 c7 rfl HM.out (hsa7.below ((Below.refl _ _).alloc (Nat.le_refl _) _)) (by omega) (by simp) ?_; intro v8 w8 hO8 hB8 hv8; obtain ⟨g, c8, rfl, hl8, hg8, hc8, hm8, hsa8⟩ := own_some hO8 (hv8 (by simp)); have B8 : Below w7.heap.size w7 w8 := ((Below.refl _ _).alloc (Nat.le_refl _) _).trans hB8; have hlt8 : g < w8.heap.size := ((hO8.lt g rfl).2)))
    have B18 : Below w1.heap.size w1 w8 := B7.trans (B8.mono z7)
    have HC0 : Hid (KpS w g L (.slice (some ⟨w.heap.size, 0, none⟩) 0 0) 0 [] w8) := ⟨HB1.out.trans (B18.mono HB1.out.size), ownP_below HO1.out B18, by rw [hLe]; exact hsa8, hlt8, by show some _ ≠ some _; intro e; injection e with e; have e' : w.heap.size = g := e; have := HZ1.out; omega⟩
    obtain ⟨N, hNN⟩ : ∃ N, 1 + m = N := ⟨_, rfl⟩
    have HN' : Hid (L.length = N) := by show _ = _; rw [hLe, List.length_cons, HM.out]; omega
    rw [hNN]
    have hNb : N ≤ 401 := by omega
    have hN1 : 1 ≤ N := by omega
    clear B7 B8 B18 hO8 hB8 hv8 hl8 hg8 hc8 hm8 hsa8 hlt8 hl7 hg7 hc7 hm7 hsa7 z7 HO2 HU2 HB2 hz2 HB1 HO1 HZ1 hLe hNN e9 e9' h32 HM
    go_loopw [11, 12] (fun vf vs wx => ∃ (f' s' : Nat), vf = .int .i64 (f' : Int) ∧ vs = .int .i64 (s' : Int) ∧ f' ≤ 1099511627776 ∧ s' ≤ 1099511627776 ∧ Hid (Mer.strip f' s' = (F0, S0)) ∧ w8 = wx) (fun vf _ _ => (intOf vf).toNat)
    case atStart => exact ⟨f0 - 1, n0 - 1, rfl, rfl, by omega, by omega, HFS, rfl⟩
    case round =>
      clear HFS
      obtain ⟨f1, s1, rfl, rfl, hf1, hs1, HD1, rfl⟩ := hrel
      by_cases e1 : f1 % 2 = 1
      · have t1 : ((f1 : Int) % 2 == 1) = true := beq_iff_eq.2 (by omega)
        have HE : Hid (Mer.strip (f1 / 2) (s1 / 2) = (F0, S0)) := by have := HD1.out; rw [strip_go e1] at this; exact this
        clear HD1
        go_wp2
        go_roundw
        case rel => exact ⟨f1 / 2, s1 / 2, by go_num, by go_num, by omega, by omega, HE, trivial⟩
        case measure => simp [intOf]; omega
      have t1 : ((f1 : Int) % 2 == 1) = false := beq_eq_false_iff_ne.2 (by omega)
      have HE : Hid (f1 = F0 ∧ s1 = S0) := by have := HD1.out; rw [strip_stop e1] at this; injection this with a1 a2; exact ⟨a1, a2⟩
      have hL0 : 0 < L.length := by have := HN'.out; omega
      obtain ⟨b0, o0, hb0, hc0⟩ := HC0.out.sa 0 hL0
      injection hb0 with hb0
      injection hb0 with hb1 hb2
      subst hb1 hb2
      have HST2 : Hid (StpAt W L 1 f1 s1 L[0] L[0] []) := by
        have e0 : L[0].size = 32 := HP.out 0 hL0
        refine ⟨?_, e0, e0⟩
        rw [HE.out.1, HE.out.2]
        exact HW.out hL0
      generalize L[0] = x0 at *
      have lN : (0 : Int) < (N : Int) := by omega
      clear HD1 HE e1 hL0
      go_wp2_with fail
      go_quiet (fail)
      go_wp2_with fail
      go_loopw [9, 11, 12, 13, 14, 15] (fun vo vf vs va vb vi wr => ∃ (k f s nn : Nat) (x y : ByteArray) (P : List Pair), vi = .int .i64 (k : Int) ∧ vf = .int .i64 (f : Int) ∧ vs = .int .i64 (s : Int) ∧ va = .string x ∧ vb = .string y ∧ 1 ≤ k ∧ k ≤ N ∧ f ≤ 1099511627776 ∧ s ≤ 1099511627776 ∧ nn ≤ 2 * k ∧ Hid (vo ≠ .slice none 0 0) ∧ Hid (StpAt W L k f s x y P) ∧ Hid (KpS w g L vo nn P wr)) (fun _ _ _ _ _ vi _ => N - (intOf vi).toNat)
      case atStart => exact ⟨1, f1, s1, 0, x0, x0, [], rfl, rfl, rfl, rfl, rfl, Nat.le_refl _, by omega, hf1, hs1, by omega, HV0, HST2, KpS.drewN HC0 _⟩
      case round =>
        clear HST2 hc0 hf1 hs1 t1 HC0 HV0
        obtain ⟨k, f, s, nn, x, y, P, rfl, rfl, rfl, rfl, rfl, hk1, hk, hf, hs, hnn, HVo, HI, HC⟩ := hrel
        have hxs := HI.out.sa32
        have hys := HI.out.sb32
        by_cases hlt : k < N
        · have hkl : k < L.length := by have := HN'.out; omega
          obtain ⟨b1, o1, hb, hc⟩ := HC.out.sa k hkl
          injection hb with hb
          injection hb with hb1 hb2
          subst hb1 hb2
          rw [Nat.zero_add] at hc
          have hps := HP.out k hkl
          have HI2 : Hid (∀ (e2 : Mer.rgt f s = true), StpAt W L (k + 1) ((dn f s).1 / 2) ((dn f s).2 / 2) (nodeD L[k] x) (nodeD L[k] y) (P ++ [(L[k], x), (L[k], y)])) := fun e2 => HI.out.right hkl rfl e2
          have HI3 : Hid (∀ (e2 : Mer.rgt f s = false), StpAt W L (k + 1) (f / 2) (s / 2) x (nodeD y L[k]) (P ++ [(y, L[k])])) := fun e2 => HI.out.left hkl rfl e2
          generalize L[k] = p at *
          have lk : (k : Int) < N := by omega
          have l0 : (0 : Int) ≤ k := by omega
          clear hkl HI
          by_cases hodd : f % 2 = 1
          · as_aux_lemma =>
            have hrg : Mer.rgt f s = true := rgt_odd hodd
            have d5 : ((f : Int) % 2 == 1) = true := beq_iff_eq.2 (by omega)
            clear hodd
            have HI5 : Hid (StpAt W L (k + 1) ((dn f s).1 / 2) ((dn f s).2 / 2) (nodeD p x) (nodeD p y) (P ++ [(p, x), (p, y)])) := HI2.out hrg
            have hN1 : ∀ w0, Calls Tryd.prog 62 #[.string p, .string x] w0 fun e w' => e = .returned (.string (nodeD p x)) ∧ Below w0.heap.size w0 w' := fun w0 => hN0 p x w0 hps hxs
            have hN2 : ∀ w0, Calls Tryd.prog 62 #[.string p, .string y] w0 fun e w' => e = .returned (.string (nodeD p y)) ∧ Below w0.heap.size w0 w' := fun w0 => hN0 p y w0 hps hys
            obtain ⟨F, S, hFS⟩ : ∃ F S, dn f s = (F, S) := ⟨_, _, rfl⟩
            have HD : Hid (dn f s = (F, S)) := hFS
            rw [hFS] at HI5
            generalize nodeD p x = qa at *
            generalize nodeD p y = qb at *
            clear HI2 HI3 hrg hN0 hFS
            have HC1 := KpS.drew HC
            have hSc : wr.drew.cell? ⟨g, k, none⟩ = some (.string p) := hc
            clear HC hc
            go_wp2_with fail
            refine wp_region_held_drew (S := fun w' => w'.cell? ⟨g, k, none⟩ = some (.string p)) (by kernel_rfl) hSc (fun hHeld => ?_)
            generalize wr.drew = wd at *
            refine wpAnyH_take (i := 0) (oi := ⟨_, _, _, _, _, _⟩) (v := u9) rfl (by kernel_rfl) (by kernel_rfl) (by kernel_rfl) (fun _ _ _ h => h) (Or.inl ⟨wn' rfl, fun w' hSw => ?_⟩) hSc ?_
            · go_simp
            try simp only [Act.put, List.setIfInBounds_toArray, List.set_cons_zero, List.set_cons_succ]
            refine wpAnyH_take (i := 1) (oi := ⟨_, _, _, _, _, _⟩) (v := .slice (some ⟨g, 0, none⟩) N c8) rfl (by kernel_rfl) (by kernel_rfl) (by kernel_rfl) (fun _ _ _ h => h) (Or.inl ⟨wn' rfl, fun w' hSw => ?_⟩) hSc ?_
            · go_simp
            try simp only [Act.put, List.setIfInBounds_toArray, List.set_cons_zero, List.set_cons_succ]
            refine wpAnyH_take (i := 2) (oi := ⟨_, _, _, _, _, _⟩) (v := .int .i64 (k : Int)) rfl (by kernel_rfl) (by kernel_rfl) (by kernel_rfl) (fun _ _ _ h => h) (Or.inl ⟨wn' rfl, fun w' hSw => ?_⟩) hSc ?_
            · go_simp
            try simp only [Act.put, List.setIfInBounds_toArray, List.set_cons_zero, List.set_cons_succ]
            refine wpAnyH_take (i := 3) (oi := ⟨_, _, _, _, _, _⟩) (v := .pointer (some ⟨g, k, none⟩)) rfl (by kernel_rfl) (by kernel_rfl) (by kernel_rfl) (fun _ _ _ h => h) (Or.inl ⟨wn' rfl, fun w' hSw => ?_⟩) hSc ?_
            · go_simp
            try simp only [Act.put, List.setIfInBounds_toArray, List.set_cons_zero, List.set_cons_succ]
            refine wpAnyH_take (i := 4) (oi := ⟨_, _, _, _, _, _⟩) (v := .string p) rfl (by kernel_rfl) (by kernel_rfl) (by kernel_rfl) (fun _ _ _ h => h) (Or.inl ⟨wn' rfl, fun w' hSw => ?_⟩) hSc ?_
            · go_simp
            try simp only [Act.put, List.setIfInBounds_toArray, List.set_cons_zero, List.set_cons_succ]
            refine wpAnyH_take (i := 5) (oi := ⟨_, _, _, _, _, _⟩) (v := .string x) rfl (by kernel_rfl) (by kernel_rfl) (by kernel_rfl) (fun _ _ _ h => h) (Or.inl ⟨wn' rfl, fun w' hSw => ?_⟩) hSc ?_
            · go_simp
            try simp only [Act.put, List.setIfInBounds_toArray, List.set_cons_zero, List.set_cons_succ]
            refine wpAnyH_take (i := 6) (oi := ⟨_, _, _, _, _, _⟩) (v := .agg #[.string p, .string x]) rfl (by kernel_rfl) (by kernel_rfl) (by kernel_rfl) (fun _ _ _ h => h) (Or.inl ⟨wn' rfl, fun w' hSw => ?_⟩) hSc ?_
            · go_simp
            try simp only [Act.put, List.setIfInBounds_toArray, List.set_cons_zero, List.set_cons_succ]
            refine wpAnyH_take (i := 7) (oi := ⟨_, _, _, _, _, _⟩) (v := .slice (some ⟨g, 0, none⟩) N c8) rfl (by kernel_rfl) (by kernel_rfl) (by kernel_rfl) (fun _ _ _ h => h) (Or.inl ⟨wn' rfl, fun w' hSw => ?_⟩) hSc ?_
            · go_simp
            try simp only [Act.put, List.setIfInBounds_toArray, List.set_cons_zero, List.set_cons_succ]
            refine wpAnyH_take (i := 8) (oi := ⟨_, _, _, _, _, _⟩) (v := .int .i64 (k : Int)) rfl (by kernel_rfl) (by kernel_rfl) (by kernel_rfl) (fun _ _ _ h => h) (Or.inl ⟨wn' rfl, fun w' hSw => ?_⟩) hSc ?_
            · go_simp
            try simp only [Act.put, List.setIfInBounds_toArray, List.set_cons_zero, List.set_cons_succ]
            refine wpAnyH_take (i := 9) (oi := ⟨_, _, _, _, _, _⟩) (v := .pointer (some ⟨g, k, none⟩)) rfl (by kernel_rfl) (by kernel_rfl) (by kernel_rfl) (fun _ _ _ h => h) (Or.inl ⟨wn' rfl, fun w' hSw => ?_⟩) hSc ?_
            · go_simp
            try simp only [Act.put, List.setIfInBounds_toArray, List.set_cons_zero, List.set_cons_succ]
            refine wpAnyH_take (i := 10) (oi := ⟨_, _, _, _, _, _⟩) (v := .string p) rfl (by kernel_rfl) (by kernel_rfl) (by kernel_rfl) (fun _ _ _ h => h) (Or.inl ⟨wn' rfl, fun w' hSw => ?_⟩) hSc ?_
            · go_simp
            try simp only [Act.put, List.setIfInBounds_toArray, List.set_cons_zero, List.set_cons_succ]
            refine wpAnyH_take (i := 11) (oi := ⟨_, _, _, _, _, _⟩) (v := .string y) rfl (by kernel_rfl) (by kernel_rfl) (by kernel_rfl) (fun _ _ _ h => h) (Or.inl ⟨wn' rfl, fun w' hSw => ?_⟩) hSc ?_
            · go_simp
            try simp only [Act.put, List.setIfInBounds_toArray, List.set_cons_zero, List.set_cons_succ]
            refine wpAnyH_take (i := 12) (oi := ⟨_, _, _, _, _, _⟩) (v := .agg #[.string p, .string y]) rfl (by kernel_rfl) (by kernel_rfl) (by kernel_rfl) (fun _ _ _ h => h) (Or.inl ⟨wn' rfl, fun w' hSw => ?_⟩) hSc ?_
            · go_simp
            try simp only [Act.put, List.setIfInBounds_toArray, List.set_cons_zero, List.set_cons_succ]
            refine wpAnyH_ready (rs := [13]) (by kernel_rfl) (by simp) (AllReadyH.cons (o := ⟨_, _, _, _, _, _⟩) rfl (fun K hK => ?_) AllReadyH.nil)
            rewrite [if_pos (wn' rfl)]
            go_wp2_with fail
            have B3 : Below wd.heap.size wd (wd.alloc (.cells #[.string p, .string x, .string p, .string y] 97)) := (Below.refl _ _).alloc (Nat.le_refl _) _
            have HC3 := KpS.call HC1 B3
            have hp3 : PA (wd.alloc (.cells #[.string p, .string x, .string p, .string y] 97)) wd.heap.size 0 [(p, x), (p, y)] := lit_pa2 wd (p, x) (p, y) 97
            have hS3 : (wd.alloc (.cells #[.string p, .string x, .string p, .string y] 97)).cell? ⟨g, k, none⟩ = some (.string p) := (B3.cell (p := ⟨g, k, none⟩) (cellLt hSc)).trans hSc
            refine hK.out _ _ hS3 (fun _ => ?_)
            clear hK K
            try simp only [Act.put, List.setIfInBounds_toArray, List.set_cons_zero, List.set_cons_succ]
            generalize wd.alloc (.cells #[.string p, .string x, .string p, .string y] 97) = w3 at *
            refine wpAnyH_ready (rs := [14]) (by kernel_rfl) (by simp) (AllReadyH.cons (o := ⟨_, _, _, _, _, _⟩) rfl (fun K hK => ?_) AllReadyH.nil)
            rewrite [if_pos (wn' rfl)]
            with_reducible refine wp_append_pairs_k (.tmp 64) (.tmp 77) (by with_unfolding_all rfl) w.heap.size u9 nn 2 P [(p, x), (p, y)] (by with_unfolding_all rfl) HC3.out.own wd.heap.size 0 2 (by with_unfolding_all rfl) (by with_unfolding_all rfl) hp3 (by omega) HC3.out.below.size ?_
            intro v6 w6 hO6 hG6 hb6 hv6
            have HC6 := KpS.app HC3 hO6 hG6 hb6
            have hS6 : w6.cell? ⟨g, k, none⟩ = some (.string p) := hG6.cell hS3 (fun e => HC3.out.gne e.symm)
            refine hK.out _ _ hS6 (fun _ => ?_)
            clear hK K
            try simp only [Act.put, List.setIfInBounds_toArray, List.set_cons_zero, List.set_cons_succ]
            refine wpAnyH_take (i := 15) (oi := ⟨_, _, _, _, _, _⟩) (v := v6) rfl (by kernel_rfl) (by kernel_rfl) (by kernel_rfl) (fun _ _ _ h => h) (Or.inl ⟨wn' rfl, fun w' hSw => ?_⟩) hS6 ?_
            · go_simp
            try simp only [Act.put, List.setIfInBounds_toArray, List.set_cons_zero, List.set_cons_succ]
            refine wpAnyH_done (by kernel_rfl) ?_ _
            have HV6 : Hid (v6 ≠ .slice none 0 0) := hv6 HVo.out
            clear hO6 hG6 hb6 hv6 HC3 HC1 hp3 hS3 B3 hHeld hSc
            go_wp2_with (first
              | (go_at_call 62; with_reducible refine (hN1 _).mono ?_; rintro e w7 ⟨rfl, hB7⟩; have HC7 := KpS.call HC6 hB7; have hS7 := (hB7.cell (p := ⟨g, k, none⟩) (cellLt hS6)).trans hS6)
              | (go_at_call 62; with_reducible refine (hN2 _).mono ?_; rintro e w8 ⟨rfl, hB8⟩; have HC8 := KpS.call HC7 hB8; clear hB8 hB7 HC7 HC6 hS7 hS6))
            go_loopw [11, 12] (fun vf vs wx => ∃ (f' s' : Nat), vf = .int .i64 (f' : Int) ∧ vs = .int .i64 (s' : Int) ∧ f' ≤ 1099511627776 ∧ s' ≤ 1099511627776 ∧ Hid (dn f' s' = (F, S)) ∧ w8 = wx) (fun vf _ _ => (intOf vf).toNat)
            case atStart => exact ⟨f, s, rfl, rfl, hf, hs, HD, rfl⟩
            case round =>
              clear HD
              obtain ⟨f', s', rfl, rfl, hf', hs', HD', rfl⟩ := hrel
              by_cases e1 : f' % 2 = 0
              · have t1 : ((f' : Int) % 2 == 0) = true := beq_iff_eq.2 (by omega)
                by_cases e2 : f' = 0
                · have t2 : ((f' : Int) != 0) = false := by simp [e2]
                  have t3 : ((f' : Int) == 0) = true := by simp [e2]
                  have HE : Hid (f' = F ∧ s' = S) := by have := HD'.out; rw [dn_stop (Or.inr e2)] at this; injection this with a1 a2; exact ⟨a1, a2⟩
                  clear HD' e1 e2
                  go_wp2
                  go_roundw
                  case rel => exact ⟨k + 1, F / 2, S / 2, nn + 2, qa, qb, P ++ [(p, x), (p, y)], by go_num, by (rw [← HE.out.1]; go_num), by (rw [← HE.out.2]; go_num), rfl, rfl, by omega, hlt, by (have := HE.out.1; omega), by (have := HE.out.2; omega), by omega, HV6, HI5, HC8⟩
                  case measure => simp [intOf]; omega
                · have t2 : ((f' : Int) != 0) = true := by simp; omega
                  have t3 : ((f' : Int) == 0) = false := by simp; omega
                  have HE : Hid (dn (f' / 2) (s' / 2) = (F, S)) := by have := HD'.out; rw [dn_go e1 e2] at this; exact this
                  clear HD' e1
                  go_wp2
                  go_roundw
                  case rel => exact ⟨f' / 2, s' / 2, by go_num, by go_num, by omega, by omega, HE, trivial⟩
                  case measure => simp [intOf]; omega
              · have t1 : ((f' : Int) % 2 == 0) = false := beq_eq_false_iff_ne.2 (by omega)
                have HE : Hid (f' = F ∧ s' = S) := by have := HD'.out; rw [dn_stop (Or.inl (by omega))] at this; injection this with a1 a2; exact ⟨a1, a2⟩
                clear HD' e1
                go_wp2
                go_roundw
                case rel => exact ⟨k + 1, F / 2, S / 2, nn + 2, qa, qb, P ++ [(p, x), (p, y)], by go_num, by (rw [← HE.out.1]; go_num), by (rw [← HE.out.2]; go_num), rfl, rfl, by omega, hlt, by (have := HE.out.1; omega), by (have := HE.out.2; omega), by omega, HV6, HI5, HC8⟩
                case measure => simp [intOf]; omega
          have d5 : ((f : Int) % 2 == 1) = false := beq_eq_false_iff_ne.2 (by omega)
          by_cases hsame : f = s
          · as_aux_lemma =>
            have hrg : Mer.rgt f s = true := rgt_same hsame
            have d6 : ((f : Int) == (s : Int)) = true := beq_iff_eq.2 (by omega)
            clear hodd hsame
            have HI5 : Hid (StpAt W L (k + 1) ((dn f s).1 / 2) ((dn f s).2 / 2) (nodeD p x) (nodeD p y) (P ++ [(p, x), (p, y)])) := HI2.out hrg
            have hN1 : ∀ w0, Calls Tryd.prog 62 #[.string p, .string x] w0 fun e w' => e = .returned (.string (nodeD p x)) ∧ Below w0.heap.size w0 w' := fun w0 => hN0 p x w0 hps hxs
            have hN2 : ∀ w0, Calls Tryd.prog 62 #[.string p, .string y] w0 fun e w' => e = .returned (.string (nodeD p y)) ∧ Below w0.heap.size w0 w' := fun w0 => hN0 p y w0 hps hys
            obtain ⟨F, S, hFS⟩ : ∃ F S, dn f s = (F, S) := ⟨_, _, rfl⟩
            have HD : Hid (dn f s = (F, S)) := hFS
            rw [hFS] at HI5
            generalize nodeD p x = qa at *
            generalize nodeD p y = qb at *
            clear HI2 HI3 hrg hN0 hFS
            have HC1 := KpS.drew HC
            have hSc : wr.drew.cell? ⟨g, k, none⟩ = some (.string p) := hc
            clear HC hc
            go_wp2_with fail
            refine wp_region_held_drew (S := fun w' => w'.cell? ⟨g, k, none⟩ = some (.string p)) (by kernel_rfl) hSc (fun hHeld => ?_)
            generalize wr.drew = wd at *
            refine wpAnyH_take (i := 0) (oi := ⟨_, _, _, _, _, _⟩) (v := u9) rfl (by kernel_rfl) (by kernel_rfl) (by kernel_rfl) (fun _ _ _ h => h) (Or.inl ⟨wn' rfl, fun w' hSw => ?_⟩) hSc ?_
            · go_simp
            try simp only [Act.put, List.setIfInBounds_toArray, List.set_cons_zero, List.set_cons_succ]
            refine wpAnyH_take (i := 1) (oi := ⟨_, _, _, _, _, _⟩) (v := .slice (some ⟨g, 0, none⟩) N c8) rfl (by kernel_rfl) (by kernel_rfl) (by kernel_rfl) (fun _ _ _ h => h) (Or.inl ⟨wn' rfl, fun w' hSw => ?_⟩) hSc ?_
            · go_simp
            try simp only [Act.put, List.setIfInBounds_toArray, List.set_cons_zero, List.set_cons_succ]
            refine wpAnyH_take (i := 2) (oi := ⟨_, _, _, _, _, _⟩) (v := .int .i64 (k : Int)) rfl (by kernel_rfl) (by kernel_rfl) (by kernel_rfl) (fun _ _ _ h => h) (Or.inl ⟨wn' rfl, fun w' hSw => ?_⟩) hSc ?_
            · go_simp
            try simp only [Act.put, List.setIfInBounds_toArray, List.set_cons_zero, List.set_cons_succ]
            refine wpAnyH_take (i := 3) (oi := ⟨_, _, _, _, _, _⟩) (v := .pointer (some ⟨g, k, none⟩)) rfl (by kernel_rfl) (by kernel_rfl) (by kernel_rfl) (fun _ _ _ h => h) (Or.inl ⟨wn' rfl, fun w' hSw => ?_⟩) hSc ?_
            · go_simp
            try simp only [Act.put, List.setIfInBounds_toArray, List.set_cons_zero, List.set_cons_succ]
            refine wpAnyH_take (i := 4) (oi := ⟨_, _, _, _, _, _⟩) (v := .string p) rfl (by kernel_rfl) (by kernel_rfl) (by kernel_rfl) (fun _ _ _ h => h) (Or.inl ⟨wn' rfl, fun w' hSw => ?_⟩) hSc ?_
            · go_simp
            try simp only [Act.put, List.setIfInBounds_toArray, List.set_cons_zero, List.set_cons_succ]
            refine wpAnyH_take (i := 5) (oi := ⟨_, _, _, _, _, _⟩) (v := .string x) rfl (by kernel_rfl) (by kernel_rfl) (by kernel_rfl) (fun _ _ _ h => h) (Or.inl ⟨wn' rfl, fun w' hSw => ?_⟩) hSc ?_
            · go_simp
            try simp only [Act.put, List.setIfInBounds_toArray, List.set_cons_zero, List.set_cons_succ]
            refine wpAnyH_take (i := 6) (oi := ⟨_, _, _, _, _, _⟩) (v := .agg #[.string p, .string x]) rfl (by kernel_rfl) (by kernel_rfl) (by kernel_rfl) (fun _ _ _ h => h) (Or.inl ⟨wn' rfl, fun w' hSw => ?_⟩) hSc ?_
            · go_simp
            try simp only [Act.put, List.setIfInBounds_toArray, List.set_cons_zero, List.set_cons_succ]
            refine wpAnyH_take (i := 7) (oi := ⟨_, _, _, _, _, _⟩) (v := .slice (some ⟨g, 0, none⟩) N c8) rfl (by kernel_rfl) (by kernel_rfl) (by kernel_rfl) (fun _ _ _ h => h) (Or.inl ⟨wn' rfl, fun w' hSw => ?_⟩) hSc ?_
            · go_simp
            try simp only [Act.put, List.setIfInBounds_toArray, List.set_cons_zero, List.set_cons_succ]
            refine wpAnyH_take (i := 8) (oi := ⟨_, _, _, _, _, _⟩) (v := .int .i64 (k : Int)) rfl (by kernel_rfl) (by kernel_rfl) (by kernel_rfl) (fun _ _ _ h => h) (Or.inl ⟨wn' rfl, fun w' hSw => ?_⟩) hSc ?_
            · go_simp
            try simp only [Act.put, List.setIfInBounds_toArray, List.set_cons_zero, List.set_cons_succ]
            refine wpAnyH_take (i := 9) (oi := ⟨_, _, _, _, _, _⟩) (v := .pointer (some ⟨g, k, none⟩)) rfl (by kernel_rfl) (by kernel_rfl) (by kernel_rfl) (fun _ _ _ h => h) (Or.inl ⟨wn' rfl, fun w' hSw => ?_⟩) hSc ?_
            · go_simp
            try simp only [Act.put, List.setIfInBounds_toArray, List.set_cons_zero, List.set_cons_succ]
            refine wpAnyH_take (i := 10) (oi := ⟨_, _, _, _, _, _⟩) (v := .string p) rfl (by kernel_rfl) (by kernel_rfl) (by kernel_rfl) (fun _ _ _ h => h) (Or.inl ⟨wn' rfl, fun w' hSw => ?_⟩) hSc ?_
            · go_simp
            try simp only [Act.put, List.setIfInBounds_toArray, List.set_cons_zero, List.set_cons_succ]
            refine wpAnyH_take (i := 11) (oi := ⟨_, _, _, _, _, _⟩) (v := .string y) rfl (by kernel_rfl) (by kernel_rfl) (by kernel_rfl) (fun _ _ _ h => h) (Or.inl ⟨wn' rfl, fun w' hSw => ?_⟩) hSc ?_
            · go_simp
            try simp only [Act.put, List.setIfInBounds_toArray, List.set_cons_zero, List.set_cons_succ]
            refine wpAnyH_take (i := 12) (oi := ⟨_, _, _, _, _, _⟩) (v := .agg #[.string p, .string y]) rfl (by kernel_rfl) (by kernel_rfl) (by kernel_rfl) (fun _ _ _ h => h) (Or.inl ⟨wn' rfl, fun w' hSw => ?_⟩) hSc ?_
            · go_simp
            try simp only [Act.put, List.setIfInBounds_toArray, List.set_cons_zero, List.set_cons_succ]
            refine wpAnyH_ready (rs := [13]) (by kernel_rfl) (by simp) (AllReadyH.cons (o := ⟨_, _, _, _, _, _⟩) rfl (fun K hK => ?_) AllReadyH.nil)
            rewrite [if_pos (wn' rfl)]
            go_wp2_with fail
            have B3 : Below wd.heap.size wd (wd.alloc (.cells #[.string p, .string x, .string p, .string y] 97)) := (Below.refl _ _).alloc (Nat.le_refl _) _
            have HC3 := KpS.call HC1 B3
            have hp3 : PA (wd.alloc (.cells #[.string p, .string x, .string p, .string y] 97)) wd.heap.size 0 [(p, x), (p, y)] := lit_pa2 wd (p, x) (p, y) 97
            have hS3 : (wd.alloc (.cells #[.string p, .string x, .string p, .string y] 97)).cell? ⟨g, k, none⟩ = some (.string p) := (B3.cell (p := ⟨g, k, none⟩) (cellLt hSc)).trans hSc
            refine hK.out _ _ hS3 (fun _ => ?_)
            clear hK K
            try simp only [Act.put, List.setIfInBounds_toArray, List.set_cons_zero, List.set_cons_succ]
            generalize wd.alloc (.cells #[.string p, .string x, .string p, .string y] 97) = w3 at *
            refine wpAnyH_ready (rs := [14]) (by kernel_rfl) (by simp) (AllReadyH.cons (o := ⟨_, _, _, _, _, _⟩) rfl (fun K hK => ?_) AllReadyH.nil)
            rewrite [if_pos (wn' rfl)]
            with_reducible refine wp_append_pairs_k (.tmp 64) (.tmp 77) (by with_unfolding_all rfl) w.heap.size u9 nn 2 P [(p, x), (p, y)] (by with_unfolding_all rfl) HC3.out.own wd.heap.size 0 2 (by with_unfolding_all rfl) (by with_unfolding_all rfl) hp3 (by omega) HC3.out.below.size ?_
            intro v6 w6 hO6 hG6 hb6 hv6
            have HC6 := KpS.app HC3 hO6 hG6 hb6
            have hS6 : w6.cell? ⟨g, k, none⟩ = some (.string p) := hG6.cell hS3 (fun e => HC3.out.gne e.symm)
            refine hK.out _ _ hS6 (fun _ => ?_)
            clear hK K
            try simp only [Act.put, List.setIfInBounds_toArray, List.set_cons_zero, List.set_cons_succ]
            refine wpAnyH_take (i := 15) (oi := ⟨_, _, _, _, _, _⟩) (v := v6) rfl (by kernel_rfl) (by kernel_rfl) (by kernel_rfl) (fun _ _ _ h => h) (Or.inl ⟨wn' rfl, fun w' hSw => ?_⟩) hS6 ?_
            · go_simp
            try simp only [Act.put, List.setIfInBounds_toArray, List.set_cons_zero, List.set_cons_succ]
            refine wpAnyH_done (by kernel_rfl) ?_ _
            have HV6 : Hid (v6 ≠ .slice none 0 0) := hv6 HVo.out
            clear hO6 hG6 hb6 hv6 HC3 HC1 hp3 hS3 B3 hHeld hSc
            go_wp2_with (first
              | (go_at_call 62; with_reducible refine (hN1 _).mono ?_; rintro e w7 ⟨rfl, hB7⟩; have HC7 := KpS.call HC6 hB7; have hS7 := (hB7.cell (p := ⟨g, k, none⟩) (cellLt hS6)).trans hS6)
              | (go_at_call 62; with_reducible refine (hN2 _).mono ?_; rintro e w8 ⟨rfl, hB8⟩; have HC8 := KpS.call HC7 hB8; clear hB8 hB7 HC7 HC6 hS7 hS6))
            go_loopw [11, 12] (fun vf vs wx => ∃ (f' s' : Nat), vf = .int .i64 (f' : Int) ∧ vs = .int .i64 (s' : Int) ∧ f' ≤ 1099511627776 ∧ s' ≤ 1099511627776 ∧ Hid (dn f' s' = (F, S)) ∧ w8 = wx) (fun vf _ _ => (intOf vf).toNat)
            case atStart => exact ⟨f, s, rfl, rfl, hf, hs, HD, rfl⟩
            case round =>
              clear HD
              obtain ⟨f', s', rfl, rfl, hf', hs', HD', rfl⟩ := hrel
              by_cases e1 : f' % 2 = 0
              · have t1 : ((f' : Int) % 2 == 0) = true := beq_iff_eq.2 (by omega)
                by_cases e2 : f' = 0
                · have t2 : ((f' : Int) != 0) = false := by simp [e2]
                  have t3 : ((f' : Int) == 0) = true := by simp [e2]
                  have HE : Hid (f' = F ∧ s' = S) := by have := HD'.out; rw [dn_stop (Or.inr e2)] at this; injection this with a1 a2; exact ⟨a1, a2⟩
                  clear HD' e1 e2
                  go_wp2
                  go_roundw
                  case rel => exact ⟨k + 1, F / 2, S / 2, nn + 2, qa, qb, P ++ [(p, x), (p, y)], by go_num, by (rw [← HE.out.1]; go_num), by (rw [← HE.out.2]; go_num), rfl, rfl, by omega, hlt, by (have := HE.out.1; omega), by (have := HE.out.2; omega), by omega, HV6, HI5, HC8⟩
                  case measure => simp [intOf]; omega
                · have t2 : ((f' : Int) != 0) = true := by simp; omega
                  have t3 : ((f' : Int) == 0) = false := by simp; omega
                  have HE : Hid (dn (f' / 2) (s' / 2) = (F, S)) := by have := HD'.out; rw [dn_go e1 e2] at this; exact this
                  clear HD' e1
                  go_wp2
                  go_roundw
                  case rel => exact ⟨f' / 2, s' / 2, by go_num, by go_num, by omega, by omega, HE, trivial⟩
                  case measure => simp [intOf]; omega
              · have t1 : ((f' : Int) % 2 == 0) = false := beq_eq_false_iff_ne.2 (by omega)
                have HE : Hid (f' = F ∧ s' = S) := by have := HD'.out; rw [dn_stop (Or.inl (by omega))] at this; injection this with a1 a2; exact ⟨a1, a2⟩
                clear HD' e1
                go_wp2
                go_roundw
                case rel => exact ⟨k + 1, F / 2, S / 2, nn + 2, qa, qb, P ++ [(p, x), (p, y)], by go_num, by (rw [← HE.out.1]; go_num), by (rw [← HE.out.2]; go_num), rfl, rfl, by omega, hlt, by (have := HE.out.1; omega), by (have := HE.out.2; omega), by omega, HV6, HI5, HC8⟩
                case measure => simp [intOf]; omega
          · as_aux_lemma =>
            have HI5 : Hid (StpAt W L (k + 1) (f / 2) (s / 2) x (nodeD y p) (P ++ [(y, p)])) := HI3.out (rgt_not hodd hsame)
            have d6 : ((f : Int) == (s : Int)) = false := beq_eq_false_iff_ne.2 (by omega)
            have hN1 : ∀ w0, Calls Tryd.prog 62 #[.string y, .string p] w0 fun e w' => e = .returned (.string (nodeD y p)) ∧ Below w0.heap.size w0 w' := fun w0 => hN0 y p w0 hys hps
            have B3 : Below wr.heap.size wr (wr.alloc (.cells #[.string y, .string p] 97)) := (Below.refl _ _).alloc (Nat.le_refl _) _
            have HC3 := KpS.call HC B3
            have HP3 : Hid (PA (wr.alloc (.cells #[.string y, .string p] 97)) wr.heap.size 0 [(y, p)]) := lit_pa wr (y, p) 97
            generalize nodeD y p = qb at *
            have hcc := hc
            clear HI2 HI3 hN0 hodd hsame B3
            go_wp2_with (first
              | (at_builtin; refine wpList_append_pairs_k rfl _ _ rfl w.heap.size u9 nn 1 P [(y, p)] rfl HC3.out.own wr.heap.size 0 1 rfl rfl HP3.out (by omega) HC3.out.below.size ?_; intro v6 w6 hO6 hG6 hb6 hv6; have HC6 := KpS.app HC3 hO6 hG6 hb6; have hS6 : w6.cell? ⟨g, k, none⟩ = some (.string p) := hG6.cell (((Below.refl wr.heap.size wr).alloc (Nat.le_refl _) _).cell (p := ⟨g, k, none⟩) (cellLt hcc) |>.trans hcc) (fun e => HC3.out.gne e.symm); have HV6 : Hid (v6 ≠ .slice none 0 0) := hv6 HVo.out; clear hO6 hG6 hb6 hv6)
              | (go_at_call 62; refine (hN1 _).mono ?_; rintro e w7 ⟨rfl, hB7⟩; have HC8 := KpS.call HC6 hB7))
            go_roundw
            case rel => exact ⟨k + 1, f / 2, s / 2, nn + 1, x, qb, P ++ [(y, p)], by go_num, by go_num, by go_num, rfl, rfl, by omega, hlt, by omega, by omega, by omega, HV6, HI5, HC8⟩
            case measure => simp [intOf]; omega
        · obtain rfl : k = N := by omega
          have HR : Hid (W = P) := by
            show _ = _
            rw [HI.out.eq, List.drop_of_length_le (by have := HN'.out; omega)]
            exact List.append_nil _
          clear HI
          go_wp2
          go_ret
          refine ⟨_, nn, rfl, HVo.out, ?_, HC.out.below⟩
          rw [HR.out]
          exact HC.out.own
  · have hpw' : pwB f0 = false := by simpa using hpw
    have e9 : (bits .and .i64 (f0 : Int) ((f0 : Int) - 1) == 0) = false := hpw'
    have e9' : (bits .and .i64 (f0 : Int) ((f0 - 1 : Nat) : Int) == 0) = false := by rw [← ef]; exact e9
    have hLe : L = ps := by rw [← hL]; unfold conLs; rw [hpw']; rfl
    as_aux_lemma =>
    subst hLe
    clear hL hpw hpw'
    have hm1 : 1 ≤ m := by have := HM.out; omega
    have m0 : ((m : Int) == 0) = false := beq_eq_false_iff_ne.2 (by omega)
    go_enter Tryd.func24, Tryd.ntmps24
    go_wp2_with (first
      | (at_builtin; (try simp only [hw1]); refine wpList_append_may rfl _ _ rfl w1.heap.size (.slice (some ⟨w1.heap.size, 0, none⟩) 0 0) 0 m [] L rfl HO2.out (.slice pa m c) rfl HM.out HU2.out (by omega) hz2 ?_; intro v8 w8 hO8 hB8 hv8; rw [Nat.zero_add, List.nil_append] at hO8; obtain ⟨g, c8, rfl, hl8, hg8, hc8, hm8, hsa8⟩ := own_some hO8 (hv8 (by simp)); have B18 : Below w1.heap.size w1 w8 := HB2.out.trans hB8; have hlt8 : g < w8.heap.size := ((hO8.lt g rfl).2)))
    have HC0 : Hid (KpS w g L (.slice (some ⟨w.heap.size, 0, none⟩) 0 0) 0 [] w8) := ⟨HB1.out.trans (B18.mono HB1.out.size), ownP_below HO1.out B18, hsa8, hlt8, by show some _ ≠ some _; intro e; injection e with e; have e' : w.heap.size = g := e; have := HZ1.out; omega⟩
    have HN' : Hid (L.length = m) := HM.out
    clear B18 hO8 hB8 hv8 hl8 hg8 hc8 hm8 hsa8 hlt8 HO2 HU2 HB2 hz2 HB1 HO1 HZ1 e9 e9' h32 HM
    go_loopw [11, 12] (fun vf vs wx => ∃ (f' s' : Nat), vf = .int .i64 (f' : Int) ∧ vs = .int .i64 (s' : Int) ∧ f' ≤ 1099511627776 ∧ s' ≤ 1099511627776 ∧ Hid (Mer.strip f' s' = (F0, S0)) ∧ w8 = wx) (fun vf _ _ => (intOf vf).toNat)
    case atStart => exact ⟨f0 - 1, n0 - 1, rfl, rfl, by omega, by omega, HFS, rfl⟩
    case round =>
      clear HFS
      obtain ⟨f1, s1, rfl, rfl, hf1, hs1, HD1, rfl⟩ := hrel
      by_cases e1 : f1 % 2 = 1
      · have t1 : ((f1 : Int) % 2 == 1) = true := beq_iff_eq.2 (by omega)
        have HE : Hid (Mer.strip (f1 / 2) (s1 / 2) = (F0, S0)) := by have := HD1.out; rw [strip_go e1] at this; exact this
        clear HD1
        go_wp2
        go_roundw
        case rel => exact ⟨f1 / 2, s1 / 2, by go_num, by go_num, by omega, by omega, HE, trivial⟩
        case measure => simp [intOf]; omega
      have t1 : ((f1 : Int) % 2 == 1) = false := beq_eq_false_iff_ne.2 (by omega)
      have HE : Hid (f1 = F0 ∧ s1 = S0) := by have := HD1.out; rw [strip_stop e1] at this; injection this with a1 a2; exact ⟨a1, a2⟩
      have hL0 : 0 < L.length := by have := HN'.out; omega
      obtain ⟨b0, o0, hb0, hc0⟩ := HC0.out.sa 0 hL0
      injection hb0 with hb0
      injection hb0 with hb1 hb2
      subst hb1 hb2
      have HST2 : Hid (StpAt W L 1 f1 s1 L[0] L[0] []) := by
        have e0 : L[0].size = 32 := HP.out 0 hL0
        refine ⟨?_, e0, e0⟩
        rw [HE.out.1, HE.out.2]
        exact HW.out hL0
      generalize L[0] = x0 at *
      have lN : (0 : Int) < (m : Int) := by omega
      clear HD1 HE e1 hL0
      go_wp2_with fail
      go_quiet (fail)
      go_wp2_with fail
      go_loopw [9, 11, 12, 13, 14, 15] (fun vo vf vs va vb vi wr => ∃ (k f s nn : Nat) (x y : ByteArray) (P : List Pair), vi = .int .i64 (k : Int) ∧ vf = .int .i64 (f : Int) ∧ vs = .int .i64 (s : Int) ∧ va = .string x ∧ vb = .string y ∧ 1 ≤ k ∧ k ≤ m ∧ f ≤ 1099511627776 ∧ s ≤ 1099511627776 ∧ nn ≤ 2 * k ∧ Hid (vo ≠ .slice none 0 0) ∧ Hid (StpAt W L k f s x y P) ∧ Hid (KpS w g L vo nn P wr)) (fun _ _ _ _ _ vi _ => m - (intOf vi).toNat)
      case atStart => exact ⟨1, f1, s1, 0, x0, x0, [], rfl, rfl, rfl, rfl, rfl, Nat.le_refl _, by omega, hf1, hs1, by omega, HV0, HST2, KpS.drewN HC0 _⟩
      case round =>
        clear HST2 hc0 hf1 hs1 t1 HC0 HV0
        obtain ⟨k, f, s, nn, x, y, P, rfl, rfl, rfl, rfl, rfl, hk1, hk, hf, hs, hnn, HVo, HI, HC⟩ := hrel
        have hxs := HI.out.sa32
        have hys := HI.out.sb32
        by_cases hlt : k < m
        · have hkl : k < L.length := by have := HN'.out; omega
          obtain ⟨b1, o1, hb, hc⟩ := HC.out.sa k hkl
          injection hb with hb
          injection hb with hb1 hb2
          subst hb1 hb2
          rw [Nat.zero_add] at hc
          have hps := HP.out k hkl
          have HI2 : Hid (∀ (e2 : Mer.rgt f s = true), StpAt W L (k + 1) ((dn f s).1 / 2) ((dn f s).2 / 2) (nodeD L[k] x) (nodeD L[k] y) (P ++ [(L[k], x), (L[k], y)])) := fun e2 => HI.out.right hkl rfl e2
          have HI3 : Hid (∀ (e2 : Mer.rgt f s = false), StpAt W L (k + 1) (f / 2) (s / 2) x (nodeD y L[k]) (P ++ [(y, L[k])])) := fun e2 => HI.out.left hkl rfl e2
          generalize L[k] = p at *
          have lk : (k : Int) < m := by omega
          have l0 : (0 : Int) ≤ k := by omega
          clear hkl HI
          by_cases hodd : f % 2 = 1
          · as_aux_lemma =>
            have hrg : Mer.rgt f s = true := rgt_odd hodd
            have d5 : ((f : Int) % 2 == 1) = true := beq_iff_eq.2 (by omega)
            clear hodd
            have HI5 : Hid (StpAt W L (k + 1) ((dn f s).1 / 2) ((dn f s).2 / 2) (nodeD p x) (nodeD p y) (P ++ [(p, x), (p, y)])) := HI2.out hrg
            have hN1 : ∀ w0, Calls Tryd.prog 62 #[.string p, .string x] w0 fun e w' => e = .returned (.string (nodeD p x)) ∧ Below w0.heap.size w0 w' := fun w0 => hN0 p x w0 hps hxs
            have hN2 : ∀ w0, Calls Tryd.prog 62 #[.string p, .string y] w0 fun e w' => e = .returned (.string (nodeD p y)) ∧ Below w0.heap.size w0 w' := fun w0 => hN0 p y w0 hps hys
            obtain ⟨F, S, hFS⟩ : ∃ F S, dn f s = (F, S) := ⟨_, _, rfl⟩
            have HD : Hid (dn f s = (F, S)) := hFS
            rw [hFS] at HI5
            generalize nodeD p x = qa at *
            generalize nodeD p y = qb at *
            clear HI2 HI3 hrg hN0 hFS
            have HC1 := KpS.drew HC
            have hSc : wr.drew.cell? ⟨g, k, none⟩ = some (.string p) := hc
            clear HC hc
            go_wp2_with fail
            refine wp_region_held_drew (S := fun w' => w'.cell? ⟨g, k, none⟩ = some (.string p)) (by kernel_rfl) hSc (fun hHeld => ?_)
            generalize wr.drew = wd at *
            refine wpAnyH_take (i := 0) (oi := ⟨_, _, _, _, _, _⟩) (v := u9) rfl (by kernel_rfl) (by kernel_rfl) (by kernel_rfl) (fun _ _ _ h => h) (Or.inl ⟨wn' rfl, fun w' hSw => ?_⟩) hSc ?_
            · go_simp
            try simp only [Act.put, List.setIfInBounds_toArray, List.set_cons_zero, List.set_cons_succ]
            refine wpAnyH_take (i := 1) (oi := ⟨_, _, _, _, _, _⟩) (v := .slice (some ⟨g, 0, none⟩) m c8) rfl (by kernel_rfl) (by kernel_rfl) (by kernel_rfl) (fun _ _ _ h => h) (Or.inl ⟨wn' rfl, fun w' hSw => ?_⟩) hSc ?_
            · go_simp
            try simp only [Act.put, List.setIfInBounds_toArray, List.set_cons_zero, List.set_cons_succ]
            refine wpAnyH_take (i := 2) (oi := ⟨_, _, _, _, _, _⟩) (v := .int .i64 (k : Int)) rfl (by kernel_rfl) (by kernel_rfl) (by kernel_rfl) (fun _ _ _ h => h) (Or.inl ⟨wn' rfl, fun w' hSw => ?_⟩) hSc ?_
            · go_simp
            try simp only [Act.put, List.setIfInBounds_toArray, List.set_cons_zero, List.set_cons_succ]
            refine wpAnyH_take (i := 3) (oi := ⟨_, _, _, _, _, _⟩) (v := .pointer (some ⟨g, k, none⟩)) rfl (by kernel_rfl) (by kernel_rfl) (by kernel_rfl) (fun _ _ _ h => h) (Or.inl ⟨wn' rfl, fun w' hSw => ?_⟩) hSc ?_
            · go_simp
            try simp only [Act.put, List.setIfInBounds_toArray, List.set_cons_zero, List.set_cons_succ]
            refine wpAnyH_take (i := 4) (oi := ⟨_, _, _, _, _, _⟩) (v := .string p) rfl (by kernel_rfl) (by kernel_rfl) (by kernel_rfl) (fun _ _ _ h => h) (Or.inl ⟨wn' rfl, fun w' hSw => ?_⟩) hSc ?_
            · go_simp
            try simp only [Act.put, List.setIfInBounds_toArray, List.set_cons_zero, List.set_cons_succ]
            refine wpAnyH_take (i := 5) (oi := ⟨_, _, _, _, _, _⟩) (v := .string x) rfl (by kernel_rfl) (by kernel_rfl) (by kernel_rfl) (fun _ _ _ h => h) (Or.inl ⟨wn' rfl, fun w' hSw => ?_⟩) hSc ?_
            · go_simp
            try simp only [Act.put, List.setIfInBounds_toArray, List.set_cons_zero, List.set_cons_succ]
            refine wpAnyH_take (i := 6) (oi := ⟨_, _, _, _, _, _⟩) (v := .agg #[.string p, .string x]) rfl (by kernel_rfl) (by kernel_rfl) (by kernel_rfl) (fun _ _ _ h => h) (Or.inl ⟨wn' rfl, fun w' hSw => ?_⟩) hSc ?_
            · go_simp
            try simp only [Act.put, List.setIfInBounds_toArray, List.set_cons_zero, List.set_cons_succ]
            refine wpAnyH_take (i := 7) (oi := ⟨_, _, _, _, _, _⟩) (v := .slice (some ⟨g, 0, none⟩) m c8) rfl (by kernel_rfl) (by kernel_rfl) (by kernel_rfl) (fun _ _ _ h => h) (Or.inl ⟨wn' rfl, fun w' hSw => ?_⟩) hSc ?_
            · go_simp
            try simp only [Act.put, List.setIfInBounds_toArray, List.set_cons_zero, List.set_cons_succ]
            refine wpAnyH_take (i := 8) (oi := ⟨_, _, _, _, _, _⟩) (v := .int .i64 (k : Int)) rfl (by kernel_rfl) (by kernel_rfl) (by kernel_rfl) (fun _ _ _ h => h) (Or.inl ⟨wn' rfl, fun w' hSw => ?_⟩) hSc ?_
            · go_simp
            try simp only [Act.put, List.setIfInBounds_toArray, List.set_cons_zero, List.set_cons_succ]
            refine wpAnyH_take (i := 9) (oi := ⟨_, _, _, _, _, _⟩) (v := .pointer (some ⟨g, k, none⟩)) rfl (by kernel_rfl) (by kernel_rfl) (by kernel_rfl) (fun _ _ _ h => h) (Or.inl ⟨wn' rfl, fun w' hSw => ?_⟩) hSc ?_
            · go_simp
            try simp only [Act.put, List.setIfInBounds_toArray, List.set_cons_zero, List.set_cons_succ]
            refine wpAnyH_take (i := 10) (oi := ⟨_, _, _, _, _, _⟩) (v := .string p) rfl (by kernel_rfl) (by kernel_rfl) (by kernel_rfl) (fun _ _ _ h => h) (Or.inl ⟨wn' rfl, fun w' hSw => ?_⟩) hSc ?_
            · go_simp
            try simp only [Act.put, List.setIfInBounds_toArray, List.set_cons_zero, List.set_cons_succ]
            refine wpAnyH_take (i := 11) (oi := ⟨_, _, _, _, _, _⟩) (v := .string y) rfl (by kernel_rfl) (by kernel_rfl) (by kernel_rfl) (fun _ _ _ h => h) (Or.inl ⟨wn' rfl, fun w' hSw => ?_⟩) hSc ?_
            · go_simp
            try simp only [Act.put, List.setIfInBounds_toArray, List.set_cons_zero, List.set_cons_succ]
            refine wpAnyH_take (i := 12) (oi := ⟨_, _, _, _, _, _⟩) (v := .agg #[.string p, .string y]) rfl (by kernel_rfl) (by kernel_rfl) (by kernel_rfl) (fun _ _ _ h => h) (Or.inl ⟨wn' rfl, fun w' hSw => ?_⟩) hSc ?_
            · go_simp
            try simp only [Act.put, List.setIfInBounds_toArray, List.set_cons_zero, List.set_cons_succ]
            refine wpAnyH_ready (rs := [13]) (by kernel_rfl) (by simp) (AllReadyH.cons (o := ⟨_, _, _, _, _, _⟩) rfl (fun K hK => ?_) AllReadyH.nil)
            rewrite [if_pos (wn' rfl)]
            go_wp2_with fail
            have B3 : Below wd.heap.size wd (wd.alloc (.cells #[.string p, .string x, .string p, .string y] 97)) := (Below.refl _ _).alloc (Nat.le_refl _) _
            have HC3 := KpS.call HC1 B3
            have hp3 : PA (wd.alloc (.cells #[.string p, .string x, .string p, .string y] 97)) wd.heap.size 0 [(p, x), (p, y)] := lit_pa2 wd (p, x) (p, y) 97
            have hS3 : (wd.alloc (.cells #[.string p, .string x, .string p, .string y] 97)).cell? ⟨g, k, none⟩ = some (.string p) := (B3.cell (p := ⟨g, k, none⟩) (cellLt hSc)).trans hSc
            refine hK.out _ _ hS3 (fun _ => ?_)
            clear hK K
            try simp only [Act.put, List.setIfInBounds_toArray, List.set_cons_zero, List.set_cons_succ]
            generalize wd.alloc (.cells #[.string p, .string x, .string p, .string y] 97) = w3 at *
            refine wpAnyH_ready (rs := [14]) (by kernel_rfl) (by simp) (AllReadyH.cons (o := ⟨_, _, _, _, _, _⟩) rfl (fun K hK => ?_) AllReadyH.nil)
            rewrite [if_pos (wn' rfl)]
            with_reducible refine wp_append_pairs_k (.tmp 64) (.tmp 77) (by with_unfolding_all rfl) w.heap.size u9 nn 2 P [(p, x), (p, y)] (by with_unfolding_all rfl) HC3.out.own wd.heap.size 0 2 (by with_unfolding_all rfl) (by with_unfolding_all rfl) hp3 (by omega) HC3.out.below.size ?_
            intro v6 w6 hO6 hG6 hb6 hv6
            have HC6 := KpS.app HC3 hO6 hG6 hb6
            have hS6 : w6.cell? ⟨g, k, none⟩ = some (.string p) := hG6.cell hS3 (fun e => HC3.out.gne e.symm)
            refine hK.out _ _ hS6 (fun _ => ?_)
            clear hK K
            try simp only [Act.put, List.setIfInBounds_toArray, List.set_cons_zero, List.set_cons_succ]
            refine wpAnyH_take (i := 15) (oi := ⟨_, _, _, _, _, _⟩) (v := v6) rfl (by kernel_rfl) (by kernel_rfl) (by kernel_rfl) (fun _ _ _ h => h) (Or.inl ⟨wn' rfl, fun w' hSw => ?_⟩) hS6 ?_
            · go_simp
            try simp only [Act.put, List.setIfInBounds_toArray, List.set_cons_zero, List.set_cons_succ]
            refine wpAnyH_done (by kernel_rfl) ?_ _
            have HV6 : Hid (v6 ≠ .slice none 0 0) := hv6 HVo.out
            clear hO6 hG6 hb6 hv6 HC3 HC1 hp3 hS3 B3 hHeld hSc
            go_wp2_with (first
              | (go_at_call 62; with_reducible refine (hN1 _).mono ?_; rintro e w7 ⟨rfl, hB7⟩; have HC7 := KpS.call HC6 hB7; have hS7 := (hB7.cell (p := ⟨g, k, none⟩) (cellLt hS6)).trans hS6)
              | (go_at_call 62; with_reducible refine (hN2 _).mono ?_; rintro e w8 ⟨rfl, hB8⟩; have HC8 := KpS.call HC7 hB8; clear hB8 hB7 HC7 HC6 hS7 hS6))
            go_loopw [11, 12] (fun vf vs wx => ∃ (f' s' : Nat), vf = .int .i64 (f' : Int) ∧ vs = .int .i64 (s' : Int) ∧ f' ≤ 1099511627776 ∧ s' ≤ 1099511627776 ∧ Hid (dn f' s' = (F, S)) ∧ w8 = wx) (fun vf _ _ => (intOf vf).toNat)
            case atStart => exact ⟨f, s, rfl, rfl, hf, hs, HD, rfl⟩
            case round =>
              clear HD
              obtain ⟨f', s', rfl, rfl, hf', hs', HD', rfl⟩ := hrel
              by_cases e1 : f' % 2 = 0
              · have t1 : ((f' : Int) % 2 == 0) = true := beq_iff_eq.2 (by omega)
                by_cases e2 : f' = 0
                · have t2 : ((f' : Int) != 0) = false := by simp [e2]
                  have t3 : ((f' : Int) == 0) = true := by simp [e2]
                  have HE : Hid (f' = F ∧ s' = S) := by have := HD'.out; rw [dn_stop (Or.inr e2)] at this; injection this with a1 a2; exact ⟨a1, a2⟩
                  clear HD' e1 e2
                  go_wp2
                  go_roundw
                  case rel => exact ⟨k + 1, F / 2, S / 2, nn + 2, qa, qb, P ++ [(p, x), (p, y)], by go_num, by (rw [← HE.out.1]; go_num), by (rw [← HE.out.2]; go_num), rfl, rfl, by omega, hlt, by (have := HE.out.1; omega), by (have := HE.out.2; omega), by omega, HV6, HI5, HC8⟩
                  case measure => simp [intOf]; omega
                · have t2 : ((f' : Int) != 0) = true := by simp; omega
                  have t3 : ((f' : Int) == 0) = false := by simp; omega
                  have HE : Hid (dn (f' / 2) (s' / 2) = (F, S)) := by have := HD'.out; rw [dn_go e1 e2] at this; exact this
                  clear HD' e1
                  go_wp2
                  go_roundw
                  case rel => exact ⟨f' / 2, s' / 2, by go_num, by go_num, by omega, by omega, HE, trivial⟩
                  case measure => simp [intOf]; omega
              · have t1 : ((f' : Int) % 2 == 0) = false := beq_eq_false_iff_ne.2 (by omega)
                have HE : Hid (f' = F ∧ s' = S) := by have := HD'.out; rw [dn_stop (Or.inl (by omega))] at this; injection this with a1 a2; exact ⟨a1, a2⟩
                clear HD' e1
                go_wp2
                go_roundw
                case rel => exact ⟨k + 1, F / 2, S / 2, nn + 2, qa, qb, P ++ [(p, x), (p, y)], by go_num, by (rw [← HE.out.1]; go_num), by (rw [← HE.out.2]; go_num), rfl, rfl, by omega, hlt, by (have := HE.out.1; omega), by (have := HE.out.2; omega), by omega, HV6, HI5, HC8⟩
                case measure => simp [intOf]; omega
          have d5 : ((f : Int) % 2 == 1) = false := beq_eq_false_iff_ne.2 (by omega)
          by_cases hsame : f = s
          · as_aux_lemma =>
            have hrg : Mer.rgt f s = true := rgt_same hsame
            have d6 : ((f : Int) == (s : Int)) = true := beq_iff_eq.2 (by omega)
            clear hodd hsame
            have HI5 : Hid (StpAt W L (k + 1) ((dn f s).1 / 2) ((dn f s).2 / 2) (nodeD p x) (nodeD p y) (P ++ [(p, x), (p, y)])) := HI2.out hrg
            have hN1 : ∀ w0, Calls Tryd.prog 62 #[.string p, .string x] w0 fun e w' => e = .returned (.string (nodeD p x)) ∧ Below w0.heap.size w0 w' := fun w0 => hN0 p x w0 hps hxs
            have hN2 : ∀ w0, Calls Tryd.prog 62 #[.string p, .string y] w0 fun e w' => e = .returned (.string (nodeD p y)) ∧ Below w0.heap.size w0 w' := fun w0 => hN0 p y w0 hps hys
            obtain ⟨F, S, hFS⟩ : ∃ F S, dn f s = (F, S) := ⟨_, _, rfl⟩
            have HD : Hid (dn f s = (F, S)) := hFS
            rw [hFS] at HI5
            generalize nodeD p x = qa at *
            generalize nodeD p y = qb at *
            clear HI2 HI3 hrg hN0 hFS
            have HC1 := KpS.drew HC
            have hSc : wr.drew.cell? ⟨g, k, none⟩ = some (.string p) := hc
            clear HC hc
            go_wp2_with fail
            refine wp_region_held_drew (S := fun w' => w'.cell? ⟨g, k, none⟩ = some (.string p)) (by kernel_rfl) hSc (fun hHeld => ?_)
            generalize wr.drew = wd at *
            refine wpAnyH_take (i := 0) (oi := ⟨_, _, _, _, _, _⟩) (v := u9) rfl (by kernel_rfl) (by kernel_rfl) (by kernel_rfl) (fun _ _ _ h => h) (Or.inl ⟨wn' rfl, fun w' hSw => ?_⟩) hSc ?_
            · go_simp
            try simp only [Act.put, List.setIfInBounds_toArray, List.set_cons_zero, List.set_cons_succ]
            refine wpAnyH_take (i := 1) (oi := ⟨_, _, _, _, _, _⟩) (v := .slice (some ⟨g, 0, none⟩) m c8) rfl (by kernel_rfl) (by kernel_rfl) (by kernel_rfl) (fun _ _ _ h => h) (Or.inl ⟨wn' rfl, fun w' hSw => ?_⟩) hSc ?_
            · go_simp
            try simp only [Act.put, List.setIfInBounds_toArray, List.set_cons_zero, List.set_cons_succ]
            refine wpAnyH_take (i := 2) (oi := ⟨_, _, _, _, _, _⟩) (v := .int .i64 (k : Int)) rfl (by kernel_rfl) (by kernel_rfl) (by kernel_rfl) (fun _ _ _ h => h) (Or.inl ⟨wn' rfl, fun w' hSw => ?_⟩) hSc ?_
            · go_simp
            try simp only [Act.put, List.setIfInBounds_toArray, List.set_cons_zero, List.set_cons_succ]
            refine wpAnyH_take (i := 3) (oi := ⟨_, _, _, _, _, _⟩) (v := .pointer (some ⟨g, k, none⟩)) rfl (by kernel_rfl) (by kernel_rfl) (by kernel_rfl) (fun _ _ _ h => h) (Or.inl ⟨wn' rfl, fun w' hSw => ?_⟩) hSc ?_
            · go_simp
            try simp only [Act.put, List.setIfInBounds_toArray, List.set_cons_zero, List.set_cons_succ]
            refine wpAnyH_take (i := 4) (oi := ⟨_, _, _, _, _, _⟩) (v := .string p) rfl (by kernel_rfl) (by kernel_rfl) (by kernel_rfl) (fun _ _ _ h => h) (Or.inl ⟨wn' rfl, fun w' hSw => ?_⟩) hSc ?_
            · go_simp
            try simp only [Act.put, List.setIfInBounds_toArray, List.set_cons_zero, List.set_cons_succ]
            refine wpAnyH_take (i := 5) (oi := ⟨_, _, _, _, _, _⟩) (v := .string x) rfl (by kernel_rfl) (by kernel_rfl) (by kernel_rfl) (fun _ _ _ h => h) (Or.inl ⟨wn' rfl, fun w' hSw => ?_⟩) hSc ?_
            · go_simp
            try simp only [Act.put, List.setIfInBounds_toArray, List.set_cons_zero, List.set_cons_succ]
            refine wpAnyH_take (i := 6) (oi := ⟨_, _, _, _, _, _⟩) (v := .agg #[.string p, .string x]) rfl (by kernel_rfl) (by kernel_rfl) (by kernel_rfl) (fun _ _ _ h => h) (Or.inl ⟨wn' rfl, fun w' hSw => ?_⟩) hSc ?_
            · go_simp
            try simp only [Act.put, List.setIfInBounds_toArray, List.set_cons_zero, List.set_cons_succ]
            refine wpAnyH_take (i := 7) (oi := ⟨_, _, _, _, _, _⟩) (v := .slice (some ⟨g, 0, none⟩) m c8) rfl (by kernel_rfl) (by kernel_rfl) (by kernel_rfl) (fun _ _ _ h => h) (Or.inl ⟨wn' rfl, fun w' hSw => ?_⟩) hSc ?_
            · go_simp
            try simp only [Act.put, List.setIfInBounds_toArray, List.set_cons_zero, List.set_cons_succ]
            refine wpAnyH_take (i := 8) (oi := ⟨_, _, _, _, _, _⟩) (v := .int .i64 (k : Int)) rfl (by kernel_rfl) (by kernel_rfl) (by kernel_rfl) (fun _ _ _ h => h) (Or.inl ⟨wn' rfl, fun w' hSw => ?_⟩) hSc ?_
            · go_simp
            try simp only [Act.put, List.setIfInBounds_toArray, List.set_cons_zero, List.set_cons_succ]
            refine wpAnyH_take (i := 9) (oi := ⟨_, _, _, _, _, _⟩) (v := .pointer (some ⟨g, k, none⟩)) rfl (by kernel_rfl) (by kernel_rfl) (by kernel_rfl) (fun _ _ _ h => h) (Or.inl ⟨wn' rfl, fun w' hSw => ?_⟩) hSc ?_
            · go_simp
            try simp only [Act.put, List.setIfInBounds_toArray, List.set_cons_zero, List.set_cons_succ]
            refine wpAnyH_take (i := 10) (oi := ⟨_, _, _, _, _, _⟩) (v := .string p) rfl (by kernel_rfl) (by kernel_rfl) (by kernel_rfl) (fun _ _ _ h => h) (Or.inl ⟨wn' rfl, fun w' hSw => ?_⟩) hSc ?_
            · go_simp
            try simp only [Act.put, List.setIfInBounds_toArray, List.set_cons_zero, List.set_cons_succ]
            refine wpAnyH_take (i := 11) (oi := ⟨_, _, _, _, _, _⟩) (v := .string y) rfl (by kernel_rfl) (by kernel_rfl) (by kernel_rfl) (fun _ _ _ h => h) (Or.inl ⟨wn' rfl, fun w' hSw => ?_⟩) hSc ?_
            · go_simp
            try simp only [Act.put, List.setIfInBounds_toArray, List.set_cons_zero, List.set_cons_succ]
            refine wpAnyH_take (i := 12) (oi := ⟨_, _, _, _, _, _⟩) (v := .agg #[.string p, .string y]) rfl (by kernel_rfl) (by kernel_rfl) (by kernel_rfl) (fun _ _ _ h => h) (Or.inl ⟨wn' rfl, fun w' hSw => ?_⟩) hSc ?_
            · go_simp
            try simp only [Act.put, List.setIfInBounds_toArray, List.set_cons_zero, List.set_cons_succ]
            refine wpAnyH_ready (rs := [13]) (by kernel_rfl) (by simp) (AllReadyH.cons (o := ⟨_, _, _, _, _, _⟩) rfl (fun K hK => ?_) AllReadyH.nil)
            rewrite [if_pos (wn' rfl)]
            go_wp2_with fail
            have B3 : Below wd.heap.size wd (wd.alloc (.cells #[.string p, .string x, .string p, .string y] 97)) := (Below.refl _ _).alloc (Nat.le_refl _) _
            have HC3 := KpS.call HC1 B3
            have hp3 : PA (wd.alloc (.cells #[.string p, .string x, .string p, .string y] 97)) wd.heap.size 0 [(p, x), (p, y)] := lit_pa2 wd (p, x) (p, y) 97
            have hS3 : (wd.alloc (.cells #[.string p, .string x, .string p, .string y] 97)).cell? ⟨g, k, none⟩ = some (.string p) := (B3.cell (p := ⟨g, k, none⟩) (cellLt hSc)).trans hSc
            refine hK.out _ _ hS3 (fun _ => ?_)
            clear hK K
            try simp only [Act.put, List.setIfInBounds_toArray, List.set_cons_zero, List.set_cons_succ]
            generalize wd.alloc (.cells #[.string p, .string x, .string p, .string y] 97) = w3 at *
            refine wpAnyH_ready (rs := [14]) (by kernel_rfl) (by simp) (AllReadyH.cons (o := ⟨_, _, _, _, _, _⟩) rfl (fun K hK => ?_) AllReadyH.nil)
            rewrite [if_pos (wn' rfl)]
            with_reducible refine wp_append_pairs_k (.tmp 64) (.tmp 77) (by with_unfolding_all rfl) w.heap.size u9 nn 2 P [(p, x), (p, y)] (by with_unfolding_all rfl) HC3.out.own wd.heap.size 0 2 (by with_unfolding_all rfl) (by with_unfolding_all rfl) hp3 (by omega) HC3.out.below.size ?_
            intro v6 w6 hO6 hG6 hb6 hv6
            have HC6 := KpS.app HC3 hO6 hG6 hb6
            have hS6 : w6.cell? ⟨g, k, none⟩ = some (.string p) := hG6.cell hS3 (fun e => HC3.out.gne e.symm)
            refine hK.out _ _ hS6 (fun _ => ?_)
            clear hK K
            try simp only [Act.put, List.setIfInBounds_toArray, List.set_cons_zero, List.set_cons_succ]
            refine wpAnyH_take (i := 15) (oi := ⟨_, _, _, _, _, _⟩) (v := v6) rfl (by kernel_rfl) (by kernel_rfl) (by kernel_rfl) (fun _ _ _ h => h) (Or.inl ⟨wn' rfl, fun w' hSw => ?_⟩) hS6 ?_
            · go_simp
            try simp only [Act.put, List.setIfInBounds_toArray, List.set_cons_zero, List.set_cons_succ]
            refine wpAnyH_done (by kernel_rfl) ?_ _
            have HV6 : Hid (v6 ≠ .slice none 0 0) := hv6 HVo.out
            clear hO6 hG6 hb6 hv6 HC3 HC1 hp3 hS3 B3 hHeld hSc
            go_wp2_with (first
              | (go_at_call 62; with_reducible refine (hN1 _).mono ?_; rintro e w7 ⟨rfl, hB7⟩; have HC7 := KpS.call HC6 hB7; have hS7 := (hB7.cell (p := ⟨g, k, none⟩) (cellLt hS6)).trans hS6)
              | (go_at_call 62; with_reducible refine (hN2 _).mono ?_; rintro e w8 ⟨rfl, hB8⟩; have HC8 := KpS.call HC7 hB8; clear hB8 hB7 HC7 HC6 hS7 hS6))
            go_loopw [11, 12] (fun vf vs wx => ∃ (f' s' : Nat), vf = .int .i64 (f' : Int) ∧ vs = .int .i64 (s' : Int) ∧ f' ≤ 1099511627776 ∧ s' ≤ 1099511627776 ∧ Hid (dn f' s' = (F, S)) ∧ w8 = wx) (fun vf _ _ => (intOf vf).toNat)
            case atStart => exact ⟨f, s, rfl, rfl, hf, hs, HD, rfl⟩
            case round =>
              clear HD
              obtain ⟨f', s', rfl, rfl, hf', hs', HD', rfl⟩ := hrel
              by_cases e1 : f' % 2 = 0
              · have t1 : ((f' : Int) % 2 == 0) = true := beq_iff_eq.2 (by omega)
                by_cases e2 : f' = 0
                · have t2 : ((f' : Int) != 0) = false := by simp [e2]
                  have t3 : ((f' : Int) == 0) = true := by simp [e2]
                  have HE : Hid (f' = F ∧ s' = S) := by have := HD'.out; rw [dn_stop (Or.inr e2)] at this; injection this with a1 a2; exact ⟨a1, a2⟩
                  clear HD' e1 e2
                  go_wp2
                  go_roundw
                  case rel => exact ⟨k + 1, F / 2, S / 2, nn + 2, qa, qb, P ++ [(p, x), (p, y)], by go_num, by (rw [← HE.out.1]; go_num), by (rw [← HE.out.2]; go_num), rfl, rfl, by omega, hlt, by (have := HE.out.1; omega), by (have := HE.out.2; omega), by omega, HV6, HI5, HC8⟩
                  case measure => simp [intOf]; omega
                · have t2 : ((f' : Int) != 0) = true := by simp; omega
                  have t3 : ((f' : Int) == 0) = false := by simp; omega
                  have HE : Hid (dn (f' / 2) (s' / 2) = (F, S)) := by have := HD'.out; rw [dn_go e1 e2] at this; exact this
                  clear HD' e1
                  go_wp2
                  go_roundw
                  case rel => exact ⟨f' / 2, s' / 2, by go_num, by go_num, by omega, by omega, HE, trivial⟩
                  case measure => simp [intOf]; omega
              · have t1 : ((f' : Int) % 2 == 0) = false := beq_eq_false_iff_ne.2 (by omega)
                have HE : Hid (f' = F ∧ s' = S) := by have := HD'.out; rw [dn_stop (Or.inl (by omega))] at this; injection this with a1 a2; exact ⟨a1, a2⟩
                clear HD' e1
                go_wp2
                go_roundw
                case rel => exact ⟨k + 1, F / 2, S / 2, nn + 2, qa, qb, P ++ [(p, x), (p, y)], by go_num, by (rw [← HE.out.1]; go_num), by (rw [← HE.out.2]; go_num), rfl, rfl, by omega, hlt, by (have := HE.out.1; omega), by (have := HE.out.2; omega), by omega, HV6, HI5, HC8⟩
                case measure => simp [intOf]; omega
          · as_aux_lemma =>
            have HI5 : Hid (StpAt W L (k + 1) (f / 2) (s / 2) x (nodeD y p) (P ++ [(y, p)])) := HI3.out (rgt_not hodd hsame)
            have d6 : ((f : Int) == (s : Int)) = false := beq_eq_false_iff_ne.2 (by omega)
            have hN1 : ∀ w0, Calls Tryd.prog 62 #[.string y, .string p] w0 fun e w' => e = .returned (.string (nodeD y p)) ∧ Below w0.heap.size w0 w' := fun w0 => hN0 y p w0 hys hps
            have B3 : Below wr.heap.size wr (wr.alloc (.cells #[.string y, .string p] 97)) := (Below.refl _ _).alloc (Nat.le_refl _) _
            have HC3 := KpS.call HC B3
            have HP3 : Hid (PA (wr.alloc (.cells #[.string y, .string p] 97)) wr.heap.size 0 [(y, p)]) := lit_pa wr (y, p) 97
            generalize nodeD y p = qb at *
            have hcc := hc
            clear HI2 HI3 hN0 hodd hsame B3
            go_wp2_with (first
              | (at_builtin; refine wpList_append_pairs_k rfl _ _ rfl w.heap.size u9 nn 1 P [(y, p)] rfl HC3.out.own wr.heap.size 0 1 rfl rfl HP3.out (by omega) HC3.out.below.size ?_; intro v6 w6 hO6 hG6 hb6 hv6; have HC6 := KpS.app HC3 hO6 hG6 hb6; have hS6 : w6.cell? ⟨g, k, none⟩ = some (.string p) := hG6.cell (((Below.refl wr.heap.size wr).alloc (Nat.le_refl _) _).cell (p := ⟨g, k, none⟩) (cellLt hcc) |>.trans hcc) (fun e => HC3.out.gne e.symm); have HV6 : Hid (v6 ≠ .slice none 0 0) := hv6 HVo.out; clear hO6 hG6 hb6 hv6)
              | (go_at_call 62; refine (hN1 _).mono ?_; rintro e w7 ⟨rfl, hB7⟩; have HC8 := KpS.call HC6 hB7))
            go_roundw
            case rel => exact ⟨k + 1, f / 2, s / 2, nn + 1, x, qb, P ++ [(y, p)], by go_num, by go_num, by go_num, rfl, rfl, by omega, hlt, by omega, by omega, by omega, HV6, HI5, HC8⟩
            case measure => simp [intOf]; omega
        · obtain rfl : k = m := by omega
          have HR : Hid (W = P) := by
            show _ = _
            rw [HI.out.eq, List.drop_of_length_le (by have := HN'.out; omega)]
            exact List.append_nil _
          clear HI
          go_wp2
          go_ret
          refine ⟨_, nn, rfl, HVo.out, ?_, HC.out.below⟩
          rw [HR.out]
          exact HC.out.own
end Go.Proofs.YtdfglpbappeoaabDoor
