/- The law on one leaf: two proofs for one place lead to one hash, or two unlike pairs on their ways have one hash. -/
import Derived.Test.YtdfglpbappeoaabDoorLwC
import Derived.Test.YtdfglpbappeoaabDoorDrwI
import Derived.Test.YtdfglpbappeoaabDoorIncI
namespace Go.Proofs.YtdfglpbappeoaabDoor
open Go.RowKit
set_option linter.unusedVariables false

theorem wayT_hs : ∀ (ps : List ByteArray) (f s : Nat) (b : ByteArray), b.size = 32 → (∀ x ∈ ps, x.size = 32) → ∀ x ∈ wayT ps f s b, x.1.size = 32 ∧ x.2.size = 32
  | [], f, s, b, hb, h, x, hx => by simp [wayT, Mer.way] at hx
  | p :: ps, f, s, b, hb, h, x, hx => by
    have hp := h p (by simp)
    have hx' : x = (if Mer.rgt f s then (p, b) else (b, p)) ∨ x ∈ wayT ps (Mer.nx f s).1 (Mer.nx f s).2 (if Mer.rgt f s then nodeD p b else nodeD b p) := List.mem_cons.1 hx
    rcases hx' with rfl | hx'
    · cases Mer.rgt f s
      · exact ⟨hb, hp⟩
      · exact ⟨hp, hb⟩
    · refine wayT_hs ps _ _ _ ?_ (fun y hy => h y (List.mem_cons_of_mem _ hy)) x hx'
      cases Mer.rgt f s <;> exact nodeD_size _ _
theorem incB_ok {leaf root : ByteArray} {i n : Int} {ps : List ByteArray} (h : incB leaf i n ps root = true) : (leaf.size = 32 ∧ root.size = 32 ∧ ps.length ≤ 400 ∧ okHs ps = true ∧ 1 ≤ n ∧ n ≤ 1099511627776 ∧ 0 ≤ i ∧ i < n) ∧ chkI root ps i.toNat (n.toNat - 1) leaf = true := by
  unfold incB at h
  rw [Bool.and_eq_true, decide_eq_true_eq] at h
  exact h
/- The mathematics: two ways to one root. -/
theorem one_leaf {leaf other root : ByteArray} {i n : Int} {ps qs : List ByteArray} (h1 : incB leaf i n ps root = true) (h2 : incB other i n qs root = true) (hne : ¬ leaf = other) : Mer.Clash nodeD (wayT ps i.toNat (n.toNat - 1) leaf ++ wayT qs i.toNat (n.toNat - 1) other) := by
  have c1 := (chkI_run root ps _ _ leaf).1 (incB_ok h1).2
  have c2 := (chkI_run root qs _ _ other).1 (incB_ok h2).2
  rcases Mer.two_ways nodeD ps qs _ _ leaf other c1.1 c1.2.1 c2.1 c2.2.1 (c1.2.2.trans c2.2.2.symm) with h | h
  · exact absurd h.1 hne
  · exact h
theorem wpList_append_pairs_g {W : World} {ops : Array Oper} {rest : List Oper} {o : Oper} {a : Act} {Q : Exit → Act → World → Prop} (hw : Region.wanted o (yielded ops a.tmps) = true) (s x : Operand) (ho : o.op = .call { callee := .builtin .append, args := #[s, x], argTypes := #[37, 37] })
    (base : Nat) (v : Value) (n m : Nat) (l1 l2 : List Pair) (hs : a.eval s = v) (hown : OwnP W base v n l1) (g p c : Nat) (hx : a.eval x = .slice (some ⟨g, p, none⟩) m c) (hl2 : l2.length = m) (hA : PA W g p l2) (hn : n + m ≤ 1000000) (hbase : base ≤ W.heap.size)
    (h : ∀ v' w', OwnP w' base v' (n + m) (l1 ++ l2) → Below base W w' → (v ≠ .slice none 0 0 → v' ≠ .slice none 0 0) → wpList Tryd.prog ops Q rest (a.put o.dst v') w') : wpList Tryd.prog ops Q (o :: rest) a W :=
  wpList_step fun K hK => by
    rw [if_pos hw]
    exact wp_append_pairs s x ho base v n m l1 l2 hs hown g p c hx hl2 hA hn hbase (fun v' w' k1 k2 k3 => hK _ _ (h v' w' k1 k2 k3))
/- What stands while the law runs. -/
structure KpO (w : World) (a1 a2 : Option Addr) (ps qs : List ByteArray) (w' : World) : Prop where
  below : Below w.heap.size w w'
  s1 : SA w' a1 ps
  s2 : SA w' a2 qs
  arr : ArrU w' 8 keys
  pos : 8 < w'.heap.size
theorem KpO.call {w w' w2 : World} {a1 a2 : Option Addr} {ps qs : List ByteArray} (h : Hid (KpO w a1 a2 ps qs w')) (hb : Below w'.heap.size w' w2) : Hid (KpO w a1 a2 ps qs w2) :=
  ⟨h.out.below.trans (hb.mono h.out.below.size), h.out.s1.below hb, h.out.s2.below hb, h.out.arr.below hb h.out.pos, Nat.lt_of_lt_of_le h.out.pos hb.size⟩
set_option maxRecDepth 100000 in
set_option maxHeartbeats 4000000 in
theorem lawOneLeaf (l0 c0 l1 c1 : Nat) (a0 a1 : Option Addr) (w : World) (hb0 : Bytes w a0 l0) (hs0 : l0 ≤ 9223372036854775807)
    (hb1 : Bytes w a1 l1) (hs1 : l1 ≤ 9223372036854775807) (hk : ArrU w 8 keys) (h0 : 8 < w.heap.size) :
    Calls Tryd.prog 4 #[.slice a0 l0 c0, .slice a1 l1 c1] w fun e w' => e = .returned (.bool true) ∧ Below w.heap.size w w' := by
  have HK : Hid (ArrU w 8 keys) := hk
  by_cases hbig : 1048576 < l0
  · clear hb0 hb1 hk
    go_enter Tryd.func4, Tryd.ntmps4
    go_wp2_with fail
    go_ret
    exact ⟨rfl, Below.refl _ _⟩
  by_cases hbig1 : 1048576 < l1
  · clear hb0 hb1 hk
    go_enter Tryd.func4, Tryd.ntmps4
    go_wp2_with fail
    go_ret
    exact ⟨rfl, Below.refl _ _⟩
  have HD0 : Hid _ := drawInc l0 c0 a0 w hb0 hs0
  have HD1 : Hid (∀ w1, Below w.heap.size w w1 → Calls Tryd.prog 18 #[.slice a1 l1 c1] w1 fun e w' => ∃ (x y : ByteArray) (i n : Int) (u : Value) (ps : List ByteArray), e = .returned (.tuple #[.string x, .int .i64 i, .int .i64 n, u, .string y]) ∧ x.size ≤ 1000 ∧ y.size ≤ 1000 ∧ I64 i ∧ I64 n ∧ Few ps 401 ∧ MayS w' u ps ∧ Below w1.heap.size w1 w') := fun w1 h => drawInc l1 c1 a1 w1 (hb1.later h) hs1
  clear hb0 hb1 hk
  go_enter Tryd.func4, Tryd.ntmps4
  go_wp2_with fail
  refine Calls.mono HD0.out ?_
  rintro e w1 ⟨leaf, root, i, n, u1, ps, rfl, hx1, hy1, hi1, hn1, hf1, hm1, hB1⟩
  have HM1 : Hid (MayS w1 u1 ps) := hm1
  have HB1 : Hid (Below w.heap.size w w1) := hB1
  have HF1 : Hid (Few ps 401) := hf1
  clear HD0 hB1 hm1 hf1
  go_wp2_with fail
  refine (HD1.out w1 HB1.out).mono ?_
  rintro e w2 ⟨other, y2, i2, n2, u2, qs, rfl, hx2, hy2, hi2, hn2, hf2, hm2, hB2⟩
  obtain ⟨b2, d2, rfl, hc2, hA2⟩ := hm2.sa
  obtain ⟨b1, d1, rfl, hc1, hA1⟩ := HM1.out.sa
  have hbb : Below w.heap.size w w2 := HB1.out.trans (hB2.mono HB1.out.size)
  have HS : Hid (KpO w b1 b2 ps qs w2) := ⟨hbb, hA1.below hB2, hA2, HK.out.below hbb h0, Nat.lt_of_lt_of_le h0 hbb.size⟩
  have HF2 : Hid (Few qs 401) := hf2
  clear HD1 hB2 hm2 hf2 hbb hA1 hA2 HM1 HB1
  have hl1 := HF1.out.len
  have hl2 := HF2.out.len
  obtain ⟨m1, hm1⟩ : ∃ m, ps.length = m := ⟨_, rfl⟩
  obtain ⟨m2, hm2⟩ : ∃ m, qs.length = m := ⟨_, rfl⟩
  rw [hm1] at hc1 hl1
  rw [hm2] at hc2 hl2
  simp only [hm1, hm2]
  have HL1 : Hid (ps.length = m1) := hm1
  have HL2 : Hid (qs.length = m2) := hm2
  have hI1 : ∀ w0, Hid (KpO w b1 b2 ps qs w0) → Calls Tryd.prog 15 #[.string leaf, .int .i64 i, .int .i64 n, .slice b1 m1 d1, .string root] w0 fun e w' => e = .returned (.bool (incB leaf i n ps root)) ∧ Below w0.heap.size w0 w' := fun w0 h => incI leaf root i n b1 d1 m1 ps w0 HL1.out hc1 h.out.s1 (by unfold maxLen; omega) (by unfold maxLen; omega) (by omega) (fun x hx => by have := HF1.out.small x hx; unfold maxLen; omega) hi1 hn1 h.out.arr h.out.pos
  have hS1 : ∀ w0, Hid (KpO w b1 b2 ps qs w0) → Calls Tryd.prog 19 #[.string leaf, .int .i64 i, .int .i64 n, .slice b1 m1 d1, .string root] w0 fun e w' => e = .returned (.bool (incB leaf i n ps root)) ∧ Below w0.heap.size w0 w' := fun w0 h => specInc leaf root i n b1 d1 m1 ps w0 HL1.out h.out.s1 (by unfold maxLen; omega) (by unfold maxLen; omega) (by omega) (fun x hx => by have := HF1.out.small x hx; unfold maxLen; omega)
  have hI2 : ∀ w0, Hid (KpO w b1 b2 ps qs w0) → Calls Tryd.prog 15 #[.string other, .int .i64 i, .int .i64 n, .slice b2 m2 d2, .string root] w0 fun e w' => e = .returned (.bool (incB other i n qs root)) ∧ Below w0.heap.size w0 w' := fun w0 h => incI other root i n b2 d2 m2 qs w0 HL2.out hc2 h.out.s2 (by unfold maxLen; omega) (by unfold maxLen; omega) (by omega) (fun x hx => by have := HF2.out.small x hx; unfold maxLen; omega) hi1 hn1 h.out.arr h.out.pos
  clear hm1 hm2 hi2 hn2 hx1 hy1 hx2 hy2 HF1 HF2 HK
  cases hR1 : incB leaf i n ps root with
  | false =>
    rw [hR1] at hI1 hS1
    clear hI2 hR1
    go_wp2_with (first
      | (go_at_call 15; refine (hI1 _ HS).mono ?_; rintro e w3 ⟨rfl, hB3⟩; have HS3 := KpO.call HS hB3)
      | (go_at_call 19; with_reducible refine (hS1 _ HS3).mono ?_; rintro e w4 ⟨rfl, hB4⟩; have HS4 := KpO.call HS3 hB4; clear HS3)
      | (go_at_call 19; with_reducible refine (hS1 _ HS4).mono ?_; rintro e w5 ⟨rfl, hB5⟩; have HS5 := KpO.call HS4 hB5))
    go_ret
    exact ⟨rfl, HS5.out.below⟩
  | true =>
  rw [hR1] at hI1 hS1
  cases hR2 : incB other i n qs root with
  | false =>
    rw [hR2] at hI2
    clear hR1 hR2
    go_wp2_with (first
      | (go_at_call 15; with_reducible refine (hI1 _ HS).mono ?_; rintro e w3 ⟨rfl, hB3⟩; have HS3 := KpO.call HS hB3; clear hI1)
      | (go_at_call 19; with_reducible refine (hS1 _ HS3).mono ?_; rintro e w4 ⟨rfl, hB4⟩; have HS4 := KpO.call HS3 hB4; clear HS3)
      | (go_at_call 19; with_reducible refine (hS1 _ HS4).mono ?_; rintro e w5 ⟨rfl, hB5⟩; have HS5 := KpO.call HS4 hB5)
      | (go_at_call 15; with_reducible refine (hI2 _ HS5).mono ?_; rintro e w6 ⟨rfl, hB6⟩; have HS6 := KpO.call HS5 hB6))
    go_ret
    exact ⟨rfl, HS6.out.below⟩
  | true =>
  rw [hR2] at hI2
  by_cases hlo : leaf = other
  · have tl : (leaf.toList == other.toList) = true := by rw [hlo]; exact txt_eq _
    clear hR1 hR2 hlo
    go_wp2_with (first
      | (go_at_call 15; with_reducible refine (hI1 _ HS).mono ?_; rintro e w3 ⟨rfl, hB3⟩; have HS3 := KpO.call HS hB3; clear hI1)
      | (go_at_call 19; with_reducible refine (hS1 _ HS3).mono ?_; rintro e w4 ⟨rfl, hB4⟩; have HS4 := KpO.call HS3 hB4; clear HS3)
      | (go_at_call 19; with_reducible refine (hS1 _ HS4).mono ?_; rintro e w5 ⟨rfl, hB5⟩; have HS5 := KpO.call HS4 hB5)
      | (go_at_call 15; with_reducible refine (hI2 _ HS5).mono ?_; rintro e w6 ⟨rfl, hB6⟩; have HS6 := KpO.call HS5 hB6))
    go_ret
    exact ⟨rfl, HS6.out.below⟩
  have tl := txt_ne hlo
  have HCl : Hid _ := one_leaf hR1 hR2 hlo
  obtain ⟨⟨q1, q2, q3, q4, q5, q6, q7, q8⟩, -⟩ := incB_ok hR1
  obtain ⟨⟨r1, r2, r3, r4, -, -, -, -⟩, -⟩ := incB_ok hR2
  obtain ⟨i0, rfl⟩ := Int.eq_ofNat_of_zero_le q7
  obtain ⟨n0, rfl⟩ := Int.eq_ofNat_of_zero_le (show 0 ≤ n by omega)
  rw [Int.toNat_natCast, Int.toNat_natCast] at HCl
  have hW1 : ∀ w0, Hid (KpO w b1 b2 ps qs w0) → Calls Tryd.prog 21 #[.string leaf, .int .i64 (i0 : Int), .int .i64 (n0 : Int), .slice b1 m1 d1] w0 fun e w' => ∃ v, e = .returned v ∧ v ≠ .slice none 0 0 ∧ OwnP w' w0.heap.size v m1 (wayT ps i0 (n0 - 1) leaf) ∧ Below w0.heap.size w0 w' := fun w0 h => lwWay_any leaf i0 n0 b1 d1 m1 ps w0 HL1.out h.out.s1 q1 (okHs_of q4) (by omega) (by omega) (by omega) (by omega)
  have hW2 : ∀ w0, Hid (KpO w b1 b2 ps qs w0) → Calls Tryd.prog 21 #[.string other, .int .i64 (i0 : Int), .int .i64 (n0 : Int), .slice b2 m2 d2] w0 fun e w' => ∃ v, e = .returned v ∧ v ≠ .slice none 0 0 ∧ OwnP w' w0.heap.size v m2 (wayT qs i0 (n0 - 1) other) ∧ Below w0.heap.size w0 w' := fun w0 h => lwWay_any other i0 n0 b2 d2 m2 qs w0 HL2.out h.out.s2 r1 (okHs_of r4) (by omega) (by omega) (by omega) (by omega)
  have HH : Hid (∀ x ∈ wayT ps i0 (n0 - 1) leaf ++ wayT qs i0 (n0 - 1) other, x.1.size = 32 ∧ x.2.size = 32) := fun x hx => by
    rcases List.mem_append.1 hx with h | h
    · exact wayT_hs ps _ _ _ q1 (okHs_of q4) x h
    · exact wayT_hs qs _ _ _ r1 (okHs_of r4) x h
  have hE1 : (wayT ps i0 (n0 - 1) leaf).length = m1 := by rw [wayT_len]; exact HL1.out
  have hE2 : (wayT qs i0 (n0 - 1) other).length = m2 := by rw [wayT_len]; exact HL2.out
  generalize wayT ps i0 (n0 - 1) leaf = W1 at *
  generalize wayT qs i0 (n0 - 1) other = W2 at *
  have HE2 : Hid (W2.length = m2) := hE2
  have HZ : Hid (∀ (g c : Nat) w0, PA w0 g 0 (W1 ++ W2) → Calls Tryd.prog 20 #[.slice (some ⟨g, 0, none⟩) (m1 + m2) c] w0 fun e w' => e = .returned (.bool true) ∧ Below w0.heap.size w0 w') := fun g c w0 h => lwClash_any g c (m1 + m2) (W1 ++ W2) w0 (by rw [List.length_append, hE1, hE2]) h HH.out (by omega) HCl.out
  clear hR1 hR2 hlo q1 q2 q3 q4 q5 q6 q7 q8 r1 r2 r3 r4 hE1 hE2 HCl HH
  go_wp2_with (first
    | (go_at_call 15; with_reducible refine (hI1 _ HS).mono ?_; rintro e w3 ⟨rfl, hB3⟩; have HS3 := KpO.call HS hB3; clear hI1)
    | (go_at_call 19; with_reducible refine (hS1 _ HS3).mono ?_; rintro e w4 ⟨rfl, hB4⟩; have HS4 := KpO.call HS3 hB4; clear HS3)
    | (go_at_call 19; with_reducible refine (hS1 _ HS4).mono ?_; rintro e w5 ⟨rfl, hB5⟩; have HS5 := KpO.call HS4 hB5)
    | (go_at_call 15; with_reducible refine (hI2 _ HS5).mono ?_; rintro e w6 ⟨rfl, hB6⟩; have HS6 := KpO.call HS5 hB6)
    | (go_at_call 21; with_reducible refine (hW1 _ HS6).mono ?_; rintro e w7 ⟨v7, rfl, hv7, hO7, hB7⟩; have HS7 := KpO.call HS6 hB7)
    | (go_at_call 21; with_reducible refine (hW2 _ HS7).mono ?_; rintro e w8 ⟨v8, rfl, hv8, hO8, hB8⟩; have HS8 := KpO.call HS7 hB8; have hO7' := ownP_below hO7 hB8; obtain ⟨g8, c8, rfl, hg8, hn8, hm8, hp8, hl8⟩ := ownP_some hO8 hv8)
    | (at_builtin; refine wpList_append_pairs_g (by rfl) _ _ rfl w6.heap.size v7 m1 m2 W1 W2 rfl hO7' g8 0 c8 rfl HE2.out hp8 (by omega) (Nat.le_trans hB7.size hB8.size) ?_; intro v9 w9 hO9 hB9 hv9; obtain ⟨g9, c9, rfl, hg9, hn9, hm9, hp9, hl9⟩ := ownP_some hO9 (hv9 hv7); have B9 : Below w.heap.size w w9 := HS8.out.below.trans (hB9.mono HS6.out.below.size))
    | (go_at_call 20; refine (HZ.out g9 c9 _ hp9).mono ?_; rintro e w10 ⟨rfl, hB10⟩))
  go_ret
  exact ⟨rfl, B9.trans (hB10.mono B9.size)⟩
end Go.Proofs.YtdfglpbappeoaabDoor
