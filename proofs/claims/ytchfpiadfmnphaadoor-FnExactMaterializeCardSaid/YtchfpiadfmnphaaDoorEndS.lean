/- The specification's l02End, out of what l02More answers. -/
import Derived.Test.YtchfpiadfmnphaaDoorJn24
import Derived.Test.YtchfpiadfmnphaaDoorPad
namespace Go.Proofs.YtchfpiadfmnphaaDoor
open Go.RowKit
set_option linter.unusedVariables false
attribute [local go_sem ↓] Go.wp_at_zero Go.wp_at_succ

def lenOf : Value → Nat
  | .slice _ n _ => n
  | _ => 0
def More : Prop := ∀ (g c : Nat) (r : R8) (s t : ByteArray) (z : Nat) (w : World), IAt w (some ⟨g, 0, none⟩) r.ints → s.size ≤ 64 → t.size ≤ 1048576 → z ≤ 1099511627776 →
    Calls Tryd.prog 48 #[HVal (some ⟨g, 0, none⟩) 8 c s (z : Int), .string t] w fun e w' => ∃ g2 c2, e = .returned (HVal (some ⟨g2, 0, none⟩) 8 c2 (left (s ++ t) ((s ++ t).size / 64)) ((z + t.size : Nat) : Int)) ∧ w.heap.size ≤ g2 ∧ g2 < w'.heap.size ∧ StAt w' g2 (stN r (s ++ t) ((s ++ t).size / 64)) ∧ Below w.heap.size w w'
theorem pad_stop (n j : Nat) (hj : j ≤ padN n) : ((n + (1 + j)) % 64 = 56) ↔ j = padN n := by
  unfold padN at *
  omega
theorem own_len {w : World} {base e n : Nat} {v : Value} {xs : List Value} (h : w.ownsRow base e 1 v n xs) (hn : 0 < n) : lenOf v = n := by
  rcases h.2 with ⟨_, h0⟩ | ⟨g3, cap, cur, hv, _⟩
  · omega
  · rw [hv]; rfl
theorem own_form {w : World} {base e n : Nat} {v : Value} {xs : List Value} (h : w.ownsRow base e 1 v n xs) (hn : 0 < n) : ∃ g c, v = .slice (some ⟨g, 0, none⟩) n c := by
  rcases h.2 with ⟨_, h0⟩ | ⟨g3, cap, cur, hv, _⟩
  · omega
  · exact ⟨g3, cap, hv⟩
def dig4 (x : UInt32) : List UInt8 := [UInt8.ofNat (x.toNat / 2 ^ 24 % 256), UInt8.ofNat (x.toNat / 2 ^ 16 % 256), UInt8.ofNat (x.toNat / 2 ^ 8 % 256), UInt8.ofNat (x.toNat % 256)]
def digs8 (r : R8) (k : Nat) : List UInt8 := (r.list.take k).flatMap dig4
theorem digs8_succ (r : R8) {k : Nat} (hk : k < 8) : digs8 r (k + 1) = digs8 r k ++ dig4 (r.at k) := by
  unfold digs8; rw [is_take r hk, List.flatMap_append]; simp
theorem wpList_append_bytes {P : Program} {wr : World} {ops : Array Oper} {rest : List Oper} {o : Oper} {a : Act} {Q : Exit → Act → World → Prop} (hgd : o.guard = none) (s x : Operand) (t : TypeId)
    (ho : o.op = .call { callee := .builtin .append, args := #[s, x], argTypes := #[t, t] })
    (base : Nat) (e : TypeId) (ht : P.underlying t = some (.slice e)) (hinfo : (P.info? e).map (fun i => (i.zero, i.size, i.bytes)) = some (some (.int .u8 0), 1, 1))
    (v : Value) (bs : List UInt8) (n : Nat) (hs : a.eval s = v) (hown : wr.ownsRow base e 1 v n (bvs bs)) (nw : List UInt8) (cs : Array Value) (hcs : (bvs nw).toArray = cs) (m c : Nat) (hm : nw.length = m) (hm0 : 0 < m) (hx : a.eval x = .slice (some ⟨wr.heap.size, 0, none⟩) m c) (hn : n + m ≤ 1000000000) (hbase : base ≤ wr.heap.size)
    (h : ∀ g cap w', w'.ownsRow base e 1 (.slice (some ⟨g, 0, none⟩) (n + m) cap) (n + m) (bvs (bs ++ nw)) → Below base wr w' → wpList P ops Q rest (a.put o.dst (.slice (some ⟨g, 0, none⟩) (n + m) cap)) w') :
    wpList P ops Q (o :: rest) a (wr.alloc (.cells cs e)) := by
  obtain ⟨i0, hi, hz0, hz1, hz2⟩ := info_parts hinfo
  subst hcs
  refine wpList_append_lies (wr.alloc (.cells (bvs nw).toArray e)) hgd s x t ho base e i0 (.int .u8 0) 1 1 ht hi hz0 hz1 hz2 rfl (by decide) v n (bvs bs) hs (hown.alloc _) ⟨wr.heap.size, 0, none⟩ m c (bvs nw) hx (by rw [bvs_length]; omega)
    (by simpa using World.news_of_block (heap_alloc_new wr (.cells (bvs nw).toArray e))) (by intro u hu; unfold bvs at hu; obtain ⟨b, _, rfl⟩ := List.mem_map.1 hu; rfl) hm0 (by unfold maxLen; omega) (by omega) (by rw [size_alloc]; omega) _ rfl ?_
  intro g cap w' h1 h2 _ _
  refine h g cap w' (by simpa [bvs] using h1) ?_
  exact ((Below.refl base wr).alloc hbase _).grown h2 (by rw [size_alloc]; omega) (fun k hk => (hown.lt k hk).1)
theorem pad_head (n : Nat) : 128 :: List.replicate (padN n) 0 = padH n := rfl

set_option maxRecDepth 100000 in
set_option maxHeartbeats 1000000 in
theorem endS_any (hM : More) (g c : Nat) (r : R8) (s : ByteArray) (z : Nat) (w : World) (h : IAt w (some ⟨g, 0, none⟩) r.ints) (hs : s.size ≤ 64) (hz : z ≤ 1099511627776) :
    Calls Tryd.prog 47 #[HVal (some ⟨g, 0, none⟩) 8 c s (z : Int)] w fun e w' => e = .returned (.string ⟨(digs8 (stN r (s ++ ⟨(padL z).toArray⟩) ((s ++ ⟨(padL z).toArray⟩ : ByteArray).size / 64)) 8).toArray⟩) ∧ Below w.heap.size w w' := by
  have HI : Hid (IAt w (some ⟨g, 0, none⟩) r.ints) := h
  have HM : Hid (True → More) := fun _ => hM
  clear h hM
  obtain ⟨N, hN⟩ : ∃ N, padN z = N := ⟨_, rfl⟩
  have hN64 : N < 64 := by rw [← hN, padN]; exact Nat.mod_lt _ (by omega)
  have HST : Hid (∀ j, j ≤ N → (((z + (1 + j)) % 64 = 56) ↔ j = N)) := by rw [← hN]; exact pad_stop z
  have HPH : Hid (True → 128 :: List.replicate N 0 = padH z) := fun _ => by rw [← hN]; rfl
  clear hN
  go_enter Tryd.func47, Tryd.ntmps47
  go_wp2_with (first
    | (with_reducible refine wpList_boxV (w := w) (by with_unfolding_all rfl) 77 (.tmp 0) (by with_unfolding_all rfl) (hvs (some ⟨g, 0, none⟩) 8 c s (z : Int)) (by with_unfolding_all rfl) ?_; intro w1 hA1 hB1 hS1))
  have HO : Hid ((w1.alloc (.cells #[.int .u8 128] 5)).ownsRow (w.heap.size + 1) 5 1 (.slice (some ⟨w.heap.size + 1, 0, none⟩) 1 1) (1 + 0) (bvs (128 :: List.replicate 0 0))) := by
    rw [← hS1]
    exact World.ownsRow_lit w1 #[.int .u8 128] 1 (Nat.le_refl _) (by unfold maxLen; omega) rfl
  have HV : Hid (RowV w1 w.heap.size (hvs (some ⟨g, 0, none⟩) 8 c s (z : Int)) ∧ Below w.heap.size w w1 ∧ w1.heap.size = w.heap.size + 1) := ⟨hA1, hB1, hS1⟩
  clear hA1 hB1
  go_loopw [3] (fun v wr => ∃ j : Nat, j ≤ N ∧ lenOf v = 1 + j ∧ wr.ownsRow (w.heap.size + 1) 5 1 v (1 + j) (bvs (128 :: List.replicate j 0)) ∧ Below (w.heap.size + 1) w1 wr) (fun v _ => 1 + N - lenOf v)
  case atStart => exact ⟨0, Nat.zero_le _, rfl, HO.out, (Below.refl _ _).alloc (Nat.le_of_eq hS1.symm) _⟩
  case round =>
    clear HO
    obtain ⟨j, hj, hlen, hO, hB⟩ := hrel
    obtain ⟨g3, c3, rfl⟩ := own_form hO (by omega)
    have V := HV.out.1.below hB (by omega)
    have p2 := V.cell (k := 2) rfl
    have hzr := hB.size
    have hst := HST.out j hj
    obtain ⟨q, hq⟩ : ∃ q : Nat, z + (1 + j) = q := ⟨_, rfl⟩
    have e0 : (z : Int) + ((1 + j : Nat) : Int) = (q : Int) := by omega
    have e0' : IntKind.i64.wrap ((z : Int) + ((1 + j : Nat) : Int)) = (q : Int) := by simp [IntKind.wrap, IntKind.signed, IntKind.bits]; omega
    have e1 : (q : Int).tmod 64 = ((q % 64 : Nat) : Int) := by rw [Int.tmod_eq_emod_of_nonneg (by omega)]; omega
    have e1' : (q : Int) % 64 = ((q % 64 : Nat) : Int) := by omega
    rw [hq] at hst
    by_cases hjN : j = N
    · as_aux_lemma =>
      have hm : q % 64 = 56 := hst.2 hjN
      subst hjN
      rw [hm] at e1 e1'
      have e9 : ((z : Int) + (1 + (j : Int))) % 64 = 56 := by omega
      obtain ⟨M, hMz⟩ : ∃ M, 8 * z = M := ⟨_, rfl⟩
      have m1 : IntKind.i64.wrap (8 * (z : Int)) = (M : Int) := by simp [IntKind.wrap, IntKind.signed, IntKind.bits]; omega
      have m1' : 8 * (z : Int) = (M : Int) := by omega
      have m2 : IntKind.u64.wrap (M : Int) = (M : Int) := by simp [IntKind.wrap, IntKind.signed, IntKind.bits]; omega
      have HMz : Hid (8 * z = M) := hMz
      clear hMz
      go_wp2_with fail
      obtain ⟨L, hL⟩ : ∃ L, 1 + j = L := ⟨_, rfl⟩
      rw [hL] at hO ⊢
      have HO2 : Hid (wr.ownsRow (w.heap.size + 1) 5 1 (.slice (some ⟨g3, 0, none⟩) L c3) (L + 0) (bvs (padH z ++ bes M 0))) := by
        show wr.ownsRow _ _ _ _ _ _
        rw [← HPH.out trivial, show bes M 0 = [] from rfl, List.append_nil]
        exact hO
      have HB2 : Hid (Below (w.heap.size + 1) w1 wr) := hB
      have hLb : L ≤ 64 := by omega
      clear hO hB hzr hst V p2 e0 e0' e1 e1' e9 hm hq HST hlen m1 m1' m2
      go_loopw [3, 5] (fun v i wr => ∃ k : Nat, i = .int .i64 (56 - 8 * (k : Int)) ∧ k ≤ 8 ∧ wr.ownsRow (w.heap.size + 1) 5 1 v (L + k) (bvs (padH z ++ bes M k)) ∧ Below (w.heap.size + 1) w1 wr) (fun _ i _ => (intOf i + 8).toNat)
      case atStart => exact ⟨0, by simp, Nat.zero_le _, HO2.out, HB2.out⟩
      case round =>
        clear HO2 HB2
        obtain ⟨k, rfl, hk, hO, hB⟩ := hrel
        have hzr := hB.size
        by_cases hlt : k < 8
        · as_aux_lemma =>
          obtain ⟨sh, hsh⟩ : ∃ sh : Nat, 8 * (7 - k) = sh := ⟨_, rfl⟩
          have ey : 56 - 8 * (k : Int) = (sh : Int) := by omega
          rw [ey]
          have hsl : (sh : Int) ≤ 64 := by omega
          have hs0 : (0 : Int) ≤ sh := by omega
          have u1 : IntKind.u64.wrap (sh : Int) = (sh : Int) := by simp [IntKind.wrap, IntKind.signed, IntKind.bits]; omega
          obtain ⟨d, hd⟩ : ∃ d : Nat, M / 2 ^ sh = d := ⟨_, rfl⟩
          have e3 : (M : Int) / 2 ^ sh = (d : Int) := by rw [← hd]; norm_cast
          have HX : Hid (BV (beq8 M k) = .int .u8 ((d % 256 : Nat) : Int)) := by
            show BV (beq8 M k) = _
            rw [beq8, hsh, hd]
            exact BV_ofNat _ (Nat.mod_lt _ (by omega))
          have e4 : IntKind.u8.wrap (d : Int) = ((d % 256 : Nat) : Int) := by simp [IntKind.wrap, IntKind.signed, IntKind.bits]
          obtain ⟨x, hx⟩ : ∃ x, d % 256 = x := ⟨_, rfl⟩
          rw [hx] at HX e4
          have HBS : Hid (True → bes M (k + 1) = bes M k ++ [beq8 M k]) := fun _ => bes_succ M k
          have HEY : Hid (56 - 8 * (k : Int) = (sh : Int)) := ey
          have e5 : IntKind.i64.wrap ((sh : Int) - 8) = (sh : Int) - 8 := by simp [IntKind.wrap, IntKind.signed, IntKind.bits]; omega
          clear hsh hd hx ey
          go_wp2_with (first
            | (at_builtin; refine wpList_append_byte rfl _ _ 80 rfl (w.heap.size + 1) 5 Tryd.underlying80 Tryd.infoU8 u3 (padH z ++ bes M k) (L + k) rfl hO (beq8 M k) _ HX.out 1 rfl (by omega) (by have := HV.out.2.2; omega) ?_; intro v9 w9 hO9 hB9))
          go_roundw
          case rel => exact ⟨k + 1, by have := HEY.out; go_num, hlt, by rw [HBS.out trivial, ← List.append_assoc]; exact hO9, hB.trans hB9⟩
          case measure => have := HEY.out; simp [intOf]; omega
        · as_aux_lemma =>
          obtain rfl : k = 8 := by omega
          rw [show (56 : Int) - 8 * ((8 : Nat) : Int) = -8 from rfl]
          have hconv := run_conv_own 80 Tryd.underlying80 Tryd.underlying5 hO 9 Tryd.underlying9
          have V := HV.out.1.below hB (by omega)
          go_wp2_with (first
            | (with_reducible refine wpList_loadV (w := wr) (by with_unfolding_all rfl) 77 (.tmp 1) (by with_unfolding_all rfl) w.heap.size (hvs (some ⟨g, 0, none⟩) 8 c s (z : Int)) (by with_unfolding_all rfl) V Tryd.undH 3 Tryd.sizeH (by with_unfolding_all rfl) ?_))
          obtain ⟨Pd, hPd⟩ : ∃ Pd : ByteArray, ⟨(padH z ++ bes M 8).toArray⟩ = Pd := ⟨_, rfl⟩
          have HPd : Hid (True → (⟨(padL z).toArray⟩ : ByteArray) = Pd) := fun _ => by rw [← hPd, padL, HMz.out]
          have hPs : Pd.size ≤ 1048576 := by
            rw [← hPd]
            show (padH z ++ bes M 8).toArray.size ≤ 1048576
            have : padN z < 64 := by unfold padN; exact Nat.mod_lt _ (by omega)
            simp [padH, bes]
            omega
          have hI5 := (HI.out.below HV.out.2.1).below (hB.mono (Nat.le_of_eq HV.out.2.2))
          have HBw : Hid (Below w.heap.size w wr ∧ w.heap.size + 1 ≤ wr.heap.size) := ⟨HV.out.2.1.trans (hB.mono (by omega)), by have := HV.out.2.2; omega⟩
          rw [hPd] at hconv ⊢
          refine (HM.out trivial g c r s Pd z wr hI5 hs hPs hz).mono ?_
          rintro e w5 ⟨g2, c2, rfl, hg2, hl2, hst2, hB5⟩
          obtain ⟨q, hq⟩ : ∃ q, stN r (s ++ Pd) ((s ++ Pd).size / 64) = q := ⟨_, rfl⟩
          obtain ⟨u, hu⟩ : ∃ u, left (s ++ Pd) ((s ++ Pd).size / 64) = u := ⟨_, rfl⟩
          rw [hq] at hst2
          rw [hu]
          have HQ : Hid (True → stN r (s ++ ⟨(padL z).toArray⟩) ((s ++ ⟨(padL z).toArray⟩ : ByteArray).size / 64) = q) := fun _ => by rw [HPd.out trivial]; exact hq
          obtain ⟨Zs, hZs⟩ : ∃ Zs : Int, ((z + Pd.size : Nat) : Int) = Zs := ⟨_, rfl⟩
          rw [hZs]
          have HST2 : Hid (StAt w5 g2 q) := hst2
          clear hconv hO hPd hq hu hst2 hI5 hZs V
          go_wp2_with (first
            | (with_reducible refine wpList_allocV (w := w5) (by with_unfolding_all rfl) 77 (by with_unfolding_all rfl) (hvs none 0 0 ⟨#[]⟩ 0) Tryd.infoH ?_; intro w6 hA6 hB6 hS6)
            | (with_reducible refine wpList_storeV (w := w6) (by with_unfolding_all rfl) 77 (.tmp 6) (.tmp 40) (by with_unfolding_all rfl) w5.heap.size (hvs none 0 0 ⟨#[]⟩ 0) (hvs (some ⟨g2, 0, none⟩) 8 c2 u Zs) (by with_unfolding_all rfl) (by with_unfolding_all rfl) hA6 3 Tryd.sizeH (by with_unfolding_all rfl) (by with_unfolding_all rfl) (hvs_one _ _ _ _ _) ?_; intro w7 hA7 hB7 hF7 hS7))
          have z5 := hB5.size
          have b57 : Below w5.heap.size w5 w7 := hB6.trans (hB7 _ (Nat.le_refl _))
          have hz7 : w7.heap.size = w5.heap.size + 1 := by omega
          have HW7 : Hid (RowV w7 w5.heap.size (hvs (some ⟨g2, 0, none⟩) 8 c2 u Zs) ∧ StAt w7 g2 q ∧ Below w.heap.size w w7 ∧ g2 < w5.heap.size) := ⟨hA7, HST2.out.later b57 hl2, (HBw.out.1.trans (hB5.mono HBw.out.1.size)).trans (b57.mono (by have := HBw.out.2; omega)), hl2⟩
          have HO7 : Hid ((w7.alloc (.cells #[] 5)).ownsRow w7.heap.size 5 1 (.slice (some ⟨w7.heap.size, 0, none⟩) 0 0) (4 * 0) (bvs (digs8 q 0))) := World.ownsRow_made w7 #[] 0 (Nat.le_refl _) (Nat.zero_le _) rfl
          have hwz := HBw.out.2
          obtain ⟨b5, hb5⟩ : ∃ b5, w5.heap.size = b5 := ⟨_, rfl⟩
          rw [hb5] at hz7 HW7 z5
          obtain ⟨b7, hb7⟩ : ∃ b7, b5 + 1 = b7 := ⟨_, rfl⟩
          rw [hz7, hb7] at HO7
          simp only [hb7, hb5]
          clear hA6 hA7 hB6 hB7 hF7 hS6 hS7 HST2 b57 hB5 hl2 hg2 hB HBw
          go_loopw [7, 8, 9] (fun v i _ wr => ∃ k : Nat, i = .int .i64 (k : Int) ∧ k ≤ 8 ∧ wr.ownsRow b7 5 1 v (4 * k) (bvs (digs8 q k)) ∧ Below b7 w7 wr) (fun _ i _ _ => 8 - (intOf i).toNat)
          case atStart => exact ⟨0, rfl, Nat.zero_le _, HO7.out, (Below.refl _ _).alloc (by omega) _⟩
          case round =>
            clear HO7
            obtain ⟨k, rfl, hk, hO, hB⟩ := hrel
            have hzr := hB.size
            by_cases hlt : k < 8
            · as_aux_lemma =>
              have V := HW7.out.1.below hB (by omega)
              have p0 := V.cell (k := 0) rfl
              have d0 := (HW7.out.2.1.later hB (by have := HW7.out.2.2.2; omega)).at hlt
              have HDS : Hid (True → digs8 q (k + 1) = digs8 q k ++ dig4 (q.at k)) := fun _ => digs8_succ q hlt
              obtain ⟨x, hx⟩ : ∃ x, q.at k = x := ⟨_, rfl⟩
              rw [hx] at d0 HDS
              have hxl := u32lt x
              obtain ⟨X, hX⟩ : ∃ X, x.toNat = X := ⟨_, rfl⟩
              rw [hX] at d0 hxl
              obtain ⟨d3, h3⟩ : ∃ d, X / 16777216 = d := ⟨_, rfl⟩
              obtain ⟨d2, h2⟩ : ∃ d, X / 65536 = d := ⟨_, rfl⟩
              obtain ⟨d1, h1⟩ : ∃ d, X / 256 = d := ⟨_, rfl⟩
              have e3 : (X : Int) / 16777216 = (d3 : Int) := by omega
              have e2 : (X : Int) / 65536 = (d2 : Int) := by omega
              have e1 : (X : Int) / 256 = (d1 : Int) := by omega
              have v3 : IntKind.u8.wrap (d3 : Int) = ((d3 % 256 : Nat) : Int) := by simp [IntKind.wrap, IntKind.signed, IntKind.bits]
              have v2 : IntKind.u8.wrap (d2 : Int) = ((d2 % 256 : Nat) : Int) := by simp [IntKind.wrap, IntKind.signed, IntKind.bits]
              have v1 : IntKind.u8.wrap (d1 : Int) = ((d1 % 256 : Nat) : Int) := by simp [IntKind.wrap, IntKind.signed, IntKind.bits]
              have v0 : IntKind.u8.wrap (X : Int) = ((X % 256 : Nat) : Int) := by simp [IntKind.wrap, IntKind.signed, IntKind.bits]
              have HCS : Hid ((bvs (dig4 x)).toArray = #[.int .u8 ((d3 % 256 : Nat) : Int), .int .u8 ((d2 % 256 : Nat) : Int), .int .u8 ((d1 % 256 : Nat) : Int), .int .u8 ((X % 256 : Nat) : Int)]) := by
                show (bvs (dig4 x)).toArray = _
                rw [dig4, hX]
                rw [show 2 ^ 24 = 16777216 from rfl, show 2 ^ 16 = 65536 from rfl, show 2 ^ 8 = 256 from rfl, h3, h2, h1]
                simp only [bvs, List.map]
                rw [BV_ofNat _ (Nat.mod_lt _ (by omega)), BV_ofNat _ (Nat.mod_lt _ (by omega)), BV_ofNat _ (Nat.mod_lt _ (by omega)), BV_ofNat _ (Nat.mod_lt _ (by omega))]
              obtain ⟨y3, g3'⟩ : ∃ y, d3 % 256 = y := ⟨_, rfl⟩
              obtain ⟨y2, g2'⟩ : ∃ y, d2 % 256 = y := ⟨_, rfl⟩
              obtain ⟨y1, g1'⟩ : ∃ y, d1 % 256 = y := ⟨_, rfl⟩
              obtain ⟨y0, g0'⟩ : ∃ y, X % 256 = y := ⟨_, rfl⟩
              rw [g3', g2', g1', g0'] at HCS
              rw [g3'] at v3
              rw [g2'] at v2
              rw [g1'] at v1
              rw [g0'] at v0
              have HLn : Hid ((dig4 x).length = 4) := rfl
              have lk : (k : Int) < 8 := by omega
              have l0 : (0 : Int) ≤ k := by omega
              clear hx hX h3 h2 h1 g3' g2' g1' g0' V hxl
              go_wp2_with (first
                | (at_builtin; refine wpList_append_bytes rfl _ _ 80 rfl b7 5 Tryd.underlying80 Tryd.infoU8 u7 (digs8 q k) (4 * k) rfl hO (dig4 x) _ HCS.out 4 4 HLn.out (by omega) rfl (by omega) (by omega) ?_; intro g9 c9 w9 hO9 hB9))
              go_roundw
              case rel => exact ⟨k + 1, by go_num, hlt, by rw [HDS.out trivial]; exact hO9, hB.trans hB9⟩
              case measure => simp [intOf]; omega
            · as_aux_lemma =>
              obtain rfl : k = 8 := by omega
              have hconv := run_conv_own 80 Tryd.underlying80 Tryd.underlying5 hO 9 Tryd.underlying9
              clear hO
              go_wp2
              go_ret
              exact ⟨by rw [HQ.out trivial]; rfl, HW7.out.2.2.1.trans (hB.mono (by omega))⟩
    · as_aux_lemma =>
      have hm : ¬ q % 64 = 56 := fun e => hjN (hst.1 e)
      obtain ⟨d, hd⟩ : ∃ d, q % 64 = d := ⟨_, rfl⟩
      rw [hd] at e1 e1' hm
      have hne : ((d : Int) == 56) = false := by simp; omega
      have hne' : ((d : Int) != 56) = true := by simp; omega
      have HR : Hid (True → bvs (128 :: List.replicate (j + 1) 0) = bvs (128 :: List.replicate j 0 ++ [0])) := fun _ => by rw [List.replicate_succ', List.cons_append]
      clear hst hd
      go_wp2_with (first
        | (at_builtin; refine wpList_append_byte rfl _ _ 80 rfl (w.heap.size + 1) 5 Tryd.underlying80 Tryd.infoU8 _ (128 :: List.replicate j 0) (1 + j) rfl hO 0 _ rfl 1 rfl (by omega) (by have := HV.out.2.2; omega) ?_; intro v9 w9 hO9 hB9))
      go_roundw
      case rel => exact ⟨j + 1, by omega, own_len hO9 (by omega), by rw [HR.out trivial]; exact hO9, hB.trans hB9⟩
      case measure =>
        have := own_len hO9 (by omega)
        show 1 + N - lenOf v9 < 1 + N - lenOf (.slice (some ⟨g3, 0, none⟩) (1 + j) c3)
        rw [this]
        show 1 + N - (1 + j + 1) < 1 + N - (1 + j)
        omega
end Go.Proofs.YtchfpiadfmnphaaDoor
