/- The draws for InclusionCheck and ConsistencyCheck: what is told, and that nothing that was there changes. -/
import Derived.Test.YtdfglpbappeoaabDoorPrfM
namespace Go.Proofs.YtdfglpbappeoaabDoor
open Go.RowKit
set_option linter.unusedVariables false

set_option maxRecDepth 100000 in
theorem i64_of {n : Int} (h : -9223372036854775808 ≤ n ∧ n ≤ 9223372036854775807) : I64 n := by
  unfold I64
  simpa [Lit.wf, IntKind.min, IntKind.max, IntKind.signed, IntKind.bits] using h
set_option maxRecDepth 100000 in
theorem field_prf (a b : Value) (w : World) : (Instr.field 29 (.agg #[a, b]) 0).run Tryd.prog w = .ok a w := by kernel_rfl
theorem four_cell (w : World) (t : TypeId) (a b c d : Int) (ha : I64 a) (hb : I64 b) (hc : I64 c) (hd : I64 d) : ∀ j : Nat, j < 4 → ∃ z : Int, I64 z ∧ (w.alloc (.cells #[.int .i64 a, .int .i64 b, .int .i64 c, .int .i64 d] t)).cell? ⟨w.heap.size, j, none⟩ = some (.int .i64 z)
  | 0, _ => ⟨a, ha, by simp⟩
  | 1, _ => ⟨b, hb, by simp⟩
  | 2, _ => ⟨c, hc, by simp⟩
  | 3, _ => ⟨d, hd, by simp⟩
  | j + 4, h => by omega
set_option maxRecDepth 100000 in
theorem rootA_small (l : List ByteArray) : (rootA l).size ≤ 32 := by
  unfold rootA
  split
  · rw [rtT_size]; exact Nat.le_refl _
  · exact Nat.zero_le _
set_option maxRecDepth 100000 in
theorem leafA_small (x : ByteArray) : (leafA x).size ≤ 32 := by
  unfold leafA
  split
  · rw [leafD_size]; exact Nat.le_refl _
  · exact Nat.zero_le _
set_option maxRecDepth 100000 in
theorem pthT_hs2 : ∀ (m : Nat) (l : List ByteArray) (i : Nat), l.length ≤ m → ∀ x ∈ pthT l i, x.size = 32
  | 0, l, i, h, x, hx => by rw [pthT_one (by omega)] at hx; simp at hx
  | m + 1, l, i, h, x, hx => by
    by_cases h2 : 2 ≤ l.length
    · have hlt := Mer.half_lt h2
      have hp := Mer.half_pos l.length
      by_cases hi : i < Mer.half l.length
      · rw [pthT_lo h2 hi] at hx
        rcases List.mem_append.1 hx with hx | hx
        · exact pthT_hs2 m _ _ (by rw [List.length_take]; omega) x hx
        · rw [List.mem_singleton.1 hx]; exact rtT_size _
      · rw [pthT_hi h2 (by omega)] at hx
        rcases List.mem_append.1 hx with hx | hx
        · exact pthT_hs2 m _ _ (by rw [List.length_drop]; omega) x hx
        · rw [List.mem_singleton.1 hx]; exact rtT_size _
    · rw [pthT_one (by omega)] at hx; simp at hx
set_option maxRecDepth 100000 in
theorem prT_hs2 : ∀ (m : Nat) (l : List ByteArray) (k : Nat) (kn : Bool), l.length ≤ m → 1 ≤ k → k ≤ l.length → ∀ x ∈ prT l k kn, x.size = 32
  | 0, l, k, kn, h, h1, h2, x, hx => by omega
  | m + 1, l, k, kn, h, h1, h2, x, hx => by
    by_cases hk : k = l.length
    · subst hk
      rw [prT_all h1] at hx
      cases kn
      · rw [if_neg (by decide)] at hx; rw [List.mem_singleton.1 hx]; exact rtT_size _
      · rw [if_pos rfl] at hx; simp at hx
    · have hl2 : 2 ≤ l.length := by omega
      have hlt := Mer.half_lt hl2
      have hp := Mer.half_pos l.length
      by_cases hc : k ≤ Mer.half l.length
      · rw [prT_lo h1 (by omega) hc] at hx
        rcases List.mem_append.1 hx with hx | hx
        · exact prT_hs2 m _ _ _ (by rw [List.length_take]; omega) h1 (by rw [List.length_take]; omega) x hx
        · rw [List.mem_singleton.1 hx]; exact rtT_size _
      · rw [prT_hi h1 (by omega) (by omega)] at hx
        rcases List.mem_append.1 hx with hx | hx
        · exact prT_hs2 m _ _ _ (by rw [List.length_drop]; omega) (by omega) (by rw [List.length_drop]; omega) x hx
        · rw [List.mem_singleton.1 hx]; exact rtT_size _
set_option maxRecDepth 100000 in
theorem few_inc {l : List ByteArray} (h : l.length ≤ 1024) (i : Int) : Few (incL l i) 400 := by
  unfold incL
  split
  · refine ⟨by have := pthT_len h i.toNat; omega, fun x hx => by rw [pthT_hs2 _ l _ (Nat.le_refl _) x hx]; omega⟩
  · exact ⟨Nat.zero_le _, fun x hx => by simp at hx⟩
set_option maxRecDepth 100000 in
theorem few_con {l : List ByteArray} (h : l.length ≤ 1024) {k : Nat} (h1 : 1 ≤ k) (h2 : k ≤ l.length) : Few (conL l (k : Int)) 400 := by
  unfold conL
  split
  · rw [Int.toNat_natCast]
    refine ⟨by have := prT_len h h1 h2 true; omega, fun x hx => by rw [prT_hs2 _ l _ true (Nat.le_refl _) h1 h2 x hx]; omega⟩
  · exact ⟨Nat.zero_le _, fun x hx => by simp at hx⟩
/- What stands between two draws behind the proof. -/
structure KpE (w : World) (base g : Nat) (a : Option Addr) (len cap : Nat) (u : Value) (ps : List ByteArray) (w' : World) : Prop where
  below : Below w.heap.size w w'
  src : SrcAt w' g a len cap
  may : NewM w' base u ps
  hg : w.heap.size ≤ g
  gb : g < base
set_option maxRecDepth 100000 in
theorem KpE.draw {w w' w2 : World} {base g : Nat} {a : Option Addr} {len cap : Nat} {u : Value} {ps : List ByteArray} (h : Hid (KpE w base g a len cap u ps w')) (h1 : SrcAt w2 g a len cap) (h2 : w'.grownBy w2 (some g)) : Hid (KpE w base g a len cap u ps w2) :=
  ⟨Below.by h.out.below h2 h.out.below.size h.out.hg, h1, h.out.may.grown h2 h.out.gb, h.out.hg, h.out.gb⟩
theorem KpE.call {w w' w2 : World} {base g : Nat} {a : Option Addr} {len cap : Nat} {u : Value} {ps : List ByteArray} (h : Hid (KpE w base g a len cap u ps w')) (hb : Below w'.heap.size w' w2) : Hid (KpE w base g a len cap u ps w2) :=
  ⟨h.out.below.trans (hb.mono h.out.below.size), h.out.src.below hb h.out.src.room, h.out.may.below hb, h.out.hg, h.out.gb⟩
set_option maxRecDepth 100000 in
theorem KpE.spoilt {w w' w2 : World} {base g : Nat} {a : Option Addr} {len cap : Nat} {u u2 : Value} {ps ps2 : List ByteArray} (h : Hid (KpE w base g a len cap u ps w')) (hd : Hid (KpD w' g a len cap u2 ps2 w2)) : Hid (KpE w w'.heap.size g a len cap u2 ps2 w2) :=
  ⟨Below.by h.out.below hd.out.gr h.out.below.size h.out.hg, hd.out.src, NewM.own hd.out.own, h.out.hg, hd.out.lt⟩
/- What stands ahead of the proof: the leaves. -/
structure KpF (w w1 : World) (g : Nat) (a : Option Addr) (len cap gl m cl : Nat) (L : List ByteArray) (w' : World) : Prop where
  d : KpD w1 g a len cap (.slice (some ⟨gl, 0, none⟩) m cl) L w'
  b : Below w.heap.size w w1
  lm : L.length = m
  lt : g < w1.heap.size
set_option maxRecDepth 100000 in
theorem KpF.sa {w w1 w' : World} {g : Nat} {a : Option Addr} {len cap gl m cl : Nat} {L : List ByteArray} (h : Hid (KpF w w1 g a len cap gl m cl L w')) : Hid (SA w' (some ⟨gl, 0, none⟩) L) := by
  obtain ⟨b, c, h1, h2, h3, h4, h5⟩ := own_sa h.out.d.own
  injection h1 with h1 h6 h7
  rw [← h1] at h5
  exact h5
set_option maxRecDepth 100000 in
theorem KpE.first {w w1 w4 w5 : World} {g : Nat} {a : Option Addr} {len cap gl m cl : Nat} {L : List ByteArray} {u : Value} {P : List ByteArray} (h : Hid (KpF w w1 g a len cap gl m cl L w4)) (hM : NewM w5 w4.heap.size u P) (hB : Below w4.heap.size w4 w5) (hg : w.heap.size ≤ g) : Hid (KpE w w4.heap.size g a len cap u P w5) := by
  have b4 : Below w.heap.size w w4 := Below.by h.out.b h.out.d.gr h.out.b.size hg
  exact ⟨b4.trans (hB.mono b4.size), h.out.d.src.below hB h.out.d.src.room, hM, hg, h.out.d.src.room⟩
set_option maxRecDepth 100000 in
set_option maxHeartbeats 2000000 in
theorem drawInc (len cap : Nat) (a : Option Addr) (w : World) (hb : Bytes w a len) (hs : len ≤ 9223372036854775807) :
    Calls Tryd.prog 18 #[.slice a len cap] w fun e w' => ∃ (x y : ByteArray) (i n : Int) (u : Value) (ps : List ByteArray), e = .returned (.tuple #[.string x, .int .i64 i, .int .i64 n, u, .string y]) ∧ x.size ≤ 1000 ∧ y.size ≤ 1000 ∧ I64 i ∧ I64 n ∧ Few ps 401 ∧ MayS w' u ps ∧ Below w.heap.size w w' := by
  have HS : Hid _ := source_any len cap a w hb hs
  clear hb
  go_enter Tryd.func18, Tryd.ntmps18
  go_wp2_with fail
  refine Calls.mono HS.out ?_
  rintro e w1 ⟨g, rfl, hg, h1, h2⟩
  have H2 : Hid (Below w.heap.size w w1) := h2
  have HR1 : Hid (g < w1.heap.size) := h1.room
  have HL : Hid _ := leaves_any g len cap a w1 h1
  clear h1 h2 HS
  go_wp2_with fail
  refine Calls.mono HL.out ?_
  rintro e w2 ⟨v, l, rfl, hv, hl, hO, h3, h4⟩
  have HK2 : Hid (KpD w1 g a len cap v l w2) := ⟨hO, h3, h4, HR1.out⟩
  have HV : Hid (v ≠ .slice none 0 0) := hv
  have hl65 := hl.len
  have HLs : Hid (∀ y ∈ l ++ [(⟨#[122]⟩ : ByteArray)], y.size ≤ 4) := Lvs.snoc hl.small (by decide)
  have B3 : Below w2.heap.size w2 (w2.alloc (.cells #[.string ⟨#[122]⟩] 9)) := (Below.refl _ _).alloc (Nat.le_refl _) _
  have HB3 : Hid (Below w1.heap.size w2 (w2.alloc (.cells #[.string ⟨#[122]⟩] 9))) := B3.mono h4.size
  have HO3 : Hid ((w2.alloc (.cells #[.string ⟨#[122]⟩] 9)).ownsRow w1.heap.size 9 1 v l.length (svl l)) := own_below hO B3
  have HX3 : Hid (SA (w2.alloc (.cells #[.string ⟨#[122]⟩] 9)) (some ⟨w2.heap.size, 0, none⟩) [⟨#[122]⟩]) := lit_sa w2 ⟨#[122]⟩ 9
  have hz3 : w1.heap.size ≤ (w2.alloc (.cells #[.string ⟨#[122]⟩] 9)).heap.size := Nat.le_trans h4.size B3.size
  clear h3 h4 hO hv hl HL B3
  go_wp2_with (first
    | (at_builtin; refine wpList_append_strs rfl _ _ rfl w1.heap.size v l.length 1 l [⟨#[122]⟩] rfl HO3.out w2.heap.size 0 1 rfl rfl HX3.out (by omega) hz3 ?_; intro v3 w3 hO3 hB3 hv3; obtain ⟨gl, cl, rfl, hll, hgl, hcl, hml, hsl⟩ := own_some hO3 (hv3 HV.out); have HK3 : Hid (KpD w1 g a len cap (.slice (some ⟨gl, 0, none⟩) (l.length + 1) cl) (l ++ [⟨#[122]⟩]) w3) := KpD.app HK2 (by rw [hll]; exact hO3) (HB3.out.trans hB3); clear hO3 hB3 hv3 hsl HK2 HO3 HX3 HB3 hz3 HV)
    | fail)
  obtain ⟨L, hL⟩ : ∃ L, l ++ [(⟨#[122]⟩ : ByteArray)] = L := ⟨_, rfl⟩
  obtain ⟨m, hmm⟩ : ∃ m, l.length + 1 = m := ⟨_, rfl⟩
  rw [hL] at HK3 HLs hll
  rw [hmm] at HK3 hll hcl
  have HLm : Hid (L.length = m) := hll
  have hm1 : 1 ≤ m := by omega
  have hm2 : m ≤ 66 := by omega
  have hNm : ∀ w0, SrcAt w0 g a len cap → Calls Tryd.prog 52 #[.pointer (some ⟨g, 0, none⟩), .int .i64 (m : Int)] w0 fun e w' => ∃ v : Int, e = .returned (.int .i64 v) ∧ 0 ≤ v ∧ v < (m : Int) ∧ SrcAt w' g a len cap ∧ w0.grownBy w' (some g) := fun w0 h => n_any g len cap a m w0 h (by omega) (by omega)
  have em : (l.length : Int) + 1 = (m : Int) := by omega
  simp only [hmm, em]
  clear hL hmm hl65 em hll
  refine (hNm _ HK3.out.src).mono ?_
  rintro e w4 ⟨i0, rfl, hi0, hi1, k1, k2⟩
  obtain ⟨i, rfl⟩ := Int.eq_ofNat_of_zero_le hi0
  have HK4 := KpD.draw HK3 k1 k2
  have HK4 : Hid (KpF w w1 g a len cap gl m cl L w4) := ⟨HK4.out, H2.out, HLm.out, HR1.out⟩
  have HSA : Hid (SA w4 (some ⟨gl, 0, none⟩) L) := KpF.sa HK4
  clear k1 k2 HK3 hNm hi0
  have hSP : ∀ w0, SA w0 (some ⟨gl, 0, none⟩) L → Calls Tryd.prog 53 #[.slice (some ⟨gl, 0, none⟩) m cl, .int .i64 (i : Int)] w0 fun e w' => ∃ v, e = .returned (.agg #[v, .int .i64 (prfC L 0 (i : Int))]) ∧ NewM w' w0.heap.size v (incL L (i : Int)) ∧ Below w0.heap.size w0 w' := fun w0 h => specIncM _ cl m (i : Int) L w0 HLm.out hcl h (by omega) (by unfold maxLen at hml; omega) (fun x hx => by have := HLs.out x hx; unfold maxLen; omega)
  have hx : ∃ x, L[i]? = some x := ⟨L[i]'(by have := HLm.out; omega), List.getElem?_eq_getElem _⟩
  obtain ⟨x, hx⟩ := hx
  have hxs : x.size ≤ 4 := by obtain ⟨h, he⟩ := List.getElem?_eq_some_iff.1 hx; rw [← he]; exact HLs.out _ (List.getElem_mem h)
  have hXc : ∀ w0, SA w0 (some ⟨gl, 0, none⟩) L → w0.cell? ⟨gl, i, none⟩ = some (.string x) := fun w0 h => by
    obtain ⟨hi', he⟩ := List.getElem?_eq_some_iff.1 hx
    obtain ⟨b, o, e, hc⟩ := h i hi'
    injection e with e
    injection e with e1 e2
    subst e1 e2
    rw [Nat.zero_add, he] at hc
    exact hc
  have HXc : Hid _ := hXc
  have hLH : ∀ w0, Calls Tryd.prog 54 #[.string x] w0 fun e w' => e = .returned (.string (leafA x)) ∧ Below w0.heap.size w0 w' := fun w0 => specLeafH x w0 (by unfold maxLen; omega)
  have hx0 := leafA_small x
  have hy0 := rootA_small L
  have HFw : Hid (Few (incL L (i : Int)) 400) := few_inc (by have := HLm.out; omega) _
  have hTR : ∀ w0, SA w0 (some ⟨gl, 0, none⟩) L → Calls Tryd.prog 10 #[.slice (some ⟨gl, 0, none⟩) m cl] w0 fun e w' => e = .returned (.string (rootA L)) ∧ Below w0.heap.size w0 w' := fun w0 h => specTree _ cl m L w0 HLm.out hcl h (by omega) (by unfold maxLen at hml; omega) (fun x hx => by have := HLs.out x hx; unfold maxLen; omega)
  generalize leafA x = X at *
  generalize rootA L = Y at *
  generalize incL L (i : Int) = P at *
  generalize prfC L 0 (i : Int) = z at *
  have hfp := field_prf
  have i0 : (0 : Int) ≤ (i : Int) := by omega
  have i1 : (i : Int) < (m : Int) := by omega
  clear hx hXc
  go_wp2_with (first
    | (go_at_call 53; refine (hSP _ HSA.out).mono ?_; rintro e w5 ⟨u, rfl, hM5, hB5⟩; have S5 := HSA.out.below hB5; have c5 := HXc.out w5 S5)
    | (go_at_call 54; refine (hLH _).mono ?_; rintro e w6 ⟨rfl, hB6⟩; have S6 := S5.below hB6)
    | (go_at_call 10; refine (hTR _ S6).mono ?_; rintro e w7 ⟨rfl, hB7⟩; have HE7 : Hid (KpE w w4.heap.size g a len cap u P w7) := KpE.call (KpE.call (KpE.first HK4 hM5 hB5 hg) hB6) hB7; clear hB5 hB6 hB7 S5 S6 c5 hM5)
    | fail)
  have HO3 : Hid _ := one_any g len cap a 3 w7 HE7.out.src (by omega) (by omega)
  refine Calls.mono HO3.out ?_
  rintro e w8 ⟨bb, rfl, k1, k2⟩
  have HE8 := KpE.draw HE7 k1 k2
  clear k1 k2 HE7 HO3 HK4 HSA HLs HLm H2 HR1 hSP hTR
  cases bb
  case false =>
    go_wp2
    exact bodyPost_ret (v := .tuple #[.string X, .int .i64 (i : Int), .int .i64 (m : Int), u, .string Y]) (by simp [results, Tryd.results18, go_sem]) rfl ⟨X, Y, (i : Int), (m : Int), u, P, rfl, (by omega), (by omega), (i64_of (by omega)), (i64_of (by omega)), (HFw.out.mono (by omega)), HE8.out.may.may, HE8.out.below⟩
  have HN5 : Hid _ := n_any g len cap a 5 w8 HE8.out.src (by omega) (by omega)
  go_wp2_with fail
  refine Calls.mono HN5.out ?_
  rintro e w9 ⟨z5, rfl, hz0, hz1, k1, k2⟩
  have HE9 := KpE.draw HE8 k1 k2
  clear k1 k2 HE8 HN5
  rcases (by omega : z5 = 0 ∨ z5 = 1 ∨ z5 = 2 ∨ z5 = 3 ∨ z5 = 4) with rfl | rfl | rfl | rfl | rfl
  · as_aux_lemma =>
    have HEd : Hid _ := edge_any g len cap a w9 HE9.out.src
    go_wp2_with fail
    refine Calls.mono HEd.out ?_
    rintro e w10 ⟨q, rfl, hq, k1, k2⟩
    have HE10 := KpE.draw HE9 k1 k2
    have B11 : Below w10.heap.size w10 (w10.alloc (.cells #[.int .i64 (-1), .int .i64 ((i : Int) + 1), .int .i64 (m : Int), .int .i64 q] 2)) := (Below.refl _ _).alloc (Nat.le_refl _) _
    have HE11 := KpE.call HE10 B11
    have HC11 : Hid _ := four_cell w10 2 (-1) ((i : Int) + 1) (m : Int) q (i64_of (by omega)) (i64_of (by omega)) (i64_of (by omega)) hq
    have HN4 : Hid _ := n_any g len cap a 4 _ HE11.out.src (by omega) (by omega)
    have hgw : g < w10.heap.size := HE10.out.src.room
    clear k1 k2 HE10 B11 HEd
    go_wp2_with fail
    refine Calls.mono HN4.out ?_
    rintro e w12 ⟨j0, rfl, hj0, hj1, k1, k2⟩
    obtain ⟨j, rfl⟩ := Int.eq_ofNat_of_zero_le hj0
    obtain ⟨q2, hq2, hc11⟩ := HC11.out j (by omega)
    have hc12 := k2.cell hc11 (by intro e; injection e with e; have : w10.heap.size = g := e; omega)
    have HE12 := KpE.draw HE11 k1 k2
    have j0' : (0 : Int) ≤ (j : Int) := by omega
    have j1' : (j : Int) < 4 := by omega
    clear k1 k2 HE11 HC11 HN4 hc11
    generalize w10.heap.size = g10 at *
    go_wp2
    exact bodyPost_ret (v := .tuple #[.string X, .int .i64 q2, .int .i64 (m : Int), u, .string Y]) (by simp [results, Tryd.results18, go_sem]) rfl ⟨X, Y, q2, (m : Int), u, P, rfl, (by omega), (by omega), hq2, (i64_of (by omega)), (HFw.out.mono (by omega)), HE12.out.may.may, HE12.out.below⟩
  · as_aux_lemma =>
    have HEd : Hid _ := edge_any g len cap a w9 HE9.out.src
    go_wp2_with fail
    refine Calls.mono HEd.out ?_
    rintro e w10 ⟨q, rfl, hq, k1, k2⟩
    have HE10 := KpE.draw HE9 k1 k2
    have B11 : Below w10.heap.size w10 (w10.alloc (.cells #[.int .i64 0, .int .i64 ((m : Int) + 1), .int .i64 ((m : Int) - 1), .int .i64 q] 2)) := (Below.refl _ _).alloc (Nat.le_refl _) _
    have HE11 := KpE.call HE10 B11
    have HC11 : Hid _ := four_cell w10 2 0 ((m : Int) + 1) ((m : Int) - 1) q (i64_of (by omega)) (i64_of (by omega)) (i64_of (by omega)) hq
    have HN4 : Hid _ := n_any g len cap a 4 _ HE11.out.src (by omega) (by omega)
    have hgw : g < w10.heap.size := HE10.out.src.room
    clear k1 k2 HE10 B11 HEd
    go_wp2_with fail
    refine Calls.mono HN4.out ?_
    rintro e w12 ⟨j0, rfl, hj0, hj1, k1, k2⟩
    obtain ⟨j, rfl⟩ := Int.eq_ofNat_of_zero_le hj0
    obtain ⟨q2, hq2, hc11⟩ := HC11.out j (by omega)
    have hc12 := k2.cell hc11 (by intro e; injection e with e; have : w10.heap.size = g := e; omega)
    have HE12 := KpE.draw HE11 k1 k2
    have j0' : (0 : Int) ≤ (j : Int) := by omega
    have j1' : (j : Int) < 4 := by omega
    clear k1 k2 HE11 HC11 HN4 hc11
    generalize w10.heap.size = g10 at *
    go_wp2
    exact bodyPost_ret (v := .tuple #[.string X, .int .i64 (i : Int), .int .i64 q2, u, .string Y]) (by simp [results, Tryd.results18, go_sem]) rfl ⟨X, Y, (i : Int), q2, u, P, rfl, (by omega), (by omega), (i64_of (by omega)), hq2, (HFw.out.mono (by omega)), HE12.out.may.may, HE12.out.below⟩
  · as_aux_lemma =>
    have HSp : Hid _ := spoil_any g len cap a w9 HE9.out.src u P HFw.out HE9.out.may.may
    go_wp2_with fail
    refine Calls.mono HSp.out ?_
    rintro e w10 ⟨v2, P2, rfl, hv2, hf2, hd2⟩
    have HE10 := KpE.spoilt HE9 hd2
    have HF2 : Hid (Few P2 401) := hf2
    clear HSp hd2 HE9 hv2 hf2
    go_wp2
    exact bodyPost_ret (v := .tuple #[.string X, .int .i64 (i : Int), .int .i64 (m : Int), v2, .string Y]) (by simp [results, Tryd.results18, go_sem]) rfl ⟨X, Y, (i : Int), (m : Int), v2, P2, rfl, (by omega), (by omega), (i64_of (by omega)), (i64_of (by omega)), HF2.out, HE10.out.may.may, HE10.out.below⟩
  · as_aux_lemma =>
    have HAy : Hid _ := any5 g len cap a w9 HE9.out.src
    go_wp2_with fail
    refine Calls.mono HAy.out ?_
    rintro e w10 ⟨X2, rfl, hx2, k1, k2⟩
    have HE10 := KpE.draw HE9 k1 k2
    clear HAy k1 k2 HE9
    go_wp2
    exact bodyPost_ret (v := .tuple #[.string X2, .int .i64 (i : Int), .int .i64 (m : Int), u, .string Y]) (by simp [results, Tryd.results18, go_sem]) rfl ⟨X2, Y, (i : Int), (m : Int), u, P, rfl, (by omega), (by omega), (i64_of (by omega)), (i64_of (by omega)), (HFw.out.mono (by omega)), HE10.out.may.may, HE10.out.below⟩
  · as_aux_lemma =>
    have HAy : Hid _ := any5 g len cap a w9 HE9.out.src
    go_wp2_with fail
    refine Calls.mono HAy.out ?_
    rintro e w10 ⟨Y2, rfl, hy2, k1, k2⟩
    have HE10 := KpE.draw HE9 k1 k2
    clear HAy k1 k2 HE9
    go_wp2
    exact bodyPost_ret (v := .tuple #[.string X, .int .i64 (i : Int), .int .i64 (m : Int), u, .string Y2]) (by simp [results, Tryd.results18, go_sem]) rfl ⟨X, Y2, (i : Int), (m : Int), u, P, rfl, (by omega), (by omega), (i64_of (by omega)), (i64_of (by omega)), (HFw.out.mono (by omega)), HE10.out.may.may, HE10.out.below⟩
end Go.Proofs.YtdfglpbappeoaabDoor
