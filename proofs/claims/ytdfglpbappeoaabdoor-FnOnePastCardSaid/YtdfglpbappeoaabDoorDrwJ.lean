/- The draw for ConsistencyCheck: what is told, and that nothing that was there changes. -/
import Derived.Test.YtdfglpbappeoaabDoorDrwI
namespace Go.Proofs.YtdfglpbappeoaabDoor
open Go.RowKit
set_option linter.unusedVariables false

set_option maxRecDepth 100000 in
set_option maxHeartbeats 2000000 in
theorem drawCon (len cap : Nat) (a : Option Addr) (w : World) (hb : Bytes w a len) (hs : len ≤ 9223372036854775807) :
    Calls Tryd.prog 22 #[.slice a len cap] w fun e w' => ∃ (x y : ByteArray) (i n : Int) (u : Value) (ps : List ByteArray), e = .returned (.tuple #[.int .i64 i, .int .i64 n, u, .string x, .string y]) ∧ x.size ≤ 1000 ∧ y.size ≤ 1000 ∧ I64 i ∧ I64 n ∧ Few ps 401 ∧ MayS w' u ps ∧ Below w.heap.size w w' := by
  have HS : Hid _ := source_any len cap a w hb hs
  clear hb
  go_enter Tryd.func22, Tryd.ntmps22
  go_wp2_with fail
  refine Calls.mono HS.out ?_
  rintro e w1 ⟨g, rfl, hg, h1, h2⟩
  have H2 : Hid (Below w.heap.size w w1) := h2
  have HR1 : Hid (g < w1.heap.size) := h1.room
  have HL : Hid _ := leaves_any g len cap a w1 h1
  clear h1 h2 HS
  go_wp2_with fail
  refine Calls.mono HL.out ?_
  rintro e w2 ⟨v, l, rfl, hv, hl, hO, h3, h4⟩
  have HK2 : Hid (KpD w1 g a len cap v l w2) := ⟨hO, h3, h4, HR1.out⟩
  have HV : Hid (v ≠ .slice none 0 0) := hv
  have hl65 := hl.len
  have HLs : Hid (∀ y ∈ l ++ [(⟨#[122]⟩ : ByteArray)], y.size ≤ 4) := Lvs.snoc hl.small (by decide)
  have B3 : Below w2.heap.size w2 (w2.alloc (.cells #[.string ⟨#[122]⟩] 9)) := (Below.refl _ _).alloc (Nat.le_refl _) _
  have HB3 : Hid (Below w1.heap.size w2 (w2.alloc (.cells #[.string ⟨#[122]⟩] 9))) := B3.mono h4.size
  have HO3 : Hid ((w2.alloc (.cells #[.string ⟨#[122]⟩] 9)).ownsRow w1.heap.size 9 1 v l.length (svl l)) := own_below hO B3
  have HX3 : Hid (SA (w2.alloc (.cells #[.string ⟨#[122]⟩] 9)) (some ⟨w2.heap.size, 0, none⟩) [⟨#[122]⟩]) := lit_sa w2 ⟨#[122]⟩ 9
  have hz3 : w1.heap.size ≤ (w2.alloc (.cells #[.string ⟨#[122]⟩] 9)).heap.size := Nat.le_trans h4.size B3.size
  clear h3 h4 hO hv hl HL B3
  go_wp2_with (first
    | (at_builtin; refine wpList_append_strs rfl _ _ rfl w1.heap.size v l.length 1 l [⟨#[122]⟩] rfl HO3.out w2.heap.size 0 1 rfl rfl HX3.out (by omega) hz3 ?_; intro v3 w3 hO3 hB3 hv3; obtain ⟨gl, cl, rfl, hll, hgl, hcl, hml, hsl⟩ := own_some hO3 (hv3 HV.out); have HK3 : Hid (KpD w1 g a len cap (.slice (some ⟨gl, 0, none⟩) (l.length + 1) cl) (l ++ [⟨#[122]⟩]) w3) := KpD.app HK2 (by rw [hll]; exact hO3) (HB3.out.trans hB3); clear hO3 hB3 hv3 hsl HK2 HO3 HX3 HB3 hz3 HV)
    | fail)
  obtain ⟨L, hL⟩ : ∃ L, l ++ [(⟨#[122]⟩ : ByteArray)] = L := ⟨_, rfl⟩
  obtain ⟨m, hmm⟩ : ∃ m, l.length + 1 = m := ⟨_, rfl⟩
  rw [hL] at HK3 HLs hll
  rw [hmm] at HK3 hll hcl
  have HLm : Hid (L.length = m) := hll
  have hm1 : 1 ≤ m := by omega
  have hm2 : m ≤ 66 := by omega
  have hNm : ∀ w0, SrcAt w0 g a len cap → Calls Tryd.prog 52 #[.pointer (some ⟨g, 0, none⟩), .int .i64 (m : Int)] w0 fun e w' => ∃ v : Int, e = .returned (.int .i64 v) ∧ 0 ≤ v ∧ v < (m : Int) ∧ SrcAt w' g a len cap ∧ w0.grownBy w' (some g) := fun w0 h => n_any g len cap a m w0 h (by omega) (by omega)
  have em : (l.length : Int) + 1 = (m : Int) := by omega
  simp only [hmm, em]
  clear hL hmm hl65 em hll
  refine (hNm _ HK3.out.src).mono ?_
  rintro e w4 ⟨i0, rfl, hi0, hi1, k1, k2⟩
  obtain ⟨i, rfl⟩ := Int.eq_ofNat_of_zero_le hi0
  have HK4 := KpD.draw HK3 k1 k2
  have HK4 : Hid (KpF w w1 g a len cap gl m cl L w4) := ⟨HK4.out, H2.out, HLm.out, HR1.out⟩
  have HSA : Hid (SA w4 (some ⟨gl, 0, none⟩) L) := KpF.sa HK4
  clear k1 k2 HK3 hNm hi0
  obtain ⟨k, hkk⟩ : ∃ k, 1 + i = k := ⟨_, rfl⟩
  have ek : (1 : Int) + (i : Int) = (k : Int) := by omega
  have hk1 : 1 ≤ k := by omega
  have hk2 : k ≤ m := by omega
  go_wp2_with fail
  try simp only [ek]
  clear ek hkk
  have hSP : ∀ w0, SA w0 (some ⟨gl, 0, none⟩) L → Calls Tryd.prog 63 #[.slice (some ⟨gl, 0, none⟩) m cl, .int .i64 (k : Int)] w0 fun e w' => ∃ v, e = .returned (.agg #[v, .int .i64 (prfC L 1 (k : Int))]) ∧ NewM w' w0.heap.size v (conL L (k : Int)) ∧ Below w0.heap.size w0 w' := fun w0 h => specConM _ cl m (k : Int) L w0 HLm.out hcl h (by omega) (by unfold maxLen at hml; omega) (fun x hx => by have := HLs.out x hx; unfold maxLen; omega)
  have hx0 := rootA_small (L.take k)
  have hy0 := rootA_small L
  have HFw : Hid (Few (conL L (k : Int)) 400) := few_con (by have := HLm.out; omega) hk1 (by have := HLm.out; omega)
  have hTk : ∀ w0, SA w0 (some ⟨gl, 0, none⟩) L → Calls Tryd.prog 10 #[.slice (some ⟨gl, 0, none⟩) k cl] w0 fun e w' => e = .returned (.string (rootA (L.take k))) ∧ Below w0.heap.size w0 w' := fun w0 h => specTree _ cl k (L.take k) w0 (by rw [List.length_take]; have := HLm.out; omega) (by omega) (h.take k) (by omega) (by unfold maxLen at hml; omega) (fun x hx => by have := HLs.out x (List.mem_of_mem_take hx); unfold maxLen; omega)
  have hTR : ∀ w0, SA w0 (some ⟨gl, 0, none⟩) L → Calls Tryd.prog 10 #[.slice (some ⟨gl, 0, none⟩) m cl] w0 fun e w' => e = .returned (.string (rootA L)) ∧ Below w0.heap.size w0 w' := fun w0 h => specTree _ cl m L w0 HLm.out hcl h (by omega) (by unfold maxLen at hml; omega) (fun x hx => by have := HLs.out x hx; unfold maxLen; omega)
  generalize rootA (L.take k) = X at *
  generalize rootA L = Y at *
  generalize conL L (k : Int) = P at *
  generalize prfC L 1 (k : Int) = z at *
  have hfp := field_prf
  have s1 := Tryd.sliceLo gl 0 m cl k (by omega)
  go_wp2_with (first
    | (go_at_call 63; refine (hSP _ HSA.out).mono ?_; rintro e w5 ⟨u, rfl, hM5, hB5⟩; have S5 := HSA.out.below hB5)
    | (go_at_call 10; with_reducible refine (hTk _ S5).mono ?_; rintro e w6 ⟨rfl, hB6⟩; have S6 := S5.below hB6)
    | (go_at_call 10; with_reducible refine (hTR _ S6).mono ?_; rintro e w7 ⟨rfl, hB7⟩; have HE7 := KpE.call (KpE.call (KpE.first HK4 hM5 hB5 hg) hB6) hB7; clear hB5 hB6 hB7 S5 S6 hM5)
    | fail)
  have HO3 : Hid _ := one_any g len cap a 3 w7 HE7.out.src (by omega) (by omega)
  refine Calls.mono HO3.out ?_
  rintro e w8 ⟨bb, rfl, k1, k2⟩
  have HE8 := KpE.draw HE7 k1 k2
  clear k1 k2 HE7 HO3 HK4 HSA HLs HLm H2 HR1 hSP hTR
  cases bb
  case false =>
    go_wp2
    exact bodyPost_ret (v := .tuple #[.int .i64 (k : Int), .int .i64 (m : Int), u, .string X, .string Y]) (by simp [results, Tryd.results22, go_sem]) rfl ⟨X, Y, (k : Int), (m : Int), u, P, rfl, (by omega), (by omega), (i64_of (by omega)), (i64_of (by omega)), (HFw.out.mono (by omega)), HE8.out.may.may, HE8.out.below⟩
  have HN5 : Hid _ := n_any g len cap a 5 w8 HE8.out.src (by omega) (by omega)
  go_wp2_with fail
  refine Calls.mono HN5.out ?_
  rintro e w9 ⟨z5, rfl, hz0, hz1, k1, k2⟩
  have HE9 := KpE.draw HE8 k1 k2
  clear k1 k2 HE8 HN5
  rcases (by omega : z5 = 0 ∨ z5 = 1 ∨ z5 = 2 ∨ z5 = 3 ∨ z5 = 4) with rfl | rfl | rfl | rfl | rfl
  · as_aux_lemma =>
    have HEd : Hid _ := edge_any g len cap a w9 HE9.out.src
    go_wp2_with fail
    refine Calls.mono HEd.out ?_
    rintro e w10 ⟨q, rfl, hq, k1, k2⟩
    have HE10 := KpE.draw HE9 k1 k2
    have B11 : Below w10.heap.size w10 (w10.alloc (.cells #[.int .i64 0, .int .i64 ((k : Int) + 1), .int .i64 (m : Int), .int .i64 q] 2)) := (Below.refl _ _).alloc (Nat.le_refl _) _
    have HE11 := KpE.call HE10 B11
    have HC11 : Hid _ := four_cell w10 2 0 ((k : Int) + 1) (m : Int) q (i64_of (by omega)) (i64_of (by omega)) (i64_of (by omega)) hq
    have HN4 : Hid _ := n_any g len cap a 4 _ HE11.out.src (by omega) (by omega)
    have hgw : g < w10.heap.size := HE10.out.src.room
    clear k1 k2 HE10 B11 HEd
    go_wp2_with fail
    refine Calls.mono HN4.out ?_
    rintro e w12 ⟨j0, rfl, hj0, hj1, k1, k2⟩
    obtain ⟨j, rfl⟩ := Int.eq_ofNat_of_zero_le hj0
    obtain ⟨q2, hq2, hc11⟩ := HC11.out j (by omega)
    have hc12 := k2.cell hc11 (by intro e; injection e with e; have : w10.heap.size = g := e; omega)
    have HE12 := KpE.draw HE11 k1 k2
    have j0' : (0 : Int) ≤ (j : Int) := by omega
    have j1' : (j : Int) < 4 := by omega
    clear k1 k2 HE11 HC11 HN4 hc11
    generalize w10.heap.size = g10 at *
    go_wp2
    exact bodyPost_ret (v := .tuple #[.int .i64 q2, .int .i64 (m : Int), u, .string X, .string Y]) (by simp [results, Tryd.results22, go_sem]) rfl ⟨X, Y, q2, (m : Int), u, P, rfl, (by omega), (by omega), hq2, (i64_of (by omega)), (HFw.out.mono (by omega)), HE12.out.may.may, HE12.out.below⟩
  · as_aux_lemma =>
    have HEd : Hid _ := edge_any g len cap a w9 HE9.out.src
    go_wp2_with fail
    refine Calls.mono HEd.out ?_
    rintro e w10 ⟨q, rfl, hq, k1, k2⟩
    have HE10 := KpE.draw HE9 k1 k2
    have B11 : Below w10.heap.size w10 (w10.alloc (.cells #[.int .i64 0, .int .i64 ((m : Int) + 1), .int .i64 ((m : Int) - 1), .int .i64 q] 2)) := (Below.refl _ _).alloc (Nat.le_refl _) _
    have HE11 := KpE.call HE10 B11
    have HC11 : Hid _ := four_cell w10 2 0 ((m : Int) + 1) ((m : Int) - 1) q (i64_of (by omega)) (i64_of (by omega)) (i64_of (by omega)) hq
    have HN4 : Hid _ := n_any g len cap a 4 _ HE11.out.src (by omega) (by omega)
    have hgw : g < w10.heap.size := HE10.out.src.room
    clear k1 k2 HE10 B11 HEd
    go_wp2_with fail
    refine Calls.mono HN4.out ?_
    rintro e w12 ⟨j0, rfl, hj0, hj1, k1, k2⟩
    obtain ⟨j, rfl⟩ := Int.eq_ofNat_of_zero_le hj0
    obtain ⟨q2, hq2, hc11⟩ := HC11.out j (by omega)
    have hc12 := k2.cell hc11 (by intro e; injection e with e; have : w10.heap.size = g := e; omega)
    have HE12 := KpE.draw HE11 k1 k2
    have j0' : (0 : Int) ≤ (j : Int) := by omega
    have j1' : (j : Int) < 4 := by omega
    clear k1 k2 HE11 HC11 HN4 hc11
    generalize w10.heap.size = g10 at *
    go_wp2
    exact bodyPost_ret (v := .tuple #[.int .i64 (k : Int), .int .i64 q2, u, .string X, .string Y]) (by simp [results, Tryd.results22, go_sem]) rfl ⟨X, Y, (k : Int), q2, u, P, rfl, (by omega), (by omega), (i64_of (by omega)), hq2, (HFw.out.mono (by omega)), HE12.out.may.may, HE12.out.below⟩
  · as_aux_lemma =>
    have HSp : Hid _ := spoil_any g len cap a w9 HE9.out.src u P HFw.out HE9.out.may.may
    go_wp2_with fail
    refine Calls.mono HSp.out ?_
    rintro e w10 ⟨v2, P2, rfl, hv2, hf2, hd2⟩
    have HE10 := KpE.spoilt HE9 hd2
    have HF2 : Hid (Few P2 401) := hf2
    clear HSp hd2 HE9 hv2 hf2
    go_wp2
    exact bodyPost_ret (v := .tuple #[.int .i64 (k : Int), .int .i64 (m : Int), v2, .string X, .string Y]) (by simp [results, Tryd.results22, go_sem]) rfl ⟨X, Y, (k : Int), (m : Int), v2, P2, rfl, (by omega), (by omega), (i64_of (by omega)), (i64_of (by omega)), HF2.out, HE10.out.may.may, HE10.out.below⟩
  · as_aux_lemma =>
    have HAy : Hid _ := any5 g len cap a w9 HE9.out.src
    go_wp2_with fail
    refine Calls.mono HAy.out ?_
    rintro e w10 ⟨X2, rfl, hx2, k1, k2⟩
    have HE10 := KpE.draw HE9 k1 k2
    clear HAy k1 k2 HE9
    go_wp2
    exact bodyPost_ret (v := .tuple #[.int .i64 (k : Int), .int .i64 (m : Int), u, .string X2, .string Y]) (by simp [results, Tryd.results22, go_sem]) rfl ⟨X2, Y, (k : Int), (m : Int), u, P, rfl, (by omega), (by omega), (i64_of (by omega)), (i64_of (by omega)), (HFw.out.mono (by omega)), HE10.out.may.may, HE10.out.below⟩
  · as_aux_lemma =>
    have HAy : Hid _ := any5 g len cap a w9 HE9.out.src
    go_wp2_with fail
    refine Calls.mono HAy.out ?_
    rintro e w10 ⟨Y2, rfl, hy2, k1, k2⟩
    have HE10 := KpE.draw HE9 k1 k2
    clear HAy k1 k2 HE9
    go_wp2
    exact bodyPost_ret (v := .tuple #[.int .i64 (k : Int), .int .i64 (m : Int), u, .string X, .string Y2]) (by simp [results, Tryd.results22, go_sem]) rfl ⟨X, Y2, (k : Int), (m : Int), u, P, rfl, (by omega), (by omega), (i64_of (by omega)), (i64_of (by omega)), (HFw.out.mono (by omega)), HE10.out.may.may, HE10.out.below⟩
end Go.Proofs.YtdfglpbappeoaabDoor
