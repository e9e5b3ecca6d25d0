/- The law on leaves: each leaf of drawn leaves is shown to be in their tree, and any first ones to be its beginning. -/
import Derived.Test.YtdfglpbappeoaabDoorConE
import Derived.Test.YtdfglpbappeoaabDoorJn8
import Derived.Test.YtdfglpbappeoaabDoorLvM
import Derived.Test.YtdfglpbappeoaabDoorDrwT
import Derived.Test.YtdfglpbappeoaabDoorDrwD
namespace Go.Proofs.YtdfglpbappeoaabDoor
open Go.RowKit
set_option linter.unusedVariables false

theorem prT_ne {l : List ByteArray} {k : Nat} (h1 : 1 ≤ k) (h2 : k < l.length) : prT l k true ≠ [] := by
  by_cases hk : k ≤ Mer.half l.length
  · rw [prT_lo h1 h2 hk]; simp
  · rw [prT_hi h1 h2 (by omega)]; simp
theorem txt_some {T : ByteArray} (h : 0 < T.size) : T.toList.isEmpty = false := by
  rw [ByteArray.toList_eq]
  cases hd : T.data.toList with
  | nil =>
    have : T.size = 0 := by
      show T.data.size = 0
      rw [← Array.length_toList, hd]; rfl
    omega
  | cons a b => rfl
theorem rootA_size {l : List ByteArray} (h : okLv l = true) : (rootA l).size = 32 := by rw [rootA_ok h]; exact rtT_size l
theorem Lvs.ok {l : List ByteArray} (h : Lvs l) : okLv l = decide (l.length ≤ 64) := by
  by_cases h1 : l.length ≤ 64
  · rw [decide_eq_true h1]; exact okLv_yes ⟨h1, fun x hx => by have := h.small x hx; omega⟩
  · rw [decide_eq_false h1]; exact okLv_no (fun e => h1 e.1)
/- The last call of the law. -/
theorem conT {l : List ByteArray} (ho : okLv l = true) {k n : Nat} (hn : l.length = n) (h1 : 1 ≤ k) (h2 : k ≤ n) (a2 : Option Addr) (c2 : Nat) (w : World) (hc : (conL l (k : Int)).length ≤ c2) (hA : SA w a2 (conL l (k : Int))) (hk : ArrU w 8 keys) (h0 : 8 < w.heap.size) :
    Calls Tryd.prog 17 #[.int .i64 (k : Int), .int .i64 (n : Int), .slice a2 (conL l (k : Int)).length c2, .string (rootA (l.take k)), .string (rootA l)] w fun e w' => e = .returned (.bool true) ∧ Below w.heap.size w w' := by
  subst hn
  have h64 := (okLv_of ho).1
  have hB := con_true ho h1 h2
  have hlen := con_len ho h1 h2
  have s1 : (rootA (l.take k)).size = 32 := rootA_size (okLv_take ho k)
  have s2 : (rootA l).size = 32 := rootA_size ho
  have hs : ∀ x ∈ conL l (k : Int), x.size = 32 := by
    rw [(conL_ok ho h1 h2).2]
    exact prT_hs l.length l k true (Nat.le_refl _) h1 h2
  have m1 : (rootA (l.take k)).size ≤ maxLen := by rw [s1]; decide
  have m2 : (rootA l).size ≤ maxLen := by rw [s2]; decide
  have m3 : ∀ x ∈ conL l (k : Int), x.size ≤ maxLen := fun x hx => by rw [hs x hx]; decide
  by_cases hk2 : k = l.length
  · have hok : ConOk (k : Int) (l.length : Int) (conL l (k : Int)) (rootA (l.take k)) (rootA l) := by
      refine ⟨s1, s2, by omega, okHs_yes hs, by omega, by omega, by omega, by omega⟩
    have := conIE (rootA (l.take k)) (rootA l) (k : Int) (l.length : Int) a2 c2 _ (conL l (k : Int)) w rfl hA m1 m2 (by omega) m3 hk h0 hok (by rw [hk2])
    rw [← conB_yes hok, hB] at this
    exact this
  · have hne : conL l (k : Int) ≠ [] := by rw [(conL_ok ho h1 h2).2]; exact prT_ne h1 (by omega)
    obtain ⟨b, o, rfl⟩ := hA.base (List.length_pos_iff.2 hne)
    have := conI (rootA (l.take k)) (rootA l) (k : Int) (l.length : Int) b o c2 _ (conL l (k : Int)) w rfl hc hA m1 m2 (by omega) m3 (by simp [Lit.wf, IntKind.min, IntKind.max, IntKind.signed, IntKind.bits]; omega) (by simp [Lit.wf, IntKind.min, IntKind.max, IntKind.signed, IntKind.bits]; omega) hk h0
    rw [hB] at this
    exact this
theorem incT {l : List ByteArray} (ho : okLv l = true) {i n : Nat} (hn : l.length = n) (hi : i < n) (x : ByteArray) (hx : l[i]? = some x) (a1 : Option Addr) (c1 : Nat) (w : World) (hc : (incL l (i : Int)).length ≤ c1) (hA : SA w a1 (incL l (i : Int))) (hk : ArrU w 8 keys) (h0 : 8 < w.heap.size) :
    Calls Tryd.prog 15 #[.string (leafA x), .int .i64 (i : Int), .int .i64 (n : Int), .slice a1 (incL l (i : Int)).length c1, .string (rootA l)] w fun e w' => e = .returned (.bool true) ∧ Below w.heap.size w w' := by
  subst hn
  obtain rfl : l[i] = x := by rw [List.getElem?_eq_getElem hi] at hx; exact Option.some.inj hx
  have h64 := (okLv_of ho).1
  have hB := inc_true ho hi
  have hlen := inc_len ho hi
  have s2 : (rootA l).size = 32 := rootA_size ho
  have s1 : (leafA l[i]).size = 32 := by rw [leafA_ok ho hi]; exact leafD_size _
  have hs : ∀ x ∈ incL l (i : Int), x.size = 32 := by
    rw [(incL_ok ho hi).2]
    exact pthT_hs l.length l i (Nat.le_refl _)
  have := incI (leafA l[i]) (rootA l) (i : Int) (l.length : Int) a1 c1 _ (incL l (i : Int)) w rfl hc hA (by rw [s1]; decide) (by rw [s2]; decide) (by omega) (fun x hx => by rw [hs x hx]; decide) (by simp [Lit.wf, IntKind.min, IntKind.max, IntKind.signed, IntKind.bits]; omega) (by simp [Lit.wf, IntKind.min, IntKind.max, IntKind.signed, IntKind.bits]; omega) hk h0
  rw [hB] at this
  exact this
/- What stands in the law's last line. -/
structure KpL (w : World) (g : Nat) (l : List ByteArray) (g1 g2 : Nat) (x1 x2 : Value) (a1 a2 : Option Addr) (P1 P2 : List ByteArray) (w' : World) : Prop where
  below : Below w.heap.size w w'
  sa : SA w' (some ⟨g, 0, none⟩) l
  arr : ArrU w' 8 keys
  pos : 8 < w'.heap.size
  v1 : RowV w' g1 [x1, .int .i64 0]
  v2 : RowV w' g2 [x2, .int .i64 0]
  s1 : SA w' a1 P1
  s2 : SA w' a2 P2
theorem KpL.call {w w' w2 : World} {g : Nat} {l : List ByteArray} {g1 g2 : Nat} {x1 x2 : Value} {a1 a2 : Option Addr} {P1 P2 : List ByteArray} (h : Hid (KpL w g l g1 g2 x1 x2 a1 a2 P1 P2 w')) (hb : Below w'.heap.size w' w2) : Hid (KpL w g l g1 g2 x1 x2 a1 a2 P1 P2 w2) :=
  ⟨h.out.below.trans (hb.mono h.out.below.size), h.out.sa.below hb, h.out.arr.below hb h.out.pos, Nat.lt_of_lt_of_le h.out.pos hb.size, h.out.v1.below hb (h.out.v1.lt (by simp)), h.out.v2.below hb (h.out.v2.lt (by simp)), h.out.s1.below hb, h.out.s2.below hb⟩
theorem KpL.make {w w' : World} {g : Nat} {l : List ByteArray} {g1 g2 : Nat} {x1 x2 : Value} {a1 a2 : Option Addr} {P1 P2 : List ByteArray} (h : Hid (KpT w (some ⟨g, 0, none⟩) l w')) (v1 : RowV w' g1 (pvl x1 0)) (v2 : RowV w' g2 (pvl x2 0)) (s1 : SA w' a1 P1) (s2 : SA w' a2 P2) : Hid (KpL w g l g1 g2 x1 x2 a1 a2 P1 P2 w') :=
  ⟨h.out.below, h.out.sa, h.out.arr, h.out.pos, v1, v2, s1, s2⟩
theorem KpL.c1 {w w' : World} {g : Nat} {l : List ByteArray} {g1 g2 : Nat} {x1 x2 : Value} {a1 a2 : Option Addr} {P1 P2 : List ByteArray} (h : Hid (KpL w g l g1 g2 x1 x2 a1 a2 P1 P2 w')) : w'.cell? ⟨g1, 0, none⟩ = some x1 ∧ w'.cell? ⟨g1, 1, none⟩ = some (.int .i64 0) := ⟨h.out.v1.cell (k := 0) rfl, h.out.v1.cell (k := 1) rfl⟩
theorem KpL.c2 {w w' : World} {g : Nat} {l : List ByteArray} {g1 g2 : Nat} {x1 x2 : Value} {a1 a2 : Option Addr} {P1 P2 : List ByteArray} (h : Hid (KpL w g l g1 g2 x1 x2 a1 a2 P1 P2 w')) : w'.cell? ⟨g2, 0, none⟩ = some x2 ∧ w'.cell? ⟨g2, 1, none⟩ = some (.int .i64 0) := ⟨h.out.v2.cell (k := 0) rfl, h.out.v2.cell (k := 1) rfl⟩
theorem KpL.drew {w w' : World} {g : Nat} {l : List ByteArray} {g1 g2 : Nat} {x1 x2 : Value} {a1 a2 : Option Addr} {P1 P2 : List ByteArray} (h : Hid (KpL w g l g1 g2 x1 x2 a1 a2 P1 P2 w')) : Hid (KpL w g l g1 g2 x1 x2 a1 a2 P1 P2 w'.drew) :=
  ⟨h.out.below.drew, h.out.sa.drew, h.out.arr.drew, h.out.pos, h.out.v1.drew, h.out.v2.drew, h.out.s1.drew, h.out.s2.drew⟩
theorem KpL.four {w w' : World} {g i : Nat} {l : List ByteArray} {g1 g2 : Nat} {x1 x2 : Value} {x : ByteArray} {a1 a2 : Option Addr} {P1 P2 : List ByteArray} (h : Hid (KpL w g l g1 g2 x1 x2 a1 a2 P1 P2 w')) (hx : Hid (l[i]? = some x)) : w'.cell? ⟨g, i, none⟩ = some (.string x) ∧ w'.cell? ⟨g1, 0, none⟩ = some x1 ∧ w'.cell? ⟨g2, 0, none⟩ = some x2 ∧ Hid (KpL w g l g1 g2 x1 x2 a1 a2 P1 P2 w') := by
  refine ⟨?_, h.out.v1.cell (k := 0) rfl, h.out.v2.cell (k := 0) rfl, h⟩
  have hx' := hx.out
  obtain ⟨hi, he⟩ := List.getElem?_eq_some_iff.1 hx'
  obtain ⟨b, o, e, hc⟩ := h.out.sa i hi
  injection e with e
  injection e with e1 e2
  subst e1 e2
  rw [Nat.zero_add, he] at hc
  exact hc
set_option maxRecDepth 100000 in
set_option maxHeartbeats 2000000 in
theorem lawLeaves (l0 c0 l1 c1 : Nat) (a0 a1 : Option Addr) (w : World) (hb0 : Bytes w a0 l0) (hs0 : l0 ≤ 9223372036854775807)
    (hb1 : Bytes w a1 l1) (hs1 : l1 ≤ 9223372036854775807) (hk : ArrU w 8 keys) (h0 : 8 < w.heap.size) :
    Calls Tryd.prog 3 #[.slice a0 l0 c0, .slice a1 l1 c1] w fun e w' => e = .returned (.bool true) ∧ Below w.heap.size w w' := by
  have HK : Hid (ArrU w 8 keys) := hk
  by_cases hbig : 1048576 < l0
  · clear hb0 hb1 hk
    go_enter Tryd.func3, Tryd.ntmps3
    go_wp2_with fail
    go_ret
    exact ⟨rfl, Below.refl _ _⟩
  by_cases hbig1 : 1048576 < l1
  · clear hb0 hb1 hk
    go_enter Tryd.func3, Tryd.ntmps3
    go_wp2_with fail
    go_ret
    exact ⟨rfl, Below.refl _ _⟩
  have HD0 : Hid _ := drawTree l0 c0 a0 w hb0 hs0
  have HLw : Hid (∀ (k m : Nat) (w1 : World), Below w.heap.size w w1 → k ≤ 1000000 → 0 < m → m ≤ 1000000000 → Calls Tryd.prog 12 #[.slice a1 l1 c1, .int .i64 (k : Int), .int .i64 (m : Int)] w1 fun e w' => ∃ v : Nat, e = .returned (.int .i64 (v : Int)) ∧ v < m ∧ w1 = w') :=
    fun k m w1 h h1 h2 h3 => (lwAt_any l1 c1 k m a1 w1 (hb1.later h) hs1 h1 h2 h3).mono (by rintro e w' ⟨v, h1, h2, h3⟩; exact ⟨v, h1, h2, h3.symm⟩)
  clear hb0 hb1 hk
  go_enter Tryd.func3, Tryd.ntmps3
  go_wp2_with fail
  refine Calls.mono HD0.out ?_
  rintro e w1 ⟨v, l, rfl, hv, hl, hO, hB1⟩
  obtain ⟨g, c, rfl, -, hg, hc, hm, hsa⟩ := own_some hO hv
  have HS : Hid (KpT w (some ⟨g, 0, none⟩) l w1) := ⟨hB1, hsa, HK.out.below hB1 h0, Nat.lt_of_lt_of_le h0 hB1.size⟩
  have hoE := hl.ok
  have hl65 := hl.len
  have HX : Hid (∀ x ∈ l, x.size ≤ maxLen) := fun x hx => by have := hl.small x hx; unfold maxLen; omega
  obtain ⟨n, hn⟩ : ∃ n, l.length = n := ⟨_, rfl⟩
  rw [hn] at hc hl65 hoE ⊢
  have HN : Hid (l.length = n) := hn
  have hT : ∀ w0, Hid (KpT w (some ⟨g, 0, none⟩) l w0) → Calls Tryd.prog 9 #[.slice (some ⟨g, 0, none⟩) n c] w0 fun e w' => e = .returned (.string (rootA l)) ∧ Below w0.heap.size w0 w' := fun w0 h => treeI _ c n l w0 HN.out hc h.out.sa (by omega) (by unfold maxLen at hm; omega) HX.out h.out.arr h.out.pos
  have hSt : ∀ w0, Hid (KpT w (some ⟨g, 0, none⟩) l w0) → Calls Tryd.prog 10 #[.slice (some ⟨g, 0, none⟩) n c] w0 fun e w' => e = .returned (.string (rootA l)) ∧ Below w0.heap.size w0 w' := fun w0 h => specTree _ c n l w0 HN.out hc h.out.sa (by omega) (by unfold maxLen at hm; omega) HX.out
  have e1 : (1 : Int) + 0 = 1 := rfl
  by_cases hn64 : n ≤ 64
  case neg =>
    have hRt : rootA l = ⟨#[]⟩ := by unfold rootA; rw [hoE, decide_eq_false hn64]; rfl
    rw [hRt] at hT hSt
    have p1 : decide ((0 : Int) < (n : Int)) = true := decide_eq_true (by omega)
    have p2 : decide (0 < n) = true := decide_eq_true (by omega)
    clear hRt hoE HD0 hO hv hl hsa hB1 HLw hn
    go_wp2_with (first
      | (go_at_call 9; refine (hT _ HS).mono ?_; rintro e w2 ⟨rfl, hB2⟩; have HS2 := KpT.hid HS hB2)
      | (go_at_call 10; refine (hSt _ HS2).mono ?_; rintro e w3 ⟨rfl, hB3⟩; have HS3 := KpT.hid HS2 hB3))
    go_ret
    exact ⟨rfl, HS3.out.below⟩
  have ho : okLv l = true := by rw [hoE]; exact decide_eq_true hn64
  have hTs := rootA_size ho
  by_cases hn0 : n = 0
  · have hRt : rootA l = emptyD := by rw [rootA_ok ho, List.length_eq_zero_iff.1 (hn.trans hn0)]; exact rtT_nil
    rw [hRt] at hT hSt hTs
    have hD : ∀ w0, Hid (KpT w (some ⟨g, 0, none⟩) l w0) → Calls Tryd.prog 11 #[.string ⟨#[]⟩] w0 fun e w' => e = .returned (.string emptyD) ∧ Below w0.heap.size w0 w' := fun w0 h => digestI_any ⟨#[]⟩ w0 (by decide) h.out.arr h.out.pos
    have t1 := txt_some (T := emptyD) (by omega)
    have t2 := txt_eq emptyD
    subst hn0
    generalize emptyD = T at *
    clear hRt hoE HD0 hO hv hl hsa hB1 HLw hn hTs ho
    go_wp2_with (first
      | (go_at_call 9; refine (hT _ HS).mono ?_; rintro e w2 ⟨rfl, hB2⟩; have HS2 := KpT.hid HS hB2)
      | (go_at_call 10; refine (hSt _ HS2).mono ?_; rintro e w3 ⟨rfl, hB3⟩; have HS3 := KpT.hid HS2 hB3)
      | (go_at_call 11; refine (hD _ HS3).mono ?_; rintro e w4 ⟨rfl, hB4⟩; have HS4 := KpT.hid HS3 hB4))
    go_ret
    exact ⟨rfl, HS4.out.below⟩
  have t1 := txt_some (T := rootA l) (by omega)
  have t2 := txt_eq (rootA l)
  have n0 : ((n : Int) == 0) = false := beq_eq_false_iff_ne.2 (by omega)
  have lw0 : ∀ w1, Hid (KpT w (some ⟨g, 0, none⟩) l w1) → Calls Tryd.prog 12 #[.slice a1 l1 c1, .int .i64 0, .int .i64 (n : Int)] w1 fun e w' => ∃ v : Nat, e = .returned (.int .i64 (v : Int)) ∧ v < n ∧ w1 = w' := fun w1 h => HLw.out 0 n w1 h.out.below (by omega) (by omega) (by omega)
  have lw1 : ∀ w1, Hid (KpT w (some ⟨g, 0, none⟩) l w1) → Calls Tryd.prog 12 #[.slice a1 l1 c1, .int .i64 1, .int .i64 (n : Int)] w1 fun e w' => ∃ v : Nat, e = .returned (.int .i64 (v : Int)) ∧ v < n ∧ w1 = w' := fun w1 h => HLw.out 1 n w1 h.out.below (by omega) (by omega) (by omega)
  obtain ⟨T, hTT⟩ : ∃ T, rootA l = T := ⟨_, rfl⟩
  have HTT : Hid (rootA l = T) := hTT
  rw [hTT] at hT hSt t1 t2
  have HO : Hid (okLv l = true) := ho
  clear hoE HD0 hO hv hl hsa hB1 HLw hTs ho hTT hn
  go_wp2_with (first
    | (go_at_call 9; refine (hT _ HS).mono ?_; rintro e w2 ⟨rfl, hB2⟩; have HS2 := KpT.hid HS hB2)
    | (go_at_call 10; refine (hSt _ HS2).mono ?_; rintro e w3 ⟨rfl, hB3⟩; have HS3 := KpT.hid HS2 hB3)
    | (go_at_call 12; with_reducible refine (lw0 _ HS3).mono ?_; rintro e w4 ⟨i, rfl, hi, rfl⟩)
    | (go_at_call 12; with_reducible refine (lw1 _ HS3).mono ?_; rintro e w5 ⟨j, rfl, hj, rfl⟩))
  obtain ⟨k, hkk⟩ : ∃ k, 1 + j = k := ⟨_, rfl⟩
  have ek : (1 : Int) + (j : Int) = (k : Int) := by omega
  simp only [ek]
  have hk1 : 1 ≤ k := by omega
  have hk2 : k ≤ n := by omega
  clear ek hkk hj lw0 lw1 hT hSt
  obtain ⟨x, hx⟩ : ∃ x, l[i]? = some x := ⟨l[i]'(by have := HN.out; omega), List.getElem?_eq_getElem _⟩
  have HXi : Hid (l[i]? = some x) := hx
  have hIL := inc_len HO.out (i := i) (by have := HN.out; omega)
  have hCL := con_len HO.out hk1 (by rw [HN.out]; exact hk2)
  have hIP : ∀ w0, Hid (KpT w (some ⟨g, 0, none⟩) l w0) → Calls Tryd.prog 13 #[.slice (some ⟨g, 0, none⟩) n c, .int .i64 (i : Int)] w0 fun e w' => ∃ a1 c1, e = .returned (.agg #[.slice a1 (incL l (i : Int)).length c1, .int .i64 0]) ∧ (incL l (i : Int)).length ≤ c1 ∧ Hid (SA w' a1 (incL l (i : Int))) ∧ Below w0.heap.size w0 w' := fun w0 h => by
    have := incPI _ c n (i : Int) l w0 HN.out hc h.out.sa (by omega) hm HX.out (by simp [Lit.wf, IntKind.min, IntKind.max, IntKind.signed, IntKind.bits]; omega) h.out.arr h.out.pos
    refine this.mono ?_
    rintro e w' ⟨v, rfl, hv, hb⟩
    obtain ⟨a1, c1, rfl, h1, h2, h3⟩ := hv.sa
    exact ⟨a1, c1, by rw [(incL_ok HO.out (by rw [HN.out]; exact hi)).1]; rfl, h1, h3, hb⟩
  have hCP : ∀ w0, Hid (KpT w (some ⟨g, 0, none⟩) l w0) → Calls Tryd.prog 14 #[.slice (some ⟨g, 0, none⟩) n c, .int .i64 (k : Int)] w0 fun e w' => ∃ a1 c1, e = .returned (.agg #[.slice a1 (conL l (k : Int)).length c1, .int .i64 0]) ∧ (conL l (k : Int)).length ≤ c1 ∧ Hid (SA w' a1 (conL l (k : Int))) ∧ Below w0.heap.size w0 w' := fun w0 h => by
    have := conPI _ c n (k : Int) l w0 HN.out hc h.out.sa (by omega) hm HX.out (by simp [Lit.wf, IntKind.min, IntKind.max, IntKind.signed, IntKind.bits]; omega) h.out.arr h.out.pos
    refine this.mono ?_
    rintro e w' ⟨v, rfl, hv, hb⟩
    obtain ⟨a1, c1, rfl, h1, h2, h3⟩ := hv.sa
    exact ⟨a1, c1, by rw [(conL_ok HO.out hk1 (by rw [HN.out]; exact hk2)).1]; rfl, h1, h3, hb⟩
  have hIC : ∀ (a1 : Option Addr) (c1 : Nat) w0, (incL l (i : Int)).length ≤ c1 → SA w0 a1 (incL l (i : Int)) → ArrU w0 8 keys → 8 < w0.heap.size → Calls Tryd.prog 15 #[.string (leafA x), .int .i64 (i : Int), .int .i64 (n : Int), .slice a1 (incL l (i : Int)).length c1, .string T] w0 fun e w' => e = .returned (.bool true) ∧ Below w0.heap.size w0 w' := fun a1 c1 w0 h1 h2 h3 h4 => by
    have := incT HO.out HN.out hi x HXi.out a1 c1 w0 h1 h2 h3 h4
    rw [HTT.out] at this
    exact this
  have hCC : ∀ (a2 : Option Addr) (c2 : Nat) w0, (conL l (k : Int)).length ≤ c2 → SA w0 a2 (conL l (k : Int)) → ArrU w0 8 keys → 8 < w0.heap.size → Calls Tryd.prog 17 #[.int .i64 (k : Int), .int .i64 (n : Int), .slice a2 (conL l (k : Int)).length c2, .string (rootA (l.take k)), .string T] w0 fun e w' => e = .returned (.bool true) ∧ Below w0.heap.size w0 w' := fun a2 c2 w0 h1 h2 h3 h4 => by
    have := conT HO.out HN.out hk1 hk2 a2 c2 w0 h1 h2 h3 h4
    rw [HTT.out] at this
    exact this
  have hLf : ∀ w0, ArrU w0 8 keys → 8 < w0.heap.size → Calls Tryd.prog 16 #[.string x] w0 fun e w' => e = .returned (.string (leafA x)) ∧ Below w0.heap.size w0 w' := fun w0 h1 h2 => leafI x w0 (HX.out x (by obtain ⟨h, he⟩ := List.getElem?_eq_some_iff.1 HXi.out; rw [← he]; exact List.getElem_mem h)) h1 h2
  have hTk : ∀ w0, SA w0 (some ⟨g, 0, none⟩) l → ArrU w0 8 keys → 8 < w0.heap.size → Calls Tryd.prog 9 #[.slice (some ⟨g, 0, none⟩) k c] w0 fun e w' => e = .returned (.string (rootA (l.take k))) ∧ Below w0.heap.size w0 w' := fun w0 h1 h2 h3 => treeI _ c k (l.take k) w0 (by rw [List.length_take, HN.out]; omega) (by omega) (h1.take k) (by omega) hm (fun x hx' => HX.out x (List.mem_of_mem_take hx')) h2 h3
  generalize incL l (i : Int) = P1 at *
  generalize conL l (k : Int) = P2 at *
  generalize leafA x = Y at *
  generalize rootA (l.take k) = Z at *
  obtain ⟨m1, hm1⟩ : ∃ m1, P1.length = m1 := ⟨_, rfl⟩
  obtain ⟨m2, hm2⟩ : ∃ m2, P2.length = m2 := ⟨_, rfl⟩
  rw [hm1] at hIP hIC hIL
  rw [hm2] at hCP hCC hCL
  have u1 : decide ((6 : Int) < (m1 : Int)) = false := decide_eq_false (by omega)
  have u2 : decide ((7 : Int) < (m2 : Int)) = false := decide_eq_false (by omega)
  have i0 : (0 : Int) ≤ (i : Int) := by omega
  have i1 : (i : Int) < (n : Int) := by omega
  have s1 := Tryd.sliceLo g 0 n c k (by omega)
  have hg3 := HS3.out.sa
  clear hx hm1 hm2 HTT HO HX HS HS2 hB2 hB3 t1 t2 n0 e1 hl65 hg3
  go_wp2_with (first
    | (go_at_call 13; (with_reducible refine (hIP _ HS3).mono ?_); rintro e w4 ⟨a2, c2, rfl, hc2, hA4, hB4⟩; have HS4 := KpT.hid HS3 hB4)
    | (go_at_call 14; obtain ⟨w5, hw5, hA5, b45, e5⟩ := newP w4 (.slice a2 m1 c2) 0; rw [hw5]; clear hw5; have HS5 := KpT.hid HS4 b45; (with_reducible refine (hCP _ HS5).mono ?_); rintro e w6 ⟨a3, c3, rfl, hc3, hA6, hB6⟩; have HS6 := KpT.hid HS5 hB6; obtain ⟨w7, hw7, hA7, b67, e7⟩ := newP w6 (.slice a3 m2 c3) 0; have HS7 := KpT.hid HS6 b67; have b47 := (b45.trans (hB6.mono (Nat.le_of_lt e5))).trans (b67.mono (Nat.le_trans (Nat.le_of_lt e5) hB6.size)); have HL : Hid (KpL w g l w4.heap.size w6.heap.size (.slice a2 m1 c2) (.slice a3 m2 c3) a2 a3 P1 P2 w7) := KpL.make HS7 ((hA5.below hB6 e5).below b67 (Nat.lt_of_lt_of_le e5 hB6.size)) hA7 (hA4.out.below b47) (hA6.out.below b67); clear HS4 HS5 HS6 HS7 hA4 hA5 hA6 hA7 b45 hB6 b67 b47 hB4 HS3; obtain ⟨p0, p1⟩ := KpL.c1 HL; obtain ⟨q0, q1⟩ := KpL.c2 HL; subst hw7))
  obtain ⟨g1, hg1⟩ : ∃ g1, w4.heap.size = g1 := ⟨_, rfl⟩
  obtain ⟨g2, hg2⟩ : ∃ g2, w6.heap.size = g2 := ⟨_, rfl⟩
  have HS : Hid (KpL w g l g1 g2 (.slice a2 m1 c2) (.slice a3 m2 c3) a2 a3 P1 P2 (w6.alloc (.cells #[.slice a3 m2 c3, .int .i64 0] 29)).drew) := by rw [← hg1, ← hg2]; exact KpL.drew HL
  simp only [hg1, hg2]
  clear HL p0 p1 q0 q1 hg1 hg2 e7 e5 u1 u2 hIP hCP
  generalize w6.alloc (.cells #[.slice a3 m2 c3, .int .i64 0] 29) = w7 at *
  go_region_held3 (fun w' => w'.cell? ⟨g, i, none⟩ = some (.string x) ∧ w'.cell? ⟨g1, 0, none⟩ = some (.slice a2 m1 c2) ∧ w'.cell? ⟨g2, 0, none⟩ = some (.slice a3 m2 c3) ∧ Hid (KpL w g l g1 g2 (.slice a2 m1 c2) (.slice a3 m2 c3) a2 a3 P1 P2 w'))
    (first | exact KpL.four HS HXi | exact KpL.four (KpL.call HS h8) HXi | exact KpL.four (KpL.call (KpL.call HS h8) h9) HXi | exact KpL.four (KpL.call (KpL.call (KpL.call HS h8) h9) h10) HXi | exact KpL.four (KpL.call (KpL.call (KpL.call (KpL.call HS h8) h9) h10) h11) HXi)
    (first
      | (go_at_call 16; refine (hLf _ HS.out.arr HS.out.pos).mono ?_; rintro e w8 ⟨rfl, h8⟩)
      | (go_at_call 15; refine (hIC a2 c2 _ hc2 (KpL.call HS h8).out.s1 (KpL.call HS h8).out.arr (KpL.call HS h8).out.pos).mono ?_; rintro e w9 ⟨rfl, h9⟩)
      | (go_at_call 9; refine (hTk _ (KpL.call (KpL.call HS h8) h9).out.sa (KpL.call (KpL.call HS h8) h9).out.arr (KpL.call (KpL.call HS h8) h9).out.pos).mono ?_; rintro e w10 ⟨rfl, h10⟩)
      | (go_at_call 17; refine (hCC a3 c3 _ hc3 (KpL.call (KpL.call (KpL.call HS h8) h9) h10).out.s2 (KpL.call (KpL.call (KpL.call HS h8) h9) h10).out.arr (KpL.call (KpL.call (KpL.call HS h8) h9) h10).out.pos).mono ?_; rintro e w11 ⟨rfl, h11⟩))
  all_goals
    have B11 : Below w.heap.size w w11 := (KpL.call (KpL.call (KpL.call (KpL.call HS h8) h9) h10) h11).out.below
    clear HS h8 h9 h10 h11 hIC hCC hLf hTk
    go_wp2
    go_ret
    exact ⟨rfl, B11⟩
end Go.Proofs.YtdfglpbappeoaabDoor
