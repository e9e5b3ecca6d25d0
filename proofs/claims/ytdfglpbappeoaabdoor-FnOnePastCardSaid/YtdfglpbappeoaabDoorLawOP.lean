/- The law on one past: where a proof leads from a root to that of drawn leaves, that root is that of so many first ones, or two unlike pairs of the proof and the tree have one hash. -/
import Derived.Test.YtdfglpbappeoaabDoorJn8
import Derived.Test.YtdfglpbappeoaabDoorLwS
import Derived.Test.YtdfglpbappeoaabDoorLwT
import Derived.Test.YtdfglpbappeoaabDoorDrwJ
import Derived.Test.YtdfglpbappeoaabDoorConN
import Derived.Test.YtdfglpbappeoaabDoorConM
namespace Go.Proofs.YtdfglpbappeoaabDoor
open Go.RowKit
set_option linter.unusedVariables false

theorem conIM (old root : ByteArray) (i n : Int) (pa : Option Addr) (c m : Nat) (ps : List ByteArray) (w : World) (hm : ps.length = m) (hA : MayS w (.slice pa m c) ps) (hl : old.size ≤ maxLen) (hr : root.size ≤ maxLen) (hM : m ≤ 1048576) (hx : ∀ x ∈ ps, x.size ≤ maxLen) (hi : I64 i) (hn : I64 n) (hk : ArrU w 8 keys) (h0 : 8 < w.heap.size) :
    Calls Tryd.prog 17 #[.int .i64 i, .int .i64 n, .slice pa m c, .string old, .string root] w fun e w' => e = .returned (.bool (conB i n ps old root)) ∧ Below w.heap.size w w' := by
  rcases hA with ⟨h1, rfl⟩ | ⟨b, o, c', h1, h2, h3⟩
  · injection h1 with h4 h5 h6
    subst h4 h5 h6
    exact conIN old root i n w hl hr hk h0
  · injection h1 with h4 h5 h6
    subst h4 h6
    exact conI old root i n b o c m ps w hm (by omega) h3 hl hr hM hx hi hn hk h0
theorem rootA_okP {l : List ByteArray} (h : okLv l = true) : rootA l = rtT l := if_pos h
theorem okLv_takeP {l : List ByteArray} (h : okLv l = true) (k : Nat) : okLv (l.take k) = true := okLv_yes ⟨by have := (okLv_of h).1; rw [List.length_take]; omega, fun x hx => (okLv_of h).2 x (List.mem_of_mem_take hx)⟩
/- The mathematics. -/
theorem conB_ok {i n : Int} {ps : List ByteArray} {old root : ByteArray} (h : conB i n ps old root = true) : ConOk i n ps old root ∧ conR i n ps old root = true := by
  unfold conB at h
  rw [Bool.and_eq_true] at h
  exact ⟨okCn_iff.1 h.1, h.2⟩
theorem past_same {l ps : List ByteArray} {old : ByteArray} {n : Nat} (hl : l.length = n) (h : conB (n : Int) (n : Int) ps old (rootA l) = true) : old = rootA l := by
  have := (conB_ok h).2
  unfold conR at this
  rw [if_pos rfl, Bool.and_eq_true, decide_eq_true_eq, decide_eq_true_eq] at this
  exact this.2
theorem past_one {l ps : List ByteArray} {old : ByteArray} {k n : Nat} (ho : okLv l = true) (hl : l.length = n) (hkn : k < n) (h : conB (k : Int) (n : Int) ps old (rootA l) = true) (hne : ¬ old = rootA (l.take k)) :
    ∃ F S, Mer.strip (k - 1) (n - 1) = (F, S) ∧ 1 ≤ (conLs (k : Int) ps old).length ∧ Mer.Clash nodeD (stpT ((conLs (k : Int) ps old).drop 1) F S ((conLs (k : Int) ps old).getD 0 ⟨#[]⟩) ((conLs (k : Int) ps old).getD 0 ⟨#[]⟩) ++ tpT l) := by
  obtain ⟨hok, hR⟩ := conB_ok h
  obtain ⟨q1, q2, q3, q4, q5, q6, q7, q8⟩ := hok
  obtain ⟨F, S, hFS⟩ : ∃ F S, Mer.strip (k - 1) (n - 1) = (F, S) := ⟨_, _, rfl⟩
  refine ⟨F, S, hFS, ?_⟩
  unfold conR at hR
  rw [if_neg (by omega), Int.toNat_natCast, Int.toNat_natCast, hFS] at hR
  generalize conLs (k : Int) ps old = L at *
  match L, hR with
  | [], hR => cases hR
  | x :: M, hR =>
    refine ⟨by simp, ?_⟩
    have hc := (chkC_run old (rootA l) M F S x x).1 hR
    rw [rootA_okP ho] at hc
    have hp := Mer.one_past nodeD emptyD (l.map leafD) k (by omega) (by rw [List.length_map]; omega) x M F S (by rw [List.length_map, hl]; exact hFS) hc.1 hc.2.1 hc.2.2.2
    rcases hp with hp | hp
    · exfalso
      refine hne ?_
      rw [rootA_okP (okLv_takeP ho k), ← hc.2.2.1, hp]
      unfold rtT
      rw [List.map_take]
    · refine hp.mono fun y hy => ?_
      rcases List.mem_append.1 hy with hy | hy
      · exact List.mem_append.2 (Or.inl (stpT_way M F S x x y hy))
      · exact List.mem_append.2 (Or.inr hy)
theorem txt_someP {T : ByteArray} (h : 0 < T.size) : T.toList.isEmpty = false := by
  rw [ByteArray.toList_eq]
  cases hd : T.data.toList with
  | nil =>
    have : T.size = 0 := by
      show T.data.size = 0
      rw [← Array.length_toList, hd]; rfl
    omega
  | cons a b => rfl
theorem wpList_append_pairs_h {W : World} {ops : Array Oper} {rest : List Oper} {o : Oper} {a : Act} {Q : Exit → Act → World → Prop} (hw : Region.wanted o (yielded ops a.tmps) = true) (s x : Operand) (ho : o.op = .call { callee := .builtin .append, args := #[s, x], argTypes := #[37, 37] })
    (base : Nat) (v : Value) (n m : Nat) (l1 l2 : List Pair) (hs : a.eval s = v) (hown : OwnP W base v n l1) (g p c : Nat) (hx : a.eval x = .slice (some ⟨g, p, none⟩) m c) (hl2 : l2.length = m) (hA : PA W g p l2) (hn : n + m ≤ 1000000) (hbase : base ≤ W.heap.size)
    (h : ∀ v' w', OwnP w' base v' (n + m) (l1 ++ l2) → Below base W w' → (v ≠ .slice none 0 0 → v' ≠ .slice none 0 0) → wpList Tryd.prog ops Q rest (a.put o.dst v') w') : wpList Tryd.prog ops Q (o :: rest) a W :=
  wpList_step fun K hK => by
    rw [if_pos hw]
    exact wp_append_pairs s x ho base v n m l1 l2 hs hown g p c hx hl2 hA hn hbase (fun v' w' k1 k2 k3 => hK _ _ (h v' w' k1 k2 k3))
/- What stands while the law runs: the proof; then the leaves too. -/
structure KpV (w : World) (u : Value) (ps : List ByteArray) (w' : World) : Prop where
  below : Below w.heap.size w w'
  may : MayS w' u ps
  arr : ArrU w' 8 keys
  pos : 8 < w'.heap.size
theorem KpV.call {w w' w2 : World} {u : Value} {ps : List ByteArray} (h : Hid (KpV w u ps w')) (hb : Below w'.heap.size w' w2) : Hid (KpV w u ps w2) :=
  ⟨h.out.below.trans (hb.mono h.out.below.size), h.out.may.below hb, h.out.arr.below hb h.out.pos, Nat.lt_of_lt_of_le h.out.pos hb.size⟩
structure KpX (w : World) (u : Value) (ps : List ByteArray) (g : Nat) (l : List ByteArray) (w' : World) : Prop where
  v : KpV w u ps w'
  sa : SA w' (some ⟨g, 0, none⟩) l
theorem KpX.call {w w' w2 : World} {u : Value} {ps : List ByteArray} {g : Nat} {l : List ByteArray} (h : Hid (KpX w u ps g l w')) (hb : Below w'.heap.size w' w2) : Hid (KpX w u ps g l w2) := ⟨(KpV.call (show Hid (KpV w u ps w') from h.out.v) hb).out, h.out.sa.below hb⟩
set_option maxRecDepth 100000 in
set_option maxHeartbeats 4000000 in
theorem lawOnePast (l0 c0 l1 c1 : Nat) (a0 a1 : Option Addr) (w : World) (hb0 : Bytes w a0 l0) (hs0 : l0 ≤ 9223372036854775807)
    (hb1 : Bytes w a1 l1) (hs1 : l1 ≤ 9223372036854775807) (hk : ArrU w 8 keys) (h0 : 8 < w.heap.size) :
    Calls Tryd.prog 5 #[.slice a0 l0 c0, .slice a1 l1 c1] w fun e w' => e = .returned (.bool true) ∧ Below w.heap.size w w' := by
  have HK : Hid (ArrU w 8 keys) := hk
  by_cases hbig : 1048576 < l0
  · clear hb0 hb1 hk
    go_enter Tryd.func5, Tryd.ntmps5
    go_wp2_with fail
    go_ret
    exact ⟨rfl, Below.refl _ _⟩
  by_cases hbig1 : 1048576 < l1
  · clear hb0 hb1 hk
    go_enter Tryd.func5, Tryd.ntmps5
    go_wp2_with fail
    go_ret
    exact ⟨rfl, Below.refl _ _⟩
  have HD0 : Hid _ := drawCon l0 c0 a0 w hb0 hs0
  have HD1 : Hid (∀ w1, Below w.heap.size w w1 → Calls Tryd.prog 8 #[.slice a1 l1 c1] w1 fun e w' => ∃ v l, e = .returned v ∧ v ≠ .slice none 0 0 ∧ Lvs l ∧ w'.ownsRow w1.heap.size 9 1 v l.length (svl l) ∧ Below w1.heap.size w1 w') := fun w1 h => drawTree l1 c1 a1 w1 (hb1.later h) hs1
  clear hb0 hb1 hk
  go_enter Tryd.func5, Tryd.ntmps5
  go_wp2_with fail
  refine Calls.mono HD0.out ?_
  rintro e w1 ⟨old, root, i, n, u, ps, rfl, hx, hy, hi, hn, hf, hm, hB1⟩
  obtain ⟨pa, c, rfl, hc, hsa⟩ := hm.sa
  have HV1 : Hid (KpV w (.slice pa ps.length c) ps w1) := ⟨hB1, hm, HK.out.below hB1 h0, Nat.lt_of_lt_of_le h0 hB1.size⟩
  have hlen := hf.len
  obtain ⟨m, hmm⟩ : ∃ m, ps.length = m := ⟨_, rfl⟩
  have HM : Hid (ps.length = m) := hmm
  rw [hmm] at HV1 hc hlen
  simp only [hmm]
  have HF : Hid (Few ps 401) := hf
  have hI1 : ∀ w0, Hid (KpV w (.slice pa m c) ps w0) → Calls Tryd.prog 17 #[.int .i64 i, .int .i64 n, .slice pa m c, .string old, .string root] w0 fun e w' => e = .returned (.bool (conB i n ps old root)) ∧ Below w0.heap.size w0 w' := fun w0 h => conIM old root i n pa c m ps w0 HM.out h.out.may (by unfold maxLen; omega) (by unfold maxLen; omega) (by omega) (fun x hx => by have := HF.out.small x hx; unfold maxLen; omega) hi hn h.out.arr h.out.pos
  have hS1 : ∀ w0, Hid (KpV w (.slice pa m c) ps w0) → Calls Tryd.prog 23 #[.int .i64 i, .int .i64 n, .slice pa m c, .string old, .string root] w0 fun e w' => e = .returned (.bool (conB i n ps old root)) ∧ Below w0.heap.size w0 w' := fun w0 h => specConM2 old root i n pa c m ps w0 HM.out h.out.may (by unfold maxLen; omega) (by unfold maxLen; omega) (by omega) (fun x hx => by have := HF.out.small x hx; unfold maxLen; omega)
  generalize conB i n ps old root = R at *
  have tR : (R != R) = false := by simp
  clear HD0 hB1 hm hf hsa hmm hy
  go_wp2_with (first
    | (go_at_call 17; refine (hI1 _ HV1).mono ?_; rintro e w2 ⟨rfl, hB2⟩; have HV2 := KpV.call HV1 hB2)
    | (go_at_call 23; refine (hS1 _ HV2).mono ?_; rintro e w3 ⟨rfl, hB3⟩; have HV3 := KpV.call HV2 hB3)
    | fail)
  refine (HD1.out w3 HV3.out.below).mono ?_
  rintro e w4 ⟨v, l, rfl, hv, hl, hO, hB4⟩
  obtain ⟨g, cl, rfl, -, hg, hcl, hml, hsl⟩ := own_some hO hv
  have HV4 := KpV.call HV3 hB4
  have HX4 : Hid (KpX w (.slice pa m c) ps g l w4) := ⟨HV4.out, hsl⟩
  have hl65 := hl.len
  have HXs : Hid (∀ x ∈ l, x.size ≤ maxLen) := fun x hx => by have := hl.small x hx; unfold maxLen; omega
  have hoE : okLv l = decide (l.length ≤ 64) := by
    by_cases h1 : l.length ≤ 64
    · rw [decide_eq_true h1]; exact okLv_yes ⟨h1, fun x hx => by have := hl.small x hx; omega⟩
    · rw [decide_eq_false h1]; exact okLv_no (fun e => h1 e.1)
  obtain ⟨n2, hn2⟩ : ∃ n2, l.length = n2 := ⟨_, rfl⟩
  have HL : Hid (l.length = n2) := hn2
  rw [hn2] at hcl hl65 hoE
  simp only [hn2]
  clear HD1 HV1 HV2 HV3 HV4 hO hv hl hsl hB2 hB3 hB4 hI1 hS1 hn2 tR HK
  by_cases hn1 : n2 < 1
  · have d1 : decide ((n2 : Int) < 1) = true := decide_eq_true (by omega)
    clear hoE
    go_wp2
    go_ret
    exact ⟨rfl, HX4.out.v.below⟩
  have d1 : decide ((n2 : Int) < 1) = false := decide_eq_false (by omega)
  by_cases hn64 : n2 ≤ 64
  case neg =>
    have d2 : decide ((64 : Int) < (n2 : Int)) = true := decide_eq_true (by omega)
    clear hoE
    go_wp2
    go_ret
    exact ⟨rfl, HX4.out.v.below⟩
  have d2 : decide ((64 : Int) < (n2 : Int)) = false := decide_eq_false (by omega)
  have ho : okLv l = true := by rw [hoE]; exact decide_eq_true hn64
  have HOk : Hid (okLv l = true) := ho
  have hTs : (rootA l).size = 32 := by rw [rootA_okP ho]; exact rtT_size l
  have t1 := txt_someP (T := rootA l) (by omega)
  have hTr : ∀ w0, Hid (KpX w (.slice pa m c) ps g l w0) → Calls Tryd.prog 10 #[.slice (some ⟨g, 0, none⟩) n2 cl] w0 fun e w' => e = .returned (.string (rootA l)) ∧ Below w0.heap.size w0 w' := fun w0 h => specTree _ cl n2 l w0 HL.out hcl h.out.sa (by omega) (by unfold maxLen at hml; omega) HXs.out
  clear hoE ho hn
  by_cases hgt : (n2 : Int) < i
  · as_aux_lemma =>
    have d3 : decide ((n2 : Int) < i) = true := decide_eq_true hgt
    have hI2 : ∀ w0, Hid (KpX w (.slice pa m c) ps g l w0) → Calls Tryd.prog 17 #[.int .i64 (n2 : Int), .int .i64 (n2 : Int), .slice pa m c, .string old, .string (rootA l)] w0 fun e w' => e = .returned (.bool (conB (n2 : Int) (n2 : Int) ps old (rootA l))) ∧ Below w0.heap.size w0 w' := fun w0 h => conIM old (rootA l) (n2 : Int) (n2 : Int) pa c m ps w0 HM.out h.out.v.may (by unfold maxLen; omega) (by rw [hTs]; decide) (by omega) (fun x hx => by have := HF.out.small x hx; unfold maxLen; omega) (i64_of (by omega)) (i64_of (by omega)) h.out.v.arr h.out.v.pos
    cases hR2 : conB (n2 : Int) (n2 : Int) ps old (rootA l) with
    | false =>
      rw [hR2] at hI2
      clear hR2
      generalize rootA l = T at *
      go_wp2_with (first
        | (go_at_call 10; with_reducible refine (hTr _ HX4).mono ?_; rintro e w5 ⟨rfl, hB5⟩; have HX5 := KpX.call HX4 hB5; clear HX4)
        | (go_at_call 10; with_reducible refine (hTr _ HX5).mono ?_; rintro e w6 ⟨rfl, hB6⟩; have HX6 := KpX.call HX5 hB6; clear HX5)
        | (go_at_call 17; refine (hI2 _ HX6).mono ?_; rintro e w7 ⟨rfl, hB7⟩; have HX7 := KpX.call HX6 hB7))
      go_ret
      exact ⟨rfl, HX7.out.v.below⟩
    | true =>
    rw [hR2] at hI2
    have hoT : old = rootA l := past_same HL.out hR2
    have hTk : ∀ w0, Hid (KpX w (.slice pa m c) ps g l w0) → Calls Tryd.prog 10 #[.slice (some ⟨g, 0, none⟩) n2 cl] w0 fun e w' => e = .returned (.string (rootA l)) ∧ Below w0.heap.size w0 w' := hTr
    have sl := Tryd.sliceLo g 0 n2 cl n2 (by omega)
    have teq : (old.toList == (rootA l).toList) = true := by rw [hoT]; exact txt_eq _
    clear hR2 hoT
    generalize rootA l = T at *
    go_wp2_with (first
      | (go_at_call 10; with_reducible refine (hTr _ HX4).mono ?_; rintro e w5 ⟨rfl, hB5⟩; have HX5 := KpX.call HX4 hB5; clear HX4)
      | (go_at_call 10; with_reducible refine (hTr _ HX5).mono ?_; rintro e w6 ⟨rfl, hB6⟩; have HX6 := KpX.call HX5 hB6; clear HX5)
      | (go_at_call 17; refine (hI2 _ HX6).mono ?_; rintro e w7 ⟨rfl, hB7⟩; have HX7 := KpX.call HX6 hB7)
      | (go_at_call 10; with_reducible refine (hTk _ HX7).mono ?_; rintro e w8 ⟨rfl, hB8⟩; have HX8 := KpX.call HX7 hB8))
    go_ret
    exact ⟨rfl, HX8.out.v.below⟩
  · as_aux_lemma =>
    have d3 : decide ((n2 : Int) < i) = false := decide_eq_false hgt
    have hI2 : ∀ w0, Hid (KpX w (.slice pa m c) ps g l w0) → Calls Tryd.prog 17 #[.int .i64 i, .int .i64 (n2 : Int), .slice pa m c, .string old, .string (rootA l)] w0 fun e w' => e = .returned (.bool (conB i (n2 : Int) ps old (rootA l))) ∧ Below w0.heap.size w0 w' := fun w0 h => conIM old (rootA l) i (n2 : Int) pa c m ps w0 HM.out h.out.v.may (by unfold maxLen; omega) (by rw [hTs]; decide) (by omega) (fun x hx => by have := HF.out.small x hx; unfold maxLen; omega) hi (i64_of (by omega)) h.out.v.arr h.out.v.pos
    cases hR2 : conB i (n2 : Int) ps old (rootA l) with
    | false =>
      rw [hR2] at hI2
      clear hR2
      generalize rootA l = T at *
      go_wp2_with (first
        | (go_at_call 10; with_reducible refine (hTr _ HX4).mono ?_; rintro e w5 ⟨rfl, hB5⟩; have HX5 := KpX.call HX4 hB5; clear HX4)
        | (go_at_call 10; with_reducible refine (hTr _ HX5).mono ?_; rintro e w6 ⟨rfl, hB6⟩; have HX6 := KpX.call HX5 hB6; clear HX5)
        | (go_at_call 17; refine (hI2 _ HX6).mono ?_; rintro e w7 ⟨rfl, hB7⟩; have HX7 := KpX.call HX6 hB7))
      go_ret
      exact ⟨rfl, HX7.out.v.below⟩
    | true =>
    rw [hR2] at hI2
    obtain ⟨⟨q1, q2, q3, q4, q5, q6, q7, q8⟩, -⟩ := conB_ok hR2
    obtain ⟨k, rfl⟩ := Int.eq_ofNat_of_zero_le (show 0 ≤ i by omega)
    have hk1 : 1 ≤ k := by omega
    have hk2 : k ≤ n2 := by omega
    have hTk : ∀ w0, Hid (KpX w (.slice pa m c) ps g l w0) → Calls Tryd.prog 10 #[.slice (some ⟨g, 0, none⟩) k cl] w0 fun e w' => e = .returned (.string (rootA (l.take k))) ∧ Below w0.heap.size w0 w' := fun w0 h => specTree _ cl k (l.take k) w0 (by rw [List.length_take, HL.out]; omega) (by omega) (h.out.sa.take k) (by omega) (by unfold maxLen at hml; omega) (fun x hx => HXs.out x (List.mem_of_mem_take hx))
    have sl := Tryd.sliceLo g 0 n2 cl k (by omega)
    by_cases heq : old = rootA (l.take k)
    · have teq : (old.toList == (rootA (l.take k)).toList) = true := by rw [← heq]; exact txt_eq _
      clear hR2 heq
      generalize rootA (l.take k) = T2 at *
      generalize rootA l = T at *
      go_wp2_with (first
        | (go_at_call 10; with_reducible refine (hTr _ HX4).mono ?_; rintro e w5 ⟨rfl, hB5⟩; have HX5 := KpX.call HX4 hB5; clear HX4)
        | (go_at_call 10; with_reducible refine (hTr _ HX5).mono ?_; rintro e w6 ⟨rfl, hB6⟩; have HX6 := KpX.call HX5 hB6; clear HX5)
        | (go_at_call 17; refine (hI2 _ HX6).mono ?_; rintro e w7 ⟨rfl, hB7⟩; have HX7 := KpX.call HX6 hB7)
        | (go_at_call 10; with_reducible refine (hTk _ HX7).mono ?_; rintro e w8 ⟨rfl, hB8⟩; have HX8 := KpX.call HX7 hB8))
      go_ret
      exact ⟨rfl, HX8.out.v.below⟩
    have hkn : k < n2 := by
      rcases Nat.lt_or_ge k n2 with h | h
      · exact h
      · exfalso
        obtain rfl : k = n2 := by omega
        refine heq ?_
        rw [List.take_of_length_le (by rw [HL.out]; exact Nat.le_refl _)]
        exact past_same HL.out hR2
    have teq := txt_ne heq
    obtain ⟨F, S, hFS, hL1, hCl⟩ := past_one HOk.out HL.out hkn hR2 heq
    obtain ⟨L, hLL⟩ : ∃ L, conLs (k : Int) ps old = L := ⟨_, rfl⟩
    rw [hLL] at hL1 hCl
    have hLm : L.length ≤ 401 := by
      rw [← hLL]
      unfold conLs
      split
      · rw [List.length_cons]; omega
      · omega
    have hL32 : ∀ x ∈ L, x.size = 32 := fun x hx => by
      rw [← hLL] at hx
      unfold conLs at hx
      split at hx
      · rcases List.mem_cons.1 hx with e | e
        · rw [e]; exact q1
        · exact okHs_of q4 x e
      · exact okHs_of q4 x hx
    have hSt : ∀ w0, Hid (KpX w (.slice pa m c) ps g l w0) → Calls Tryd.prog 24 #[.int .i64 (k : Int), .int .i64 (n2 : Int), .slice pa m c, .string old] w0 fun e w' => ∃ v nn, e = .returned v ∧ v ≠ .slice none 0 0 ∧ OwnP w' w0.heap.size v nn (stpT (L.drop 1) F S (L.getD 0 ⟨#[]⟩) (L.getD 0 ⟨#[]⟩)) ∧ Below w0.heap.size w0 w' := fun w0 h => lwSteps_any old k n2 F S pa c m ps L w0 HM.out h.out.v.may q1 (okHs_of q4) (by have := HM.out; omega) hk1 (by omega) (by omega) (by omega) hFS hLL hL1
    have hTp : ∀ w0, Hid (KpX w (.slice pa m c) ps g l w0) → Calls Tryd.prog 25 #[.slice (some ⟨g, 0, none⟩) n2 cl] w0 fun e w' => ∃ v, e = .returned v ∧ v ≠ .slice none 0 0 ∧ OwnP w' w0.heap.size v (tpT l).length (tpT l) ∧ Below w0.heap.size w0 w' := fun w0 h => lwTree_any n2 _ cl n2 l w0 (by rw [HL.out]; exact Nat.le_refl _) HL.out hcl h.out.sa hn64 (by unfold maxLen at hml; omega) (okLv_of HOk.out).2
    have h0L : (L.getD 0 ⟨#[]⟩).size = 32 := by
      rw [List.getD_eq_getElem?_getD, List.getElem?_eq_getElem (by omega)]
      exact hL32 _ (List.getElem_mem _)
    have HH : Hid (∀ x ∈ stpT (L.drop 1) F S (L.getD 0 ⟨#[]⟩) (L.getD 0 ⟨#[]⟩) ++ tpT l, x.1.size = 32 ∧ x.2.size = 32) := fun x hx => by
      rcases List.mem_append.1 hx with h | h
      · exact stpT_hs _ _ _ _ _ h0L h0L (fun y hy => hL32 y (List.mem_of_mem_drop hy)) x h
      · exact tpT_hs _ l (Nat.le_refl _) x h
    have hb1 : (stpT (L.drop 1) F S (L.getD 0 ⟨#[]⟩) (L.getD 0 ⟨#[]⟩)).length ≤ 802 := by
      have := stpT_len (L.drop 1) F S (L.getD 0 ⟨#[]⟩) (L.getD 0 ⟨#[]⟩)
      rw [List.length_drop] at this
      omega
    have hb2 : (tpT l).length ≤ 64 := by have := tpT_len _ l (Nat.le_refl _); have := HL.out; omega
    generalize stpT (L.drop 1) F S (L.getD 0 ⟨#[]⟩) (L.getD 0 ⟨#[]⟩) = W1 at *
    generalize tpT l = W2 at *
    obtain ⟨m2, hm2⟩ : ∃ m2, W2.length = m2 := ⟨_, rfl⟩
    rw [hm2] at hTp hb2
    have HM2 : Hid (W2.length = m2) := hm2
    have HZ : Hid (∀ (g c nn : Nat) w0, W1.length = nn → PA w0 g 0 (W1 ++ W2) → Calls Tryd.prog 20 #[.slice (some ⟨g, 0, none⟩) (nn + m2) c] w0 fun e w' => e = .returned (.bool true) ∧ Below w0.heap.size w0 w') := fun g c nn w0 h1 h => lwClash_any g c (nn + m2) (W1 ++ W2) w0 (by rw [List.length_append, h1, hm2]) h HH.out (by omega) hCl
    have HB1 : Hid (W1.length ≤ 802) := hb1
    clear hR2 heq q1 q2 q3 q4 q5 q6 q7 q8 hFS hL1 hCl hLL hLm hL32 h0L HH hb1 hm2
    generalize rootA (l.take k) = T2 at *
    generalize rootA l = T at *
    go_wp2_with (first
      | (go_at_call 10; with_reducible refine (hTr _ HX4).mono ?_; rintro e w5 ⟨rfl, hB5⟩; have HX5 := KpX.call HX4 hB5; clear HX4)
      | (go_at_call 10; with_reducible refine (hTr _ HX5).mono ?_; rintro e w6 ⟨rfl, hB6⟩; have HX6 := KpX.call HX5 hB6; clear HX5)
      | (go_at_call 17; refine (hI2 _ HX6).mono ?_; rintro e w7 ⟨rfl, hB7⟩; have HX7 := KpX.call HX6 hB7)
      | (go_at_call 10; with_reducible refine (hTk _ HX7).mono ?_; rintro e w8 ⟨rfl, hB8⟩; have HX8 := KpX.call HX7 hB8)
      | (go_at_call 24; refine (hSt _ HX8).mono ?_; rintro e w9 ⟨v9, nn, rfl, hv9, hO9, hB9⟩; have HX9 := KpX.call HX8 hB9; have hnl := ownP_len hO9; have hnb : nn ≤ 802 := hnl ▸ HB1.out)
      | (go_at_call 25; refine (hTp _ HX9).mono ?_; rintro e w10 ⟨v10, rfl, hv10, hO10, hB10⟩; have HX10 := KpX.call HX9 hB10; have hO9' := ownP_below hO9 hB10; obtain ⟨g10, c10, rfl, hg10, hn10, hm10, hp10, hl10⟩ := ownP_some hO10 hv10)
      | (at_builtin; refine wpList_append_pairs_h (by rfl) _ _ rfl w8.heap.size v9 nn m2 W1 W2 rfl hO9' g10 0 c10 rfl HM2.out hp10 (by omega) (Nat.le_trans hB9.size hB10.size) ?_; intro v11 w11 hO11 hB11 hv11; obtain ⟨g11, c11, rfl, hg11, hn11, hm11, hp11, hl11⟩ := ownP_some hO11 (hv11 hv9); have B11 : Below w.heap.size w w11 := HX10.out.v.below.trans (hB11.mono HX8.out.v.below.size))
      | (go_at_call 20; refine (HZ.out g11 c11 nn _ hnl hp11).mono ?_; rintro e w12 ⟨rfl, hB12⟩))
    go_ret
    exact ⟨rfl, B11.trans (hB12.mono B11.size)⟩
end Go.Proofs.YtdfglpbappeoaabDoor
