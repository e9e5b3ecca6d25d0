/- The laws over LeafHash, NodeHash, TreeRoot, InclusionCheck and ConsistencyCheck, walked out of what the program's functions answer. LeafHash and NodeHash of the program, for every argument. The root of a tree of texts, on the program's side. The program's walk up a tree: its two places, halved; met from the left; the place above. The place above, of the program's walk. InclusionCheck of the program, for every argument. ConsistencyCheck of the program, for every argument. ConsistencyCheck of the program where first is the size: wherever the proof lies. ConsistencyCheck of both sides where the proof is none. The pairs of a tree of leaves, as the laws' helper gathers them. -/
import Derived.Test.YtoaoaagfnkpkdaaDoorConS
import Derived.Test.YtoaoaagfnkpkdaaDoorLaid
import Derived.Test.YtoaoaagfnkpkdaaDoorSRow
import Derived.Test.YtoaoaagfnkpkdaaDoorIncS
import Derived.Test.YtoaoaagfnkpkdaaDoorDrwP
import Derived.Test.YtoaoaagfnkpkdaaDoorPrs
import Derived.Test.YtoaoaagfnkpkdaaDoorInc
namespace Go.Proofs.YtoaoaagfnkpkdaaDoor
open Go.RowKit
set_option linter.unusedVariables false

/- What the program's functions answer: to be shown of the program's own text. -/
def LeafI : Prop := ∀ (t : ByteArray) (w : World), t.size ≤ maxLen → ArrU w 0 keys → 0 < w.heap.size → Calls Tryd.prog 21 #[.string t] w fun e w' => e = .returned (.string (leafA t)) ∧ Below w.heap.size w w'
def NodeI : Prop := ∀ (a b : ByteArray) (w : World), a.size ≤ maxLen → b.size ≤ maxLen → ArrU w 0 keys → 0 < w.heap.size → Calls Tryd.prog 33 #[.string a, .string b] w fun e w' => e = .returned (.string (nodeA a b)) ∧ Below w.heap.size w w'
def TreeI : Prop := ∀ (a : Option Addr) (c n : Nat) (l : List ByteArray) (w : World), l.length = n → n ≤ c → SA w a l → n ≤ 1048576 → c ≤ 9223372036854775807 → (∀ x ∈ l, x.size ≤ maxLen) → ArrU w 0 keys → 0 < w.heap.size → Calls Tryd.prog 14 #[.slice a n c] w fun e w' => e = .returned (.string (rootA l)) ∧ Below w.heap.size w w'
def IncI : Prop := ∀ (leaf root : ByteArray) (i n : Int) (a : Option Addr) (c m : Nat) (ps : List ByteArray) (w : World), ps.length = m → m ≤ c → SA w a ps → leaf.size ≤ maxLen → root.size ≤ maxLen → m ≤ 1048576 → (∀ x ∈ ps, x.size ≤ maxLen) → (Lit.int .i64 i).wf = true → (Lit.int .i64 n).wf = true → ArrU w 0 keys → 0 < w.heap.size →
    Calls Tryd.prog 20 #[.string leaf, .int .i64 i, .int .i64 n, .slice a m c, .string root] w fun e w' => e = .returned (.bool (incB leaf i n ps root)) ∧ Below w.heap.size w w'
def ConI : Prop := ∀ (old root : ByteArray) (i n : Int) (b o c m : Nat) (ps : List ByteArray) (w : World), ps.length = m → m ≤ c → SA w (some ⟨b, o, none⟩) ps → old.size ≤ maxLen → root.size ≤ maxLen → m ≤ 1048576 → (∀ x ∈ ps, x.size ≤ maxLen) → (Lit.int .i64 i).wf = true → (Lit.int .i64 n).wf = true → ArrU w 0 keys → 0 < w.heap.size →
    Calls Tryd.prog 22 #[.int .i64 i, .int .i64 n, .slice (some ⟨b, o, none⟩) m c, .string old, .string root] w fun e w' => e = .returned (.bool (conB i n ps old root)) ∧ Below w.heap.size w w'

set_option maxRecDepth 100000 in
set_option maxHeartbeats 1000000 in
theorem lawLeaf (HI : LeafI) (t : ByteArray) (w : World) (ht : t.size ≤ maxLen) (hk : ArrU w 0 keys) (h0 : 0 < w.heap.size) :
    Calls Tryd.prog 6 #[.string t] w fun e w' => e = .returned (.bool true) ∧ Below w.heap.size w w' := by
  have ht' := ht
  unfold maxLen at ht'
  have HK : Hid (ArrU w 0 keys) := hk
  clear hk
  by_cases hbig : 1048576 < t.size
  · go_enter Tryd.func6, Tryd.ntmps6
    go_wp2
    go_ret
    exact ⟨rfl, Below.refl _ _⟩
  have h1 : ∀ w0, Calls Tryd.prog 31 #[.string t] w0 fun e w' => e = .returned (.string (leafA t)) ∧ Below w0.heap.size w0 w' := fun w0 => specLeafH t w0 ht
  have h2 : ∀ w0, ArrU w0 0 keys → 0 < w0.heap.size → Calls Tryd.prog 21 #[.string t] w0 fun e w' => e = .returned (.string (leafA t)) ∧ Below w0.heap.size w0 w' := fun w0 k1 k2 => HI t w0 ht k1 k2
  generalize leafA t = D at *
  have t1 := txt_eq D
  clear ht HI
  go_enter Tryd.func6, Tryd.ntmps6
  go_wp2_with (first
    | (go_at_call 31; refine (h1 _).mono ?_; rintro e w1 ⟨rfl, hB1⟩)
    | (go_at_call 21; refine (h2 w1 (HK.out.below hB1 h0) (by have := hB1.size; omega)).mono ?_; rintro e w2 ⟨rfl, hB2⟩))
  go_ret
  exact ⟨rfl, hB1.trans (hB2.mono hB1.size)⟩
set_option maxRecDepth 100000 in
set_option maxHeartbeats 1000000 in
theorem lawNode (HI : NodeI) (a b : ByteArray) (w : World) (ha : a.size ≤ maxLen) (hb : b.size ≤ maxLen) (hk : ArrU w 0 keys) (h0 : 0 < w.heap.size) :
    Calls Tryd.prog 7 #[.string a, .string b] w fun e w' => e = .returned (.bool true) ∧ Below w.heap.size w w' := by
  have ha' := ha
  have hb' := hb
  unfold maxLen at ha' hb'
  have HK : Hid (ArrU w 0 keys) := hk
  clear hk
  by_cases hbig : 1048576 < a.size
  · go_enter Tryd.func7, Tryd.ntmps7
    go_wp2
    go_ret
    exact ⟨rfl, Below.refl _ _⟩
  by_cases hbig2 : 1048576 < b.size
  · go_enter Tryd.func7, Tryd.ntmps7
    go_wp2
    go_ret
    exact ⟨rfl, Below.refl _ _⟩
  have h1 : ∀ w0, Calls Tryd.prog 32 #[.string a, .string b] w0 fun e w' => e = .returned (.string (nodeA a b)) ∧ Below w0.heap.size w0 w' := fun w0 => specNodeH a b w0 ha hb
  have h2 : ∀ w0, ArrU w0 0 keys → 0 < w0.heap.size → Calls Tryd.prog 33 #[.string a, .string b] w0 fun e w' => e = .returned (.string (nodeA a b)) ∧ Below w0.heap.size w0 w' := fun w0 k1 k2 => HI a b w0 ha hb k1 k2
  generalize nodeA a b = D at *
  have t1 := txt_eq D
  clear ha hb HI
  go_enter Tryd.func7, Tryd.ntmps7
  go_wp2_with (first
    | (go_at_call 32; refine (h1 _).mono ?_; rintro e w1 ⟨rfl, hB1⟩)
    | (go_at_call 33; refine (h2 w1 (HK.out.below hB1 h0) (by have := hB1.size; omega)).mono ?_; rintro e w2 ⟨rfl, hB2⟩))
  go_ret
  exact ⟨rfl, hB1.trans (hB2.mono hB1.size)⟩
set_option maxRecDepth 100000 in
set_option maxHeartbeats 1000000 in
theorem lawTree (HI : TreeI) (a : Option Addr) (c n : Nat) (l : List ByteArray) (w : World) (hn : l.length = n) (h : SA w a l) (hM : n ≤ maxLen) (hx : ∀ x ∈ l, x.size ≤ maxLen) (hk : ArrU w 0 keys) (h0 : 0 < w.heap.size) :
    Calls Tryd.prog 8 #[.slice a n c] w fun e w' => e = .returned (.bool true) ∧ Below w.heap.size w w' := by
  have HA : Hid (SA w a l) := h
  have HK : Hid (ArrU w 0 keys) := hk
  have HX : Hid (∀ x ∈ l, x.size ≤ maxLen) := hx
  have hSz : Calls Tryd.prog 34 #[.slice a n c, .int .i64 1048576] w fun e w' => e = .returned (.int .i64 (roomL l)) ∧ w = w' := (szS_any a c n l w hn h hM hx).mono fun e w' h => ⟨h.1, h.2.symm⟩
  have HSz : Hid _ := hSz
  by_cases hr : 0 ≤ roomL l
  · have hbd := (roomL_bd hr).1
    have hTo : ∀ w0, SA w0 a l → Calls Tryd.prog 35 #[.slice a n c] w0 fun e w' => e = .returned (.slice (some ⟨w0.heap.size, 0, none⟩) n n) ∧ RowV w' w0.heap.size (svl l) ∧ Below w0.heap.size w0 w' ∧ w0.heap.size < w'.heap.size := fun w0 h0 => toS_row a c n l w0 hn h0 (by omega)
    have hS : ∀ w0 g, RowV w0 g (svl l) → Calls Tryd.prog 15 #[.slice (some ⟨g, 0, none⟩) n n] w0 fun e w' => e = .returned (.string (rootA l)) ∧ Below w0.heap.size w0 w' := fun w0 g hg => specTree _ n n l w0 hn (Nat.le_refl _) hg.sa (by omega) (by omega) HX.out
    have hI : ∀ w0 g, RowV w0 g (svl l) → ArrU w0 0 keys → 0 < w0.heap.size → Calls Tryd.prog 14 #[.slice (some ⟨g, 0, none⟩) n n] w0 fun e w' => e = .returned (.string (rootA l)) ∧ Below w0.heap.size w0 w' := fun w0 g hg k1 k2 => HI _ n n l w0 hn (Nat.le_refl _) hg.sa (by omega) (by omega) HX.out k1 k2
    have hE : ∀ w0 g1 g2, RowV w0 g1 (svl l) → RowV w0 g2 (svl l) → Calls Tryd.prog 36 #[.slice (some ⟨g1, 0, none⟩) n n, .slice (some ⟨g2, 0, none⟩) n n] w0 fun e w' => e = .returned (.bool true) ∧ Below w0.heap.size w0 w' := fun w0 g1 g2 k1 k2 => by
      have := eqS_any (some ⟨g1, 0, none⟩) (some ⟨g2, 0, none⟩) n n l l w0 k1.sa k2.sa (by omega) (by omega)
      rw [hn, decide_eq_true rfl] at this
      exact this
    have hnn : l.length = n := hn
    generalize rootA l = T at *
    generalize roomL l = q at *
    have t1 := txt_eq T
    clear h hk hx hSz HI hn hM
    go_enter Tryd.func8, Tryd.ntmps8
    go_wp2_with (first
      | (go_at_call 34; refine Calls.mono HSz.out ?_; rintro e w' ⟨rfl, rfl⟩)
      | (go_at_call 35; with_reducible refine (hTo w HA.out).mono ?_; rintro e w1 ⟨rfl, hA1, hB1, hz1⟩)
      | (go_at_call 15; with_reducible refine (hS w1 _ hA1).mono ?_; rintro e w2 ⟨rfl, hB2⟩; have b02 : Below w.heap.size w w2 := hB1.trans (hB2.mono (by omega)); have z2 := hB2.size)
      | (go_at_call 35; with_reducible refine (hTo w2 (HA.out.below b02)).mono ?_; rintro e w3 ⟨rfl, hA3, hB3, hz3⟩; have b03 : Below w.heap.size w w3 := b02.trans (hB3.mono (by omega)))
      | (go_at_call 14; with_reducible refine (hI w3 _ hA3 (HK.out.below b03 h0) (by omega)).mono ?_; rintro e w4 ⟨rfl, hB4⟩; have b04 : Below w.heap.size w w4 := b03.trans (hB4.mono (by omega)); have z4 := hB4.size; have A4 := hA3.below hB4 (by omega))
      | (go_at_call 35; with_reducible refine (hTo w4 (HA.out.below b04)).mono ?_; rintro e w5 ⟨rfl, hA5, hB5, hz5⟩; have b05 : Below w.heap.size w w5 := b04.trans (hB5.mono (by omega)); have A5 := A4.below hB5 (by omega))
      | (go_at_call 36; with_reducible refine (hE w5 _ _ A5 hA5).mono ?_; rintro e w6 ⟨rfl, hB6⟩))
    go_ret
    exact ⟨rfl, b05.trans (hB6.mono (by omega))⟩
  · have hr' : roomL l < 0 := by omega
    generalize roomL l = q at *
    clear h hk hx hSz HI hn hM
    go_enter Tryd.func8, Tryd.ntmps8
    go_wp2_with (first
      | (go_at_call 34; refine Calls.mono HSz.out ?_; rintro e w' ⟨rfl, rfl⟩))
    go_ret
    exact ⟨rfl, Below.refl _ _⟩
end Go.Proofs.YtoaoaagfnkpkdaaDoor
namespace Go.Proofs.YtoaoaagfnkpkdaaDoor
open Go.RowKit
set_option linter.unusedVariables false

theorem ownH32 (t : ByteArray) (w : World) (h : t.size = 32) :
    Calls Tryd.prog 56 #[.string t] w fun e w' => e = .returned (.bool true) ∧ w = w' := by
  have d1 : ((t.size : Int) == 32) = true := beq_iff_eq.2 (by omega)
  go_enter Tryd.func56, Tryd.ntmps56
  go_wp2
  go_ret
  exact ⟨rfl, rfl⟩
theorem ownH32' (t : ByteArray) (w : World) (h : ¬ t.size = 32) (hm : t.size ≤ maxLen) :
    Calls Tryd.prog 56 #[.string t] w fun e w' => e = .returned (.bool false) ∧ w = w' := by
  unfold maxLen at hm
  have d1 : ((t.size : Int) == 32) = false := beq_eq_false_iff_ne.2 (by omega)
  go_enter Tryd.func56, Tryd.ntmps56
  go_wp2
  go_ret
  exact ⟨rfl, rfl⟩
theorem ownH32B (t : ByteArray) (w : World) (hm : t.size ≤ maxLen) :
    Calls Tryd.prog 56 #[.string t] w fun e w' => e = .returned (.bool (decide (t.size = 32))) ∧ w = w' := by
  by_cases h : t.size = 32
  · rw [decide_eq_true h]; exact ownH32 t w h
  · rw [decide_eq_false h]; exact ownH32' t w h hm

set_option maxRecDepth 100000 in
set_option maxHeartbeats 1000000 in
theorem leafI : LeafI := by
  intro t w ht hk h0
  have ht' := ht
  unfold maxLen at ht'
  have HK : Hid (ArrU w 0 keys) := hk
  clear hk
  by_cases h : t.size < 20000
  · have HR : Hid (leafA t = leafD t) := if_pos h
    obtain ⟨T, hT⟩ : ∃ T, (⟨#[0]⟩ : ByteArray) ++ t = T := ⟨_, rfl⟩
    have s1 : T.size = 1 + t.size := by rw [← hT, ByteArray.size_append, one_size]
    have hD : ∀ w0, ArrU w0 0 keys → 0 < w0.heap.size → Calls Tryd.prog 16 #[.string T] w0 fun e w' => e = .returned (.string (leafD t)) ∧ Below w0.heap.size w0 w' := fun w0 k1 k2 => by
      have := digestI_any T w0 (by unfold maxLen; omega) k1 k2
      rw [show digA T = leafD t by unfold digA leafD; rw [if_neg (by omega), hT]] at this
      exact this
    have d1 : decide ((19999 : Int) < (t.size : Int)) = false := decide_eq_false (by omega)
    generalize leafD t = D at *
    generalize leafA t = D2 at *
    clear ht
    go_enter Tryd.func21, Tryd.ntmps21
    go_wp2_with (go_at_call 16; refine (hD _ HK.out h0).mono ?_; rintro e w1 ⟨rfl, hB1⟩)
    go_ret
    exact ⟨ret_str' HR.out.symm, hB1⟩
  · have HR : Hid (leafA t = ⟨#[]⟩) := if_neg h
    have d1 : decide ((19999 : Int) < (t.size : Int)) = true := decide_eq_true (by omega)
    generalize leafA t = D2 at *
    clear ht
    go_enter Tryd.func21, Tryd.ntmps21
    go_wp2
    go_ret
    exact ⟨ret_str' HR.out.symm, Below.refl _ _⟩

set_option maxRecDepth 100000 in
set_option maxHeartbeats 1000000 in
theorem nodeI : NodeI := by
  intro a b w ha hb hk h0
  have ha' := ha
  have hb' := hb
  unfold maxLen at ha' hb'
  have HK : Hid (ArrU w 0 keys) := hk
  clear hk
  by_cases h1 : a.size = 32
  · by_cases h2 : b.size = 32
    · have HR : Hid (nodeA a b = nodeD a b) := if_pos ⟨h1, h2⟩
      obtain ⟨C, hC⟩ : ∃ C, (⟨#[1]⟩ : ByteArray) ++ a = C := ⟨_, rfl⟩
      have s1 : C.size = 1 + a.size := by rw [← hC, ByteArray.size_append, one_size]
      obtain ⟨T, hT⟩ : ∃ T, C ++ b = T := ⟨_, rfl⟩
      have s2 : T.size = C.size + b.size := by rw [← hT, ByteArray.size_append]
      have hD : ∀ w0, ArrU w0 0 keys → 0 < w0.heap.size → Calls Tryd.prog 16 #[.string T] w0 fun e w' => e = .returned (.string (nodeD a b)) ∧ Below w0.heap.size w0 w' := fun w0 k1 k2 => by
        have := digestI_any T w0 (by unfold maxLen; omega) k1 k2
        rw [show digA T = nodeD a b by unfold digA nodeD; rw [if_neg (by omega), hC, hT]] at this
        exact this
      generalize nodeD a b = D at *
      generalize nodeA a b = D2 at *
      clear ha hb
      go_enter Tryd.func33, Tryd.ntmps33
      go_wp2_with (first
        | (go_at_call 56; with_reducible refine (ownH32 a _ h1).mono ?_; rintro e w' ⟨rfl, rfl⟩)
        | (go_at_call 56; with_reducible refine (ownH32 b _ h2).mono ?_; rintro e w' ⟨rfl, rfl⟩)
        | (go_at_call 16; refine (hD _ HK.out h0).mono ?_; rintro e w1 ⟨rfl, hB1⟩))
      go_ret
      exact ⟨ret_str' HR.out.symm, hB1⟩
    · have HR : Hid (nodeA a b = ⟨#[]⟩) := if_neg (fun h => h2 h.2)
      generalize nodeA a b = D2 at *
      go_enter Tryd.func33, Tryd.ntmps33
      go_wp2_with (first
        | (go_at_call 56; with_reducible refine (ownH32 a _ h1).mono ?_; rintro e w' ⟨rfl, rfl⟩)
        | (go_at_call 56; with_reducible refine (ownH32' b _ h2 hb).mono ?_; rintro e w' ⟨rfl, rfl⟩))
      go_ret
      exact ⟨ret_str' HR.out.symm, Below.refl _ _⟩
  · have HR : Hid (nodeA a b = ⟨#[]⟩) := if_neg (fun h => h1 h.1)
    generalize nodeA a b = D2 at *
    go_enter Tryd.func33, Tryd.ntmps33
    go_wp2_with (first
      | (go_at_call 56; with_reducible refine (ownH32' a _ h1 ha).mono ?_; rintro e w' ⟨rfl, rfl⟩))
    go_ret
    exact ⟨ret_str' HR.out.symm, Below.refl _ _⟩
/- Of hashes of 32 bytes it is the node's hash. -/
theorem nodeI32 (a b : ByteArray) (w : World) (ha : a.size = 32) (hb : b.size = 32) (hk : ArrU w 0 keys) (h0 : 0 < w.heap.size) :
    Calls Tryd.prog 33 #[.string a, .string b] w fun e w' => e = .returned (.string (nodeD a b)) ∧ Below w.heap.size w w' := by
  have := nodeI a b w (by rw [ha]; decide) (by rw [hb]; decide) hk h0
  rw [show nodeA a b = nodeD a b from if_pos ⟨ha, hb⟩] at this
  exact this
theorem leafI20 (t : ByteArray) (w : World) (ht : t.size < 20000) (hk : ArrU w 0 keys) (h0 : 0 < w.heap.size) :
    Calls Tryd.prog 21 #[.string t] w fun e w' => e = .returned (.string (leafD t)) ∧ Below w.heap.size w w' := by
  have := leafI t w (by unfold maxLen; omega) hk h0
  rw [show leafA t = leafD t from if_pos ht] at this
  exact this
end Go.Proofs.YtoaoaagfnkpkdaaDoor
namespace Go.Proofs.YtoaoaagfnkpkdaaDoor
open Go.RowKit
set_option linter.unusedVariables false

theorem Tryd.sliceHiM (b o n c k : Nat) (h : k < n) (hc : n ≤ c) : ∀ w, (Instr.slice 23 (.slice (some ⟨b, o, none⟩) n c) (some (.int .i64 (k : Int))) (some (.int .i64 (n : Int))) (some (.int .i64 (n : Int)))).run Tryd.prog w = .ok (.slice (some ⟨b, o + k, none⟩) (n - k) (n - k)) w := by
  intro w
  have h1 : (k : Int) ≤ n := by omega
  have h2 : (n : Int) ≤ c := by omega
  simp [Instr.slice, run_underlying Tryd.underlying23, Instr.sliceBounds, run_sliceBound, h1, h2, show ¬ n = k by omega, Addr.add_lit]
set_option maxRecDepth 100000 in
set_option maxHeartbeats 1000000 in
theorem splitI (b o c n : Nat) (w : World) (h2 : 2 ≤ n) (hc : n ≤ c) (hn : n ≤ 1000000) :
    Calls Tryd.prog 77 #[.slice (some ⟨b, o, none⟩) n c] w fun e w' => e = .returned (.tuple #[.slice (some ⟨b, o, none⟩) (Mer.half n) (Mer.half n), .slice (some ⟨b, o + Mer.half n, none⟩) (n - Mer.half n) (n - Mer.half n)]) ∧ Below w.heap.size w w' := by
  have HF : Hid (∀ k j : Nat, k = 2 ^ j → k < n → n ≤ 2 * k → Mer.half n = k) := fun k j e h1 h2 => by subst e; exact Mer.half_uniq h1 h2
  generalize Mer.half n = H at *
  go_enter Tryd.func77, Tryd.ntmps77
  go_wp2_with fail
  go_loop [5] (fun vk => ∃ k : Nat, vk = .int .i64 (k : Int) ∧ 1 ≤ k ∧ k < n ∧ Hid (∃ j, k = 2 ^ j)) (fun vk => n - (intOf vk).toNat)
  case atStart => exact ⟨1, rfl, Nat.le_refl _, by omega, ⟨0, rfl⟩⟩
  case round =>
    obtain ⟨k, rfl, hk1, hk2, HJ⟩ := hrel
    by_cases hlt : 2 * k < n
    · have hi : (2 : Int) * (k : Int) < n := by omega
      have HJ2 : Hid (∃ j, 2 * k = 2 ^ j) := by
        obtain ⟨j, hj⟩ := HJ.out
        exact ⟨j + 1, by rw [Nat.pow_succ, hj, Nat.mul_comm]⟩
      go_wp2
      exact ⟨⟨2 * k, by go_num, by omega, hlt, HJ2⟩, by simp [intOf]; omega⟩
    · have hi : ¬ (2 : Int) * (k : Int) < n := by omega
      have HR : Hid (H = k) := by
        obtain ⟨j, hj⟩ := HJ.out
        exact HF.out k j hj hk2 (by omega)
      obtain rfl : H = k := HR.out
      have s1 := Tryd.sliceLoM b o n c H (by omega)
      have s2 := Tryd.sliceHiM b o n c H hk2 hc
      clear HF HJ
      go_wp2_with fail
      go_quiet (fail)
      go_wp2
      exact bodyPost_ret (v := .tuple #[.slice (some ⟨b, o, none⟩) H H, .slice (some ⟨b, o + H, none⟩) (n - H) (n - H)]) (by simp [results, Tryd.results77, go_sem]) rfl ⟨rfl, belowN (Below.refl _ _) _⟩
set_option maxRecDepth 100000 in
set_option maxHeartbeats 1000000 in
theorem rightLI (a : Option Addr) (c n : Nat) (l : List ByteArray) (w : World) (hn : l.length = n) (h : SA w a l) (hM : n ≤ 1000000000) (hx : ∀ x ∈ l, x.size ≤ maxLen) :
    Calls Tryd.prog 45 #[.slice a n c] w fun e w' => e = .returned (.bool (okLv l)) ∧ w = w' := by
  have HA : Hid (SA w a l) := h
  have HN : Hid (l.length = n) := hn
  have HX : Hid (∀ x ∈ l, x.size ≤ maxLen) := hx
  clear h hn hx
  by_cases hb : 64 < n
  · have HR : Hid (okLv l = false) := okLv_no (fun e => by have := HN.out; have := e.1; omega)
    have d1 : decide ((64 : Int) < n) = true := decide_eq_true (by omega)
    go_enter Tryd.func45, Tryd.ntmps45
    go_wp2
    go_ret
    exact ⟨retY HR.out.symm, rfl⟩
  · have d1 : decide ((64 : Int) < n) = false := decide_eq_false (by omega)
    go_enter Tryd.func45, Tryd.ntmps45
    go_wp2_with fail
    go_loop [10] (fun vi => ∃ k : Nat, vi = .int .i64 (k : Int) ∧ k ≤ n ∧ Hid (∀ x ∈ l.take k, x.size < 20000)) (fun vi => n - (intOf vi).toNat)
    case atStart => exact ⟨0, rfl, Nat.zero_le _, fun x h => by simp at h⟩
    case round =>
      obtain ⟨k, rfl, hk, HT⟩ := hrel
      by_cases hlt : k < n
      · have hkl : k < l.length := by have := HN.out; omega
        obtain ⟨b, o, rfl, hc⟩ := HA.out k hkl
        have hxs := HX.out l[k] (List.getElem_mem hkl)
        have HM : Hid (l[k] ∈ l) := List.getElem_mem hkl
        have HT2 : Hid (l[k].size < 20000 → ∀ x ∈ l.take (k + 1), x.size < 20000) := fun hz x hx => by
          rw [List.take_succ_eq_append_getElem hkl] at hx
          rcases List.mem_append.1 hx with h1 | h1
          · exact HT.out x h1
          · rw [List.mem_singleton.1 h1]; exact hz
        unfold maxLen at hxs
        generalize l[k] = x at *
        have lk : (k : Int) < n := by omega
        have l0 : (0 : Int) ≤ k := by omega
        clear hkl HT
        by_cases hz : x.size < 20000
        · have HT3 : Hid (∀ x ∈ l.take (k + 1), x.size < 20000) := HT2.out hz
          have d2 : decide ((19999 : Int) < (x.size : Int)) = false := decide_eq_false (by omega)
          clear HT2
          go_wp2
          exact ⟨⟨k + 1, by go_num, hlt, HT3⟩, by simp [intOf]; omega⟩
        · have d2 : decide ((19999 : Int) < (x.size : Int)) = true := decide_eq_true (by omega)
          have HR : Hid (okLv l = false) := okLv_no (fun e => hz (e.2 x HM.out))
          clear HT2 HM hz
          go_wp2
          go_ret
          exact ⟨retY HR.out.symm, rfl⟩
      · obtain rfl : k = n := by omega
        have HR : Hid (okLv l = true) := okLv_yes ⟨by have := HN.out; omega, by
          have := HT.out
          rw [List.take_of_length_le (by have := HN.out; omega)] at this
          exact this⟩
        clear HT
        go_wp2
        go_ret
        exact ⟨retY HR.out.symm, rfl⟩
/- The code of leaves. -/
def lvC (l : List ByteArray) : Int := if 400 < l.length then 2 else if okLv l = false then 1 else 0
set_option maxRecDepth 100000 in
set_option maxHeartbeats 1000000 in
theorem codeLI (a : Option Addr) (c n : Nat) (l : List ByteArray) (w : World) (hn : l.length = n) (h : SA w a l) (hM : n ≤ 1000000000) (hx : ∀ x ∈ l, x.size ≤ maxLen) :
    Calls Tryd.prog 52 #[.slice a n c] w fun e w' => e = .returned (.int .i64 (lvC l)) ∧ w = w' := by
  by_cases hb : 400 < n
  · have HR : Hid (lvC l = 2) := if_pos (by omega)
    have d1 : decide ((400 : Int) < n) = true := decide_eq_true (by omega)
    clear h hx
    go_enter Tryd.func52, Tryd.ntmps52
    go_wp2
    go_ret
    exact ⟨retZ HR.out.symm, rfl⟩
  have d1 : decide ((400 : Int) < n) = false := decide_eq_false (by omega)
  have HC : Hid (Calls Tryd.prog 45 #[.slice a n c] w fun e w' => e = .returned (.bool (okLv l)) ∧ w = w') := rightLI a c n l w hn h hM hx
  clear h hx
  cases ho : okLv l with
  | false =>
    have HR : Hid (lvC l = 1) := by show _ = _; unfold lvC; rw [if_neg (by omega), if_pos ho]
    rw [ho] at HC
    clear ho
    go_enter Tryd.func52, Tryd.ntmps52
    go_wp2_with (go_at_call 45; refine Calls.mono HC.out ?_; rintro e w' ⟨rfl, rfl⟩)
    go_ret
    exact ⟨retZ HR.out.symm, rfl⟩
  | true =>
    have HR : Hid (lvC l = 0) := by show _ = _; unfold lvC; rw [if_neg (by omega), if_neg (by rw [ho]; decide)]
    rw [ho] at HC
    clear ho
    go_enter Tryd.func52, Tryd.ntmps52
    go_wp2_with (go_at_call 45; refine Calls.mono HC.out ?_; rintro e w' ⟨rfl, rfl⟩)
    go_ret
    exact ⟨retZ HR.out.symm, rfl⟩
/- What stands while the program makes a root. -/
structure KpT (w : World) (a : Option Addr) (l : List ByteArray) (w' : World) : Prop where
  below : Below w.heap.size w w'
  sa : SA w' a l
  arr : ArrU w' 0 keys
  pos : 0 < w'.heap.size
theorem KpT.hid {w w' w2 : World} {a : Option Addr} {l : List ByteArray} (h : Hid (KpT w a l w')) (hb : Below w'.heap.size w' w2) : Hid (KpT w a l w2) := ⟨h.out.below.trans (hb.mono h.out.below.size), h.out.sa.below hb, h.out.arr.below hb h.out.pos, Nat.lt_of_lt_of_le h.out.pos hb.size⟩
set_option maxRecDepth 100000 in
set_option maxHeartbeats 1000000 in
theorem rootI : ∀ (m : Nat) (a : Option Addr) (c n : Nat) (l : List ByteArray) (w : World), l.length ≤ m → l.length = n → 1 ≤ n → n ≤ c → SA w a l → n ≤ 1000 → c ≤ 9223372036854775807 → (∀ x ∈ l, x.size < 20000) → ArrU w 0 keys → 0 < w.heap.size →
    Calls Tryd.prog 46 #[.slice a n c] w fun e w' => e = .returned (.string (rtT l)) ∧ Below w.heap.size w w'
  | m, a, c, n, l, w, hm, hn, hn1, hc, hA, hM, hcM, hx, hk, h0 => by
    by_cases h1 : n = 1
    · obtain ⟨x, rfl⟩ := List.length_eq_one_iff.1 (hn.trans h1)
      obtain ⟨b, o, rfl, hcell⟩ := hA 0 (by simp)
      have HR : Hid (rtT [x] = leafD x) := rfl
      have HL : Hid (Calls Tryd.prog 21 #[.string x] w fun e w' => e = .returned (.string (leafD x)) ∧ Below w.heap.size w w') := leafI20 _ w (hx x (by simp)) hk h0
      have hcell2 : w.cell? ⟨b, o, none⟩ = some (.string x) := hcell
      generalize leafD x = E at *
      generalize rtT [x] = T at *
      subst h1
      clear hA hx hcell hk
      go_enter Tryd.func46, Tryd.ntmps46
      go_wp2_with (go_at_call 21; refine Calls.mono HL.out ?_; rintro e w1 ⟨rfl, hB1⟩)
      go_ret
      exact ⟨ret_str' HR.out.symm, hB1⟩
    have d1 : ((n : Int) == 1) = false := beq_eq_false_iff_ne.2 (by omega)
    have h2 : 2 ≤ n := by omega
    match m, hm with
    | 0, hm => omega
    | m + 1, hm =>
      have hl := Mer.half_lt h2
      have hp := Mer.half_pos n
      obtain ⟨b, o, rfl⟩ := hA.base (by omega)
      have l1 : (l.take (Mer.half n)).length = Mer.half n := by rw [List.length_take]; omega
      have l2 : (l.drop (Mer.half n)).length = n - Mer.half n := by rw [List.length_drop]; omega
      have hS : ∀ w0, Calls Tryd.prog 77 #[.slice (some ⟨b, o, none⟩) n c] w0 fun e w' => e = .returned (.tuple #[.slice (some ⟨b, o, none⟩) (Mer.half n) (Mer.half n), .slice (some ⟨b, o + Mer.half n, none⟩) (n - Mer.half n) (n - Mer.half n)]) ∧ Below w0.heap.size w0 w' := fun w0 => splitI b o c n w0 h2 hc (by omega)
      have hR1 : ∀ w0, Hid (KpT w (some ⟨b, o, none⟩) l w0) → Calls Tryd.prog 46 #[.slice (some ⟨b, o, none⟩) (Mer.half n) (Mer.half n)] w0 fun e w' => e = .returned (.string (rtT (l.take (Mer.half n)))) ∧ Below w0.heap.size w0 w' := fun w0 h =>
        rootI m (some ⟨b, o, none⟩) (Mer.half n) (Mer.half n) (l.take (Mer.half n)) w0 (by omega) l1 (by omega) (Nat.le_refl _) (h.out.sa.take _) (by omega) (by omega) (fun x hx' => hx x (List.mem_of_mem_take hx')) h.out.arr h.out.pos
      have hR2 : ∀ w0, Hid (KpT w (some ⟨b, o, none⟩) l w0) → Calls Tryd.prog 46 #[.slice (some ⟨b, o + Mer.half n, none⟩) (n - Mer.half n) (n - Mer.half n)] w0 fun e w' => e = .returned (.string (rtT (l.drop (Mer.half n)))) ∧ Below w0.heap.size w0 w' := fun w0 h =>
        rootI m (some ⟨b, o + Mer.half n, none⟩) (n - Mer.half n) (n - Mer.half n) (l.drop (Mer.half n)) w0 (by omega) l2 (by omega) (Nat.le_refl _) (h.out.sa.drop _) (by omega) (by omega) (fun x hx' => hx x (List.mem_of_mem_drop hx')) h.out.arr h.out.pos
      have hN : ∀ w0, Hid (KpT w (some ⟨b, o, none⟩) l w0) → Calls Tryd.prog 33 #[.string (rtT (l.take (Mer.half n))), .string (rtT (l.drop (Mer.half n)))] w0 fun e w' => e = .returned (.string (rtT l)) ∧ Below w0.heap.size w0 w' := fun w0 h => by
        have := nodeI32 (rtT (l.take (Mer.half n))) (rtT (l.drop (Mer.half n))) w0 (rtT_size _) (rtT_size _) h.out.arr h.out.pos
        rw [rtT_two (by omega : 2 ≤ l.length), hn]
        exact this
      have HS : Hid (KpT w (some ⟨b, o, none⟩) l w) := KpT.mk (Below.refl _ _) hA hk h0
      generalize rtT (l.take (Mer.half n)) = T1 at *
      generalize rtT (l.drop (Mer.half n)) = T2 at *
      generalize rtT l = T at *
      generalize Mer.half n = k at *
      clear hA hx l1 l2 hk
      go_enter Tryd.func46, Tryd.ntmps46
      go_wp2_with (first
        | (go_at_call 77; refine (hS _).mono ?_; rintro e w5 ⟨rfl, h5⟩; have HS5 := KpT.hid HS h5)
        | (go_at_call 46; with_reducible refine (hR1 _ HS5).mono ?_; rintro e w6 ⟨rfl, h6⟩; have HS6 := KpT.hid HS5 h6)
        | (go_at_call 46; with_reducible refine (hR2 _ HS6).mono ?_; rintro e w7 ⟨rfl, h7⟩; have HS7 := KpT.hid HS6 h7)
        | (go_at_call 33; refine (hN _ HS7).mono ?_; rintro e w8 ⟨rfl, h8⟩; have HS8 := KpT.hid HS7 h8))
      go_ret
      exact ⟨rfl, HS8.out.below⟩
set_option maxRecDepth 100000 in
set_option maxHeartbeats 1000000 in
theorem treeI : TreeI := by
  intro a c n l w hn hc h hM hcM hx hk h0
  have HC : Hid (Calls Tryd.prog 45 #[.slice a n c] w fun e w' => e = .returned (.bool (okLv l)) ∧ w = w') := rightLI a c n l w hn h (by omega) hx
  cases ho : okLv l with
  | false =>
    have HR : Hid (rootA l = ⟨#[]⟩) := by show _ = _; unfold rootA; rw [ho]; rfl
    rw [ho] at HC
    generalize rootA l = T2 at *
    clear h hx ho hk
    go_enter Tryd.func14, Tryd.ntmps14
    go_wp2_with (go_at_call 45; refine Calls.mono HC.out ?_; rintro e w' ⟨rfl, rfl⟩)
    go_ret
    exact ⟨ret_str' HR.out.symm, Below.refl _ _⟩
  | true =>
    have HR : Hid (rootA l = rtT l) := by show _ = _; unfold rootA; rw [ho]; rfl
    have ho' := okLv_of ho
    rw [ho] at HC
    by_cases hz : n = 0
    · have HD : Hid (Calls Tryd.prog 16 #[.string ⟨#[]⟩] w fun e w' => e = .returned (.string emptyD) ∧ Below w.heap.size w w') := digestI_any ⟨#[]⟩ w (by decide) hk h0
      have HE : Hid (rootA l = emptyD) := by show _ = _; rw [HR.out, List.length_eq_zero_iff.1 (hn.trans hz)]; exact rtT_nil
      subst hz
      generalize rootA l = T2 at *
      generalize emptyD = E at *
      clear h hx ho ho' hk HR
      go_enter Tryd.func14, Tryd.ntmps14
      go_wp2_with (first
        | (go_at_call 45; refine Calls.mono HC.out ?_; rintro e w' ⟨rfl, rfl⟩)
        | (go_at_call 16; refine Calls.mono HD.out ?_; rintro e w1 ⟨rfl, hB1⟩))
      go_ret
      exact ⟨ret_str' HE.out.symm, hB1⟩
    · have d0 : ((n : Int) == 0) = false := beq_eq_false_iff_ne.2 (by omega)
      have HT : Hid (Calls Tryd.prog 46 #[.slice a n c] w fun e w' => e = .returned (.string (rtT l)) ∧ Below w.heap.size w w') := rootI n a c n l w (by omega) hn (by omega) hc h (by have := ho'.1; omega) hcM ho'.2 hk h0
      generalize rtT l = T at *
      generalize rootA l = T2 at *
      clear h hx ho ho' hk
      go_enter Tryd.func14, Tryd.ntmps14
      go_wp2_with (first
        | (go_at_call 45; refine Calls.mono HC.out ?_; rintro e w' ⟨rfl, rfl⟩)
        | (go_at_call 46; refine Calls.mono HT.out ?_; rintro e w1 ⟨rfl, hB1⟩))
      go_ret
      exact ⟨ret_str' HR.out.symm, hB1⟩
end Go.Proofs.YtoaoaagfnkpkdaaDoor
namespace Go.Proofs.YtoaoaagfnkpkdaaDoor
open Go.RowKit
set_option linter.unusedVariables false

def wvs (f s : Nat) : List Value := [.int .i64 (f : Int), .int .i64 (s : Int)]
theorem wvs_one (f s : Nat) : ∀ v ∈ wvs f s, v.oneCell' = true := by
  intro v hv
  simp [wvs] at hv
  rcases hv with h | h <;> (rw [h]; rfl)
theorem wvs_ne (f s : Nat) : wvs f s ≠ [] := by simp [wvs]
theorem RowV.wlk {w : World} {g : Nat} {f s : Nat} (h : RowV w g (wvs f s)) : w.cell? ⟨g, 0, none⟩ = some (.int .i64 (f : Int)) ∧ w.cell? ⟨g, 1, none⟩ = some (.int .i64 (s : Int)) := ⟨h.cell (k := 0) rfl, h.cell (k := 1) rfl⟩
theorem Tryd.infoW : (Tryd.prog.info? 66).map (fun i => i.zero) = some (some (.agg (wvs 0 0).toArray)) := by kernel_rfl
theorem Tryd.undW : ∃ d, Tryd.prog.underlying 66 = some d ∧ d.isRow = true := ⟨_, Tryd.underlying66, rfl⟩
theorem Tryd.sizeW : (Tryd.prog.info? 66).map (·.size) = some 2 := by kernel_rfl

set_option maxRecDepth 100000 in
set_option maxHeartbeats 1000000 in
theorem halvedI (f s : Nat) (w : World) (hf : f ≤ 1099511627776) (hs : s ≤ 1099511627776) :
    Calls Tryd.prog 89 #[.agg #[.int .i64 (f : Int), .int .i64 (s : Int)]] w fun e w' => e = .returned (.agg #[.int .i64 ((f / 2 : Nat) : Int), .int .i64 ((s / 2 : Nat) : Int)]) ∧ Below w.heap.size w w' := by
  go_enter Tryd.func89, Tryd.ntmps89
  go_wp2_with (first
    | (with_reducible refine wpList_boxV (w := w) (by with_unfolding_all rfl) 66 (.tmp 0) (by with_unfolding_all rfl) (wvs f s) (by with_unfolding_all rfl) ?_; intro w1 hA1 hB1 hS1; have z1 : w.heap.size < w1.heap.size := (by omega); clear hS1)
    | (with_reducible refine wpList_allocV (w := w1) (by with_unfolding_all rfl) 66 (by with_unfolding_all rfl) (wvs 0 0) Tryd.infoW ?_; intro w2 hA2 hB2 hS2; clear hS2; obtain ⟨p0, p1⟩ := (hA1.below hB2 (by omega)).wlk)
    | (with_reducible refine wpList_storeV (w := w2) (by with_unfolding_all rfl) 66 (.tmp 2) (.tmp 9) (by with_unfolding_all rfl) w1.heap.size (wvs 0 0) (wvs (f / 2) (s / 2)) (by with_unfolding_all rfl) (by with_unfolding_all rfl) hA2 2 Tryd.sizeW (by with_unfolding_all rfl) (by with_unfolding_all rfl) (wvs_one _ _) ?_; intro w3 hA3 hB3 hF3 hS3))
  refine bodyPost_ret (results_V (t := 66) rfl _ w1.heap.size _ (by with_unfolding_all rfl) hA3 Tryd.undW 2 Tryd.sizeW rfl) rfl ⟨rfl, (hB1.trans (hB2.mono (by omega))).trans ((hB3 w1.heap.size (Nat.le_refl _)).mono (by omega))⟩
def rgB (f s : Nat) : Bool := f % 2 == 1 || f == s
set_option maxRecDepth 100000 in
set_option maxHeartbeats 1000000 in
theorem metI (f s : Nat) (w : World) (hf : f ≤ 1099511627776) (hs : s ≤ 1099511627776) :
    Calls Tryd.prog 58 #[.agg #[.int .i64 (f : Int), .int .i64 (s : Int)]] w fun e w' => e = .returned (.bool (rgB f s)) ∧ Below w.heap.size w w' := by
  by_cases h1 : f % 2 = 1
  · have HR : Hid (rgB f s = true) := by show _ = _; unfold rgB; rw [beq_iff_eq.2 h1]; rfl
    have d5 : ((f : Int) % 2 == 1) = true := beq_iff_eq.2 (by omega)
    clear h1
    go_enter Tryd.func58, Tryd.ntmps58
    go_wp2_with (first
      | (with_reducible refine wpList_boxV (w := w) (by with_unfolding_all rfl) 66 (.tmp 0) (by with_unfolding_all rfl) (wvs f s) (by with_unfolding_all rfl) ?_; intro w1 hA1 hB1 hS1; obtain ⟨p0, p1⟩ := hA1.wlk))
    go_ret
    exact ⟨retY HR.out.symm, hB1⟩
  have d5 : ((f : Int) % 2 == 1) = false := beq_eq_false_iff_ne.2 (by omega)
  by_cases h2 : f = s
  · have HR : Hid (rgB f s = true) := by show _ = _; unfold rgB; rw [beq_iff_eq.2 h2, Bool.or_true]
    have d6 : ((f : Int) == (s : Int)) = true := beq_iff_eq.2 (by omega)
    clear h1 h2
    go_enter Tryd.func58, Tryd.ntmps58
    go_wp2_with (first
      | (with_reducible refine wpList_boxV (w := w) (by with_unfolding_all rfl) 66 (.tmp 0) (by with_unfolding_all rfl) (wvs f s) (by with_unfolding_all rfl) ?_; intro w1 hA1 hB1 hS1; obtain ⟨p0, p1⟩ := hA1.wlk))
    go_ret
    exact ⟨retY HR.out.symm, hB1⟩
  · have HR : Hid (rgB f s = false) := by show _ = _; unfold rgB; rw [beq_eq_false_iff_ne.2 h1, beq_eq_false_iff_ne.2 h2]; rfl
    have d6 : ((f : Int) == (s : Int)) = false := beq_eq_false_iff_ne.2 (by omega)
    clear h1 h2
    go_enter Tryd.func58, Tryd.ntmps58
    go_wp2_with (first
      | (with_reducible refine wpList_boxV (w := w) (by with_unfolding_all rfl) 66 (.tmp 0) (by with_unfolding_all rfl) (wvs f s) (by with_unfolding_all rfl) ?_; intro w1 hA1 hB1 hS1; obtain ⟨p0, p1⟩ := hA1.wlk))
    go_ret
    exact ⟨retY HR.out.symm, hB1⟩
end Go.Proofs.YtoaoaagfnkpkdaaDoor
namespace Go.Proofs.YtoaoaagfnkpkdaaDoor
open Go.RowKit
set_option linter.unusedVariables false

theorem nx_up (f s : Nat) : Mer.nx f s = if f = s then ((dn f s).1 / 2, (dn f s).2 / 2) else (f / 2, s / 2) := by
  by_cases h : f = s
  · rw [if_pos h, nx_right (rgt_same h)]
  · rw [if_neg h]
    by_cases ho : f % 2 = 1
    · rw [nx_right (rgt_odd ho), dn_stop (Or.inl ho)]
    · rw [nx_left (rgt_not ho h)]
theorem dn_le : ∀ (n f s : Nat), f ≤ n → (dn f s).1 ≤ f ∧ (dn f s).2 ≤ s
  | 0, f, s, h => by
    have : f = 0 := by omega
    subst this
    rw [dn_stop (Or.inr rfl)]
    exact ⟨Nat.le_refl _, Nat.le_refl _⟩
  | n + 1, f, s, h => by
    by_cases e : f % 2 = 0 ∧ f ≠ 0
    · rw [dn_go e.1 e.2]
      have := dn_le n (f / 2) (s / 2) (by omega)
      omega
    · rw [dn_stop (by omega)]
      exact ⟨Nat.le_refl _, Nat.le_refl _⟩
theorem nx_le (f s : Nat) : (Mer.nx f s).1 ≤ f ∧ (Mer.nx f s).2 ≤ s := by
  rw [nx_up]
  have := dn_le f f s (Nat.le_refl _)
  by_cases h : f = s
  · rw [if_pos h]
    dsimp only
    omega
  · rw [if_neg h]
    dsimp only
    omega
def wm (w : World) (g : Nat) : Nat := (intOf ((w.cell? ⟨g, 0, none⟩).getD undef)).toNat
theorem wm_eq {w : World} {g f s : Nat} (h : RowV w g (wvs f s)) : wm w g = f := by
  unfold wm
  rw [h.wlk.1]
  simp [intOf]
/- What stands while the walk goes up. -/
structure KpW (w : World) (g1 g2 f s : Nat) (w' : World) : Prop where
  below : Below w.heap.size w w'
  v1 : RowV w' g1 (wvs f s)
  v2 : RowV w' g2 (wvs 0 0)
  lo : w.heap.size ≤ g1
  lt : g1 < g2
  up : g2 < w'.heap.size
theorem KpW.call {w w' w2 : World} {g1 g2 f s : Nat} (h : Hid (KpW w g1 g2 f s w')) (hb : Below w'.heap.size w' w2) : Hid (KpW w g1 g2 f s w2) :=
  ⟨h.out.below.trans (hb.mono h.out.below.size), h.out.v1.below hb (by have := h.out.lt; have := h.out.up; omega), h.out.v2.below hb h.out.up, h.out.lo, h.out.lt, Nat.lt_of_lt_of_le h.out.up hb.size⟩
theorem KpW.put {w w' w2 : World} {g1 g2 f s f2 s2 : Nat} (h : Hid (KpW w g1 g2 f s w')) (hv : RowV w2 g1 (wvs f2 s2)) (hb : ∀ B, B ≤ g1 → Below B w' w2) (hf : ∀ x : Addr, x.block ≠ g1 → w2.cell? x = w'.cell? x ∧ w2.frozen? x = w'.frozen? x) (hz : w2.heap.size = w'.heap.size) : Hid (KpW w g1 g2 f2 s2 w2) :=
  ⟨h.out.below.trans (hb _ h.out.lo), hv, h.out.v2.same (fun k => hf ⟨g2, k, none⟩ (by show g2 ≠ g1; have := h.out.lt; omega)), h.out.lo, h.out.lt, by rw [hz]; exact h.out.up⟩
set_option maxRecDepth 100000 in
set_option maxHeartbeats 1000000 in
theorem aboveI (f s : Nat) (w : World) (hf : f ≤ 1099511627776) (hs : s ≤ 1099511627776) :
    Calls Tryd.prog 59 #[.agg #[.int .i64 (f : Int), .int .i64 (s : Int)]] w fun e w' => e = .returned (.agg #[.int .i64 ((Mer.nx f s).1 : Int), .int .i64 ((Mer.nx f s).2 : Int)]) ∧ Below w.heap.size w w' := by
  have hH : ∀ (f s : Nat) w0, f ≤ 1099511627776 → s ≤ 1099511627776 → Calls Tryd.prog 89 #[.agg #[.int .i64 (f : Int), .int .i64 (s : Int)]] w0 fun e w' => e = .returned (.agg #[.int .i64 ((f / 2 : Nat) : Int), .int .i64 ((s / 2 : Nat) : Int)]) ∧ Below w0.heap.size w0 w' := fun f s w0 h1 h2 => halvedI f s w0 h1 h2
  rw [nx_up]
  by_cases hsame : f = s
  · rw [if_pos hsame]
    obtain ⟨F, S, hFS⟩ : ∃ F S, dn f s = (F, S) := ⟨_, _, rfl⟩
    have HD : Hid (dn f s = (F, S)) := hFS
    rw [hFS]
    have d6 : ((f : Int) == (s : Int)) = true := beq_iff_eq.2 (by omega)
    clear hsame hFS
    go_enter Tryd.func59, Tryd.ntmps59
    go_wp2_with (first
      | (with_reducible refine wpList_boxV (w := w) (by with_unfolding_all rfl) 66 (.tmp 0) (by with_unfolding_all rfl) (wvs f s) (by with_unfolding_all rfl) ?_; intro w1 hA1 hB1 hS1; have z1 : w.heap.size < w1.heap.size := (by omega); clear hS1)
      | (with_reducible refine wpList_allocV (w := w1) (by with_unfolding_all rfl) 66 (by with_unfolding_all rfl) (wvs 0 0) Tryd.infoW ?_; intro w2 hA2 hB2 hS2; have z2 : w1.heap.size < w2.heap.size := (by omega); clear hS2; obtain ⟨p0, p1⟩ := (hA1.below hB2 (by omega)).wlk))
    have HW : Hid (KpW w w.heap.size w1.heap.size f s w2) := KpW.mk (hB1.trans (hB2.mono (by omega))) (hA1.below hB2 (by omega)) hA2 (Nat.le_refl _) z1 z2
    generalize w1.heap.size = g2 at *
    clear hA1 hA2 hB1 hB2 p0 p1 z2 d6
    go_loopw [] (fun wr => ∃ (f' s' : Nat), f' ≤ 1099511627776 ∧ s' ≤ 1099511627776 ∧ Hid (dn f' s' = (F, S)) ∧ Hid (KpW w w.heap.size g2 f' s' wr)) (fun wr => wm wr w.heap.size)
    case atStart => exact ⟨f, s, hf, hs, HD, HW⟩
    case round =>
      clear HD HW hf hs
      obtain ⟨f', s', hf', hs', HD', HW'⟩ := hrel
      have hmeas : wm wr w.heap.size = f' := wm_eq HW'.out.v1
      obtain ⟨p0, p1⟩ := HW'.out.v1.wlk
      have hH1 : ∀ w0, Calls Tryd.prog 89 #[.agg #[.int .i64 (f' : Int), .int .i64 (s' : Int)]] w0 fun e w' => e = .returned (.agg #[.int .i64 ((f' / 2 : Nat) : Int), .int .i64 ((s' / 2 : Nat) : Int)]) ∧ Below w0.heap.size w0 w' := fun w0 => hH f' s' w0 hf' hs'
      clear hH
      have HM : Hid (wm wr w.heap.size = f') := hmeas
      clear hmeas
      by_cases e1 : f' % 2 = 0 ∧ f' ≠ 0
      · as_aux_lemma =>
        have t1 : ((f' : Int) % 2 == 0) = true := beq_iff_eq.2 (by omega)
        have t2 : decide ((0 : Int) < (f' : Int)) = true := decide_eq_true (by omega)
        have t3 : decide (0 < f') = true := decide_eq_true (by omega)
        have HE : Hid (dn (f' / 2) (s' / 2) = (F, S)) := by have := HD'.out; rw [dn_go e1.1 e1.2] at this; exact this
        have HP : Hid (0 < f') := Nat.pos_of_ne_zero e1.2
        clear HD' e1
        go_wp2_with (first
          | (go_at_call 89; refine (hH1 _).mono ?_; rintro e w3 ⟨rfl, hB3⟩; have HW3 := KpW.call HW' hB3)
          | (with_reducible refine wpList_storeV (w := w3) (by with_unfolding_all rfl) 66 (.tmp 1) (.tmp 18) (by with_unfolding_all rfl) w.heap.size (wvs f' s') (wvs (f' / 2) (s' / 2)) (by with_unfolding_all rfl) (by with_unfolding_all rfl) HW3.out.v1 2 Tryd.sizeW (by with_unfolding_all rfl) (by with_unfolding_all rfl) (wvs_one _ _) ?_; intro w4 hA4 hB4 hF4 hS4; have HW4 := KpW.put HW3 hA4 hB4 hF4 hS4; clear hS4))
        simp only [Act.put]
        go_roundw
        case rel => exact ⟨f' / 2, s' / 2, by omega, by omega, HE, HW4⟩
        case measure =>
          rw [HM.out, wm_eq HW4.out.v1]
          have := HP.out
          omega
      · as_aux_lemma =>
        have HE : Hid (f' = F ∧ s' = S) := by have := HD'.out; rw [dn_stop (by omega)] at this; injection this with a1 a2; exact ⟨a1, a2⟩
        clear HD' HM
        by_cases e2 : f' % 2 = 0
        · have t1 : ((f' : Int) % 2 == 0) = true := beq_iff_eq.2 (by omega)
          have t2 : decide ((0 : Int) < (f' : Int)) = false := decide_eq_false (by omega)
          have t3 : decide (0 < f') = false := decide_eq_false (by omega)
          clear e1 e2
          go_wp2_with (first
            | (go_at_call 89; refine (hH1 _).mono ?_; rintro e w3 ⟨rfl, hB3⟩; have HW3 := KpW.call HW' hB3)
            | (with_reducible refine wpList_storeV (w := w3) (by with_unfolding_all rfl) 66 (.tmp 2) (.tmp 20) (by with_unfolding_all rfl) g2 (wvs 0 0) (wvs (f' / 2) (s' / 2)) (by with_unfolding_all rfl) (by with_unfolding_all rfl) HW3.out.v2 2 Tryd.sizeW (by with_unfolding_all rfl) (by with_unfolding_all rfl) (wvs_one _ _) ?_; intro w4 hA4 hB4 hF4 hS4; clear hS4))
          refine bodyPost_ret (results_V (t := 66) rfl _ g2 _ (by with_unfolding_all rfl) hA4 Tryd.undW 2 Tryd.sizeW rfl) rfl ⟨?_, HW3.out.below.trans (hB4 _ (by omega))⟩
          rw [← HE.out.1, ← HE.out.2]
          rfl
        · have t1 : ((f' : Int) % 2 == 0) = false := beq_eq_false_iff_ne.2 (by omega)
          clear e1 e2
          go_wp2_with (first
            | (go_at_call 89; refine (hH1 _).mono ?_; rintro e w3 ⟨rfl, hB3⟩; have HW3 := KpW.call HW' hB3)
            | (with_reducible refine wpList_storeV (w := w3) (by with_unfolding_all rfl) 66 (.tmp 2) (.tmp 20) (by with_unfolding_all rfl) g2 (wvs 0 0) (wvs (f' / 2) (s' / 2)) (by with_unfolding_all rfl) (by with_unfolding_all rfl) HW3.out.v2 2 Tryd.sizeW (by with_unfolding_all rfl) (by with_unfolding_all rfl) (wvs_one _ _) ?_; intro w4 hA4 hB4 hF4 hS4; clear hS4))
          refine bodyPost_ret (results_V (t := 66) rfl _ g2 _ (by with_unfolding_all rfl) hA4 Tryd.undW 2 Tryd.sizeW rfl) rfl ⟨?_, HW3.out.below.trans (hB4 _ (by omega))⟩
          rw [← HE.out.1, ← HE.out.2]
          rfl
  · rw [if_neg hsame]
    have d6 : ((f : Int) == (s : Int)) = false := beq_eq_false_iff_ne.2 (by omega)
    have hH1 : ∀ w0, Calls Tryd.prog 89 #[.agg #[.int .i64 (f : Int), .int .i64 (s : Int)]] w0 fun e w' => e = .returned (.agg #[.int .i64 ((f / 2 : Nat) : Int), .int .i64 ((s / 2 : Nat) : Int)]) ∧ Below w0.heap.size w0 w' := fun w0 => hH f s w0 hf hs
    clear hsame hH
    go_enter Tryd.func59, Tryd.ntmps59
    go_wp2_with (first
      | (with_reducible refine wpList_boxV (w := w) (by with_unfolding_all rfl) 66 (.tmp 0) (by with_unfolding_all rfl) (wvs f s) (by with_unfolding_all rfl) ?_; intro w1 hA1 hB1 hS1; have z1 : w.heap.size < w1.heap.size := (by omega); clear hS1)
      | (with_reducible refine wpList_allocV (w := w1) (by with_unfolding_all rfl) 66 (by with_unfolding_all rfl) (wvs 0 0) Tryd.infoW ?_; intro w2 hA2 hB2 hS2; have z2 : w1.heap.size < w2.heap.size := (by omega); clear hS2; obtain ⟨p0, p1⟩ := (hA1.below hB2 (by omega)).wlk)
      | (go_at_call 89; refine (hH1 _).mono ?_; rintro e w3 ⟨rfl, hB3⟩; have V3 := hA2.below hB3 z2)
      | (with_reducible refine wpList_storeV (w := w3) (by with_unfolding_all rfl) 66 (.tmp 2) (.tmp 20) (by with_unfolding_all rfl) w1.heap.size (wvs 0 0) (wvs (f / 2) (s / 2)) (by with_unfolding_all rfl) (by with_unfolding_all rfl) V3 2 Tryd.sizeW (by with_unfolding_all rfl) (by with_unfolding_all rfl) (wvs_one _ _) ?_; intro w4 hA4 hB4 hF4 hS4; clear hS4))
    refine bodyPost_ret (results_V (t := 66) rfl _ w1.heap.size _ (by with_unfolding_all rfl) hA4 Tryd.undW 2 Tryd.sizeW rfl) rfl ⟨rfl, ((hB1.trans (hB2.mono (by omega))).trans (hB3.mono (by omega))).trans (hB4 _ (by omega))⟩
end Go.Proofs.YtoaoaagfnkpkdaaDoor
namespace Go.Proofs.YtoaoaagfnkpkdaaDoor
open Go.RowKit
set_option linter.unusedVariables false

def okPr (l : List ByteArray) : Bool := decide (l.length ≤ 400) && okHs l
set_option maxRecDepth 100000 in
set_option maxHeartbeats 1000000 in
theorem proofRI (a : Option Addr) (c n : Nat) (l : List ByteArray) (w : World) (hn : l.length = n) (h : SA w a l) (hM : n ≤ 1000000000) (hx : ∀ x ∈ l, x.size ≤ maxLen) :
    Calls Tryd.prog 55 #[.slice a n c] w fun e w' => e = .returned (.bool (okPr l)) ∧ w = w' := by
  have HA : Hid (SA w a l) := h
  have HN : Hid (l.length = n) := hn
  have HX : Hid (∀ x ∈ l, x.size ≤ maxLen) := hx
  clear h hn hx
  by_cases hb : 400 < n
  · have HR : Hid (okPr l = false) := by show _ = _; unfold okPr; rw [decide_eq_false (by have := HN.out; omega), Bool.false_and]
    have d1 : decide ((400 : Int) < n) = true := decide_eq_true (by omega)
    go_enter Tryd.func55, Tryd.ntmps55
    go_wp2
    go_ret
    exact ⟨retY HR.out.symm, rfl⟩
  · have d1 : decide ((400 : Int) < n) = false := decide_eq_false (by omega)
    have HP : Hid (okPr l = okHs l) := by show _ = _; unfold okPr; rw [decide_eq_true (by have := HN.out; omega), Bool.true_and]
    have hH : ∀ (x : ByteArray) w0, x.size = 32 → Calls Tryd.prog 56 #[.string x] w0 fun e w' => e = .returned (.bool true) ∧ w0 = w' := fun x w0 h => ownH32 x w0 h
    have hH' : ∀ (x : ByteArray) w0, ¬ x.size = 32 → x.size ≤ maxLen → Calls Tryd.prog 56 #[.string x] w0 fun e w' => e = .returned (.bool false) ∧ w0 = w' := fun x w0 h hm => ownH32' x w0 h hm
    go_enter Tryd.func55, Tryd.ntmps55
    go_wp2_with fail
    go_loop [10] (fun vi => ∃ k : Nat, vi = .int .i64 (k : Int) ∧ k ≤ n ∧ Hid (∀ x ∈ l.take k, x.size = 32)) (fun vi => n - (intOf vi).toNat)
    case atStart => exact ⟨0, rfl, Nat.zero_le _, fun x h => by simp at h⟩
    case round =>
      obtain ⟨k, rfl, hk, HT⟩ := hrel
      by_cases hlt : k < n
      · have hkl : k < l.length := by have := HN.out; omega
        obtain ⟨b, o, rfl, hc⟩ := HA.out k hkl
        have hxs := HX.out l[k] (List.getElem_mem hkl)
        have HM : Hid (l[k] ∈ l) := List.getElem_mem hkl
        have HT2 : Hid (l[k].size = 32 → ∀ x ∈ l.take (k + 1), x.size = 32) := fun hz x hx => by
          rw [List.take_succ_eq_append_getElem hkl] at hx
          rcases List.mem_append.1 hx with h1 | h1
          · exact HT.out x h1
          · rw [List.mem_singleton.1 h1]; exact hz
        generalize l[k] = x at *
        have lk : (k : Int) < n := by omega
        have l0 : (0 : Int) ≤ k := by omega
        clear hkl HT
        by_cases hz : x.size = 32
        · have HT3 : Hid (∀ x ∈ l.take (k + 1), x.size = 32) := HT2.out hz
          have hH1 : ∀ w0, Calls Tryd.prog 56 #[.string x] w0 fun e w' => e = .returned (.bool true) ∧ w0 = w' := fun w0 => hH x w0 hz
          clear HT2 hz hH hH'
          go_wp2_with (go_at_call 56; refine (hH1 _).mono ?_; rintro e w' ⟨rfl, rfl⟩)
          exact ⟨⟨k + 1, by go_num, hlt, HT3⟩, by simp [intOf]; omega⟩
        · have HR : Hid (okPr l = false) := by show _ = _; rw [HP.out]; exact okHs_no (fun e => hz (e x HM.out))
          have hH1 : ∀ w0, Calls Tryd.prog 56 #[.string x] w0 fun e w' => e = .returned (.bool false) ∧ w0 = w' := fun w0 => hH' x w0 hz hxs
          clear HT2 HM hz hH hH' hxs
          go_wp2_with (go_at_call 56; refine (hH1 _).mono ?_; rintro e w' ⟨rfl, rfl⟩)
          go_ret
          exact ⟨retY HR.out.symm, rfl⟩
      · obtain rfl : k = n := by omega
        have HR : Hid (okPr l = true) := by
          show _ = _
          rw [HP.out]
          exact okHs_yes (by
            have := HT.out
            rw [List.take_of_length_le (by have := HN.out; omega)] at this
            exact this)
        clear HT
        go_wp2
        go_ret
        exact ⟨retY HR.out.symm, rfl⟩
theorem sizeRI (n : Int) (w : World) :
    Calls Tryd.prog 57 #[.int .i64 n] w fun e w' => e = .returned (.bool (decide (1 ≤ n ∧ n ≤ 1099511627776))) ∧ w = w' := by
  by_cases h1 : 1 ≤ n
  · have d1 : decide (1 ≤ n) = true := decide_eq_true h1
    by_cases h2 : n ≤ 1099511627776
    · have d2 : decide (n ≤ 1099511627776) = true := decide_eq_true h2
      rw [decide_eq_true ⟨h1, h2⟩]
      go_enter Tryd.func57, Tryd.ntmps57
      go_wp2
      go_ret
      exact ⟨rfl, rfl⟩
    · have d2 : decide (n ≤ 1099511627776) = false := decide_eq_false h2
      rw [decide_eq_false (fun h => h2 h.2)]
      go_enter Tryd.func57, Tryd.ntmps57
      go_wp2
      go_ret
      exact ⟨rfl, rfl⟩
  · have d1 : decide (1 ≤ n) = false := decide_eq_false h1
    rw [decide_eq_false (fun h => h1 h.1)]
    go_enter Tryd.func57, Tryd.ntmps57
    go_wp2
    go_ret
    exact ⟨rfl, rfl⟩
/- What stands at the head of a round of the check: the walk's places, the proof, the table of rounds. -/
structure KpC (w : World) (a : Option Addr) (ps : List ByteArray) (f s : Nat) (w' : World) : Prop where
  below : Below w.heap.size w w'
  v : RowV w' w.heap.size (wvs f s)
  sa : SA w' a ps
  arr : ArrU w' 0 keys
  pos : 0 < w'.heap.size
  up : w.heap.size < w'.heap.size
theorem KpC.call {w w' w2 : World} {a : Option Addr} {ps : List ByteArray} {f s : Nat} (h : Hid (KpC w a ps f s w')) (hb : Below w'.heap.size w' w2) : Hid (KpC w a ps f s w2) :=
  ⟨h.out.below.trans (hb.mono h.out.below.size), h.out.v.below hb h.out.up, h.out.sa.below hb, h.out.arr.below hb h.out.pos, Nat.lt_of_lt_of_le h.out.pos hb.size, Nat.lt_of_lt_of_le h.out.up hb.size⟩
theorem SA.old {w w' w2 : World} {a : Option Addr} {l : List ByteArray} (h : SA w a l) (hb : Below w.heap.size w w') : SA w' a l := h.below hb
theorem KpC.put {w w' w2 : World} {a : Option Addr} {ps : List ByteArray} {f s f2 s2 : Nat} (h : Hid (KpC w a ps f s w')) (hA : Hid (SA w a ps)) (hk : Hid (ArrU w 0 keys)) (h0 : 0 < w.heap.size) (hv : RowV w2 w.heap.size (wvs f2 s2)) (hb : ∀ B, B ≤ w.heap.size → Below B w' w2) (hz : w2.heap.size = w'.heap.size) : Hid (KpC w a ps f2 s2 w2) := by
  have b : Below w.heap.size w w2 := h.out.below.trans (hb _ (Nat.le_refl _))
  exact ⟨b, hv, hA.out.below b, hk.out.below b h0, by rw [hz]; exact h.out.pos, by rw [hz]; exact h.out.up⟩
theorem IncAt.rightN {leaf root r p : ByteArray} {i n : Int} {ps : List ByteArray} {k f s : Nat} (h : IncAt leaf root i n ps k f s r) (hk : k < ps.length) (hp : ps[k] = p) (hs : s ≠ 0) (hr : Mer.rgt f s = true) : IncAt leaf root i n ps (k + 1) (Mer.nx f s).1 (Mer.nx f s).2 (nodeD p r) := by
  have := h.right hk hp hs hr
  rw [nx_right hr]
  exact this
theorem IncAt.leftN {leaf root r p : ByteArray} {i n : Int} {ps : List ByteArray} {k f s : Nat} (h : IncAt leaf root i n ps k f s r) (hk : k < ps.length) (hp : ps[k] = p) (hs : s ≠ 0) (hr : Mer.rgt f s = false) : IncAt leaf root i n ps (k + 1) (Mer.nx f s).1 (Mer.nx f s).2 (nodeD r p) := by
  have := h.left hk hp hs hr
  rw [nx_left hr]
  exact this
set_option maxRecDepth 100000 in
set_option maxHeartbeats 2000000 in
theorem incI0 (leaf root : ByteArray) (i n : Int) (a : Option Addr) (c m : Nat) (ps : List ByteArray) (w : World) (hm : ps.length = m) (hA : SA w a ps)
    (h : leaf.size = 32 ∧ root.size = 32 ∧ ps.length ≤ 400 ∧ okHs ps = true ∧ 1 ≤ n ∧ n ≤ 1099511627776 ∧ 0 ≤ i ∧ i < n) (hk : ArrU w 0 keys) (h0 : 0 < w.heap.size) :
    Calls Tryd.prog 20 #[.string leaf, .int .i64 i, .int .i64 n, .slice a m c, .string root] w fun e w' => e = .returned (.bool (incB leaf i n ps root)) ∧ Below w.heap.size w w' := by
  have hst : IncAt leaf root i n ps 0 i.toNat (n.toNat - 1) leaf := ⟨by rw [incB_yes h]; rfl, h.1⟩
  obtain ⟨h1, h2, h3, h4, h5, h6, h7, h8⟩ := h
  have hH1 : ∀ w0, Calls Tryd.prog 56 #[.string leaf] w0 fun e w' => e = .returned (.bool true) ∧ w0 = w' := fun w0 => ownH32 leaf w0 h1
  have hH2 : ∀ w0, Calls Tryd.prog 56 #[.string root] w0 fun e w' => e = .returned (.bool true) ∧ w0 = w' := fun w0 => ownH32 root w0 h2
  have HH3 : Hid (Calls Tryd.prog 55 #[.slice a m c] w fun e w' => e = .returned (.bool true) ∧ w = w') := by
    have := proofRI a c m ps w hm hA (by omega) (fun x hx => by rw [okHs_of h4 x hx]; decide)
    rw [show okPr ps = true by unfold okPr; rw [decide_eq_true h3, h4]; rfl] at this
    exact this
  have hH4 : ∀ w0, Calls Tryd.prog 57 #[.int .i64 n] w0 fun e w' => e = .returned (.bool true) ∧ w0 = w' := fun w0 => by
    have := sizeRI n w0
    rw [decide_eq_true ⟨h5, h6⟩] at this
    exact this
  have HP : Hid (∀ k (hk : k < ps.length), ps[k].size = 32) := fun k hk => okHs_of h4 _ (List.getElem_mem hk)
  have HA : Hid (SA w a ps) := hA
  have HM : Hid (ps.length = m) := hm
  have HK : Hid (ArrU w 0 keys) := hk
  have hmb : m ≤ 400 := by omega
  obtain ⟨f0, rfl⟩ := Int.eq_ofNat_of_zero_le h7
  obtain ⟨n0, rfl⟩ := Int.eq_ofNat_of_zero_le (show 0 ≤ n by omega)
  have HS : Hid (IncAt leaf root f0 n0 ps 0 f0 (n0 - 1) leaf) := hst
  have es : (n0 : Int) - 1 = ((n0 - 1 : Nat) : Int) := by omega
  obtain ⟨n1, hn1⟩ : ∃ n1, n0 - 1 = n1 := ⟨_, rfl⟩
  rw [hn1] at HS es
  have hn1' : n1 ≤ 1099511627776 := by omega
  obtain ⟨R, hR⟩ : ∃ R, incB leaf f0 n0 ps root = R := ⟨_, rfl⟩
  rw [hR]
  have HR : Hid (incB leaf f0 n0 ps root = R) := hR
  have hf0 : f0 ≤ 1099511627776 := by omega
  clear hst hA hm h3 h4 hR hk hn1
  have g3 : decide ((f0 : Int) < 0) = false := decide_eq_false (by omega)
  have g4 : decide (n0 ≤ f0) = false := decide_eq_false (by omega)
  have g5 : decide ((n0 : Int) ≤ (f0 : Int)) = false := decide_eq_false (by omega)
  go_enter Tryd.func20, Tryd.ntmps20
  go_wp2_with (first
    | (go_at_call 55; refine Calls.mono HH3.out ?_; rintro e w' ⟨rfl, rfl⟩)
    | (go_at_call 56; with_reducible refine (hH1 _).mono ?_; rintro e w' ⟨rfl, rfl⟩)
    | (go_at_call 56; with_reducible refine (hH2 _).mono ?_; rintro e w' ⟨rfl, rfl⟩)
    | (go_at_call 57; refine (hH4 _).mono ?_; rintro e w' ⟨rfl, rfl⟩)
    | (with_reducible refine wpList_allocV (w := w) (by with_unfolding_all rfl) 66 (by with_unfolding_all rfl) (wvs 0 0) Tryd.infoW ?_; intro w1 hA1 hB1 hS1; have z1 : w.heap.size < w1.heap.size := (by omega); clear hS1)
    | (with_reducible refine wpList_storeV (w := w1) (by with_unfolding_all rfl) 66 (.tmp 11) (.tmp 43) (by with_unfolding_all rfl) w.heap.size (wvs 0 0) (wvs f0 n1) (by with_unfolding_all rfl) (by with_unfolding_all rfl) hA1 2 Tryd.sizeW (by with_unfolding_all rfl) (by with_unfolding_all rfl) (wvs_one _ _) ?_; intro w2 hA2 hB2 hF2 hS2))
  have HC : Hid (KpC w a ps f0 n1 w2) := by
    have b : Below w.heap.size w w2 := hB1.trans (hB2 _ (Nat.le_refl _))
    exact ⟨b, hA2, HA.out.below b, HK.out.below b h0, by omega, by omega⟩
  clear hA1 hB1 z1 hA2 hB2 hF2 hS2 es HH3 hH1 hH2 hH4 g3 g4 g5
  go_loopw [12, 47] (fun vr vi wr => ∃ (k f s : Nat) (r : ByteArray), vi = .int .i64 (k : Int) ∧ vr = .string r ∧ k ≤ m ∧ f ≤ 1099511627776 ∧ s ≤ 1099511627776 ∧ Hid (IncAt leaf root f0 n0 ps k f s r) ∧ Hid (KpC w a ps f s wr)) (fun _ vi _ => m - (intOf vi).toNat)
  case atStart => exact ⟨0, f0, n1, leaf, rfl, rfl, Nat.zero_le _, hf0, hn1', HS, HC⟩
  case round =>
    clear HS HC hf0 hn1'
    obtain ⟨k, f, s, r, rfl, rfl, hk, hf, hs, HI, HC⟩ := hrel
    have hrs := HI.out.rs
    obtain ⟨p0, p1⟩ := HC.out.v.wlk
    by_cases hlt : k < m
    · have hkl : k < ps.length := by have := HM.out; omega
      obtain ⟨b, o, rfl, hc⟩ := HC.out.sa k hkl
      have hps := HP.out k hkl
      have HI2 : Hid (∀ (e1 : s ≠ 0) (e2 : Mer.rgt f s = true), IncAt leaf root f0 n0 ps (k + 1) (Mer.nx f s).1 (Mer.nx f s).2 (nodeD ps[k] r)) := fun e1 e2 => HI.out.rightN hkl rfl e1 e2
      have HI3 : Hid (∀ (e1 : s ≠ 0) (e2 : Mer.rgt f s = false), IncAt leaf root f0 n0 ps (k + 1) (Mer.nx f s).1 (Mer.nx f s).2 (nodeD r ps[k])) := fun e1 e2 => HI.out.leftN hkl rfl e1 e2
      have HI4 : Hid (s = 0 → incB leaf f0 n0 ps root = false) := fun e => by have := HI.out; rw [e] at this; exact this.stop hkl
      generalize ps[k] = p at *
      have lk : (k : Int) < m := by omega
      have l0 : (0 : Int) ≤ k := by omega
      clear hkl HI
      by_cases hs0 : s = 0
      · as_aux_lemma =>
        have HF : Hid (R = false) := by show _ = _; rw [← HR.out]; exact HI4.out hs0
        subst hs0
        clear HI2 HI3 HI4
        go_wp2
        go_ret
        exact ⟨retY HF.out.symm, HC.out.below⟩
      have d0 : ((s : Int) == 0) = false := beq_eq_false_iff_ne.2 (by omega)
      cases hr : Mer.rgt f s
      · as_aux_lemma =>
        have HI5 : Hid (IncAt leaf root f0 n0 ps (k + 1) (Mer.nx f s).1 (Mer.nx f s).2 (nodeD r p)) := HI3.out hs0 hr
        have hM : ∀ w0, Calls Tryd.prog 58 #[.agg #[.int .i64 (f : Int), .int .i64 (s : Int)]] w0 fun e w' => e = .returned (.bool false) ∧ Below w0.heap.size w0 w' := fun w0 => by
          have := metI f s w0 hf hs
          rw [show rgB f s = false from hr] at this
          exact this
        have hN : ∀ w0, Hid (KpC w (some ⟨b, o, none⟩) ps f s w0) → Calls Tryd.prog 33 #[.string r, .string p] w0 fun e w' => e = .returned (.string (nodeD r p)) ∧ Below w0.heap.size w0 w' := fun w0 h => nodeI32 r p w0 hrs hps h.out.arr h.out.pos
        have hU : ∀ w0, Calls Tryd.prog 59 #[.agg #[.int .i64 (f : Int), .int .i64 (s : Int)]] w0 fun e w' => e = .returned (.agg #[.int .i64 ((Mer.nx f s).1 : Int), .int .i64 ((Mer.nx f s).2 : Int)]) ∧ Below w0.heap.size w0 w' := fun w0 => aboveI f s w0 hf hs
        have hle := nx_le f s
        generalize (Mer.nx f s).1 = f2 at *
        generalize (Mer.nx f s).2 = s2 at *
        generalize nodeD r p = q at *
        clear HI2 HI3 HI4 hr hs0
        go_wp2_with (first
          | (go_at_call 58; refine (hM _).mono ?_; rintro e w3 ⟨rfl, hB3⟩; have HC3 := KpC.call HC hB3)
          | (go_at_call 33; refine (hN _ HC3).mono ?_; rintro e w4 ⟨rfl, hB4⟩; have HC4 := KpC.call HC3 hB4; obtain ⟨q0, q1⟩ := HC4.out.v.wlk)
          | (go_at_call 59; refine (hU _).mono ?_; rintro e w5 ⟨rfl, hB5⟩; have HC5 := KpC.call HC4 hB5)
          | (with_reducible refine wpList_storeV (w := w5) (by with_unfolding_all rfl) 66 (.tmp 11) (.tmp 63) (by with_unfolding_all rfl) w.heap.size (wvs f s) (wvs f2 s2) (by with_unfolding_all rfl) (by with_unfolding_all rfl) HC5.out.v 2 Tryd.sizeW (by with_unfolding_all rfl) (by with_unfolding_all rfl) (wvs_one _ _) ?_; intro w6 hA6 hB6 hF6 hS6; have HC6 := KpC.put HC5 HA HK h0 hA6 hB6 hS6; clear hS6))
        go_roundw
        case rel => exact ⟨k + 1, f2, s2, q, by go_num, rfl, hlt, by omega, by omega, HI5, HC6⟩
        case measure => simp [intOf]; omega
      · as_aux_lemma =>
        have HI5 : Hid (IncAt leaf root f0 n0 ps (k + 1) (Mer.nx f s).1 (Mer.nx f s).2 (nodeD p r)) := HI2.out hs0 hr
        have hM : ∀ w0, Calls Tryd.prog 58 #[.agg #[.int .i64 (f : Int), .int .i64 (s : Int)]] w0 fun e w' => e = .returned (.bool true) ∧ Below w0.heap.size w0 w' := fun w0 => by
          have := metI f s w0 hf hs
          rw [show rgB f s = true from hr] at this
          exact this
        have hN : ∀ w0, Hid (KpC w (some ⟨b, o, none⟩) ps f s w0) → Calls Tryd.prog 33 #[.string p, .string r] w0 fun e w' => e = .returned (.string (nodeD p r)) ∧ Below w0.heap.size w0 w' := fun w0 h => nodeI32 p r w0 hps hrs h.out.arr h.out.pos
        have hU : ∀ w0, Calls Tryd.prog 59 #[.agg #[.int .i64 (f : Int), .int .i64 (s : Int)]] w0 fun e w' => e = .returned (.agg #[.int .i64 ((Mer.nx f s).1 : Int), .int .i64 ((Mer.nx f s).2 : Int)]) ∧ Below w0.heap.size w0 w' := fun w0 => aboveI f s w0 hf hs
        have hle := nx_le f s
        generalize (Mer.nx f s).1 = f2 at *
        generalize (Mer.nx f s).2 = s2 at *
        generalize nodeD p r = q at *
        clear HI2 HI3 HI4 hr hs0
        go_wp2_with (first
          | (go_at_call 58; refine (hM _).mono ?_; rintro e w3 ⟨rfl, hB3⟩; have HC3 := KpC.call HC hB3)
          | (go_at_call 33; refine (hN _ HC3).mono ?_; rintro e w4 ⟨rfl, hB4⟩; have HC4 := KpC.call HC3 hB4; obtain ⟨q0, q1⟩ := HC4.out.v.wlk)
          | (go_at_call 59; refine (hU _).mono ?_; rintro e w5 ⟨rfl, hB5⟩; have HC5 := KpC.call HC4 hB5)
          | (with_reducible refine wpList_storeV (w := w5) (by with_unfolding_all rfl) 66 (.tmp 11) (.tmp 63) (by with_unfolding_all rfl) w.heap.size (wvs f s) (wvs f2 s2) (by with_unfolding_all rfl) (by with_unfolding_all rfl) HC5.out.v 2 Tryd.sizeW (by with_unfolding_all rfl) (by with_unfolding_all rfl) (wvs_one _ _) ?_; intro w6 hA6 hB6 hF6 hS6; have HC6 := KpC.put HC5 HA HK h0 hA6 hB6 hS6; clear hS6))
        go_roundw
        case rel => exact ⟨k + 1, f2, s2, q, by go_num, rfl, hlt, by omega, by omega, HI5, HC6⟩
        case measure => simp [intOf]; omega
    · obtain rfl : k = m := by omega
      have HF : Hid (R = (s == 0 && decide (r = root))) := by
        show _ = _
        have := HI.out
        rw [← HM.out] at this
        rw [← HR.out]
        exact this.done
      clear HI
      by_cases hs0 : s = 0
      · subst hs0
        by_cases hrr : r = root
        · have HF2 : Hid (R = true) := by show _ = _; rw [HF.out, decide_eq_true hrr]; rfl
          have t1 : (r.toList == root.toList) = true := by rw [hrr]; exact txt_eq _
          clear HF hrr
          go_wp2
          go_ret
          exact ⟨retY HF2.out.symm, HC.out.below⟩
        · have HF2 : Hid (R = false) := by show _ = _; rw [HF.out, decide_eq_false hrr]; rfl
          have t1 : (r.toList == root.toList) = false := txt_ne hrr
          clear HF hrr
          go_wp2
          go_ret
          exact ⟨retY HF2.out.symm, HC.out.below⟩
      · have HF2 : Hid (R = false) := by show _ = _; rw [HF.out, beq_eq_false_iff_ne.2 hs0, Bool.false_and]
        have d0 : ((s : Int) == 0) = false := beq_eq_false_iff_ne.2 (by omega)
        clear HF hs0
        go_wp2
        go_ret
        exact ⟨retY HF2.out.symm, HC.out.below⟩

set_option maxRecDepth 100000 in
set_option maxHeartbeats 1000000 in
theorem incI : IncI := by
  intro leaf root i n a c m ps w hm hc hA hl hr hM hx wi wn hk h0
  by_cases hok : leaf.size = 32 ∧ root.size = 32 ∧ ps.length ≤ 400 ∧ okHs ps = true ∧ 1 ≤ n ∧ n ≤ 1099511627776 ∧ 0 ≤ i ∧ i < n
  · exact incI0 leaf root i n a c m ps w hm hA hok hk h0
  have HR : Hid (incB leaf i n ps root = false) := incB_no hok
  have HH3 : Hid (Calls Tryd.prog 55 #[.slice a m c] w fun e w' => e = .returned (.bool (okPr ps)) ∧ w = w') := proofRI a c m ps w hm hA (by omega) hx
  have hH1 : ∀ w0, Calls Tryd.prog 56 #[.string leaf] w0 fun e w' => e = .returned (.bool (decide (leaf.size = 32))) ∧ w0 = w' := fun w0 => ownH32B leaf w0 hl
  have hH2 : ∀ w0, Calls Tryd.prog 56 #[.string root] w0 fun e w' => e = .returned (.bool (decide (root.size = 32))) ∧ w0 = w' := fun w0 => ownH32B root w0 hr
  have hH4 : ∀ w0, Calls Tryd.prog 57 #[.int .i64 n] w0 fun e w' => e = .returned (.bool (decide (1 ≤ n ∧ n ≤ 1099511627776))) ∧ w0 = w' := fun w0 => sizeRI n w0
  have HO : Hid (okPr ps = true → leaf.size = 32 → root.size = 32 → (1 ≤ n ∧ n ≤ 1099511627776) → 0 ≤ i → i < n → False) := fun e1 e2 e3 e4 e5 e6 => by
    unfold okPr at e1
    rw [Bool.and_eq_true, decide_eq_true_eq] at e1
    exact hok ⟨e2, e3, e1.1, e1.2, e4.1, e4.2, e5, e6⟩
  clear hok hA hx hk
  cases q0 : okPr ps with
  | false =>
    rw [q0] at HH3
    clear q0
    clear HO
    go_enter Tryd.func20, Tryd.ntmps20
    go_wp2_with (first
      | (go_at_call 55; refine Calls.mono HH3.out ?_; rintro e w' ⟨rfl, rfl⟩)
      | (go_at_call 56; with_reducible refine (hH1 _).mono ?_; rintro e w' ⟨rfl, rfl⟩)
      | (go_at_call 56; with_reducible refine (hH2 _).mono ?_; rintro e w' ⟨rfl, rfl⟩)
      | (go_at_call 57; refine (hH4 _).mono ?_; rintro e w' ⟨rfl, rfl⟩))
    go_ret
    exact ⟨retY HR.out.symm, Below.refl _ _⟩
  | true =>
  rw [q0] at HH3
  by_cases q1 : leaf.size = 32
  case neg =>
    rw [decide_eq_false q1] at hH1
    clear HO
    go_enter Tryd.func20, Tryd.ntmps20
    go_wp2_with (first
      | (go_at_call 55; refine Calls.mono HH3.out ?_; rintro e w' ⟨rfl, rfl⟩)
      | (go_at_call 56; with_reducible refine (hH1 _).mono ?_; rintro e w' ⟨rfl, rfl⟩)
      | (go_at_call 56; with_reducible refine (hH2 _).mono ?_; rintro e w' ⟨rfl, rfl⟩)
      | (go_at_call 57; refine (hH4 _).mono ?_; rintro e w' ⟨rfl, rfl⟩))
    go_ret
    exact ⟨retY HR.out.symm, Below.refl _ _⟩
  rw [decide_eq_true q1] at hH1
  by_cases q2 : root.size = 32
  case neg =>
    rw [decide_eq_false q2] at hH2
    clear HO
    go_enter Tryd.func20, Tryd.ntmps20
    go_wp2_with (first
      | (go_at_call 55; refine Calls.mono HH3.out ?_; rintro e w' ⟨rfl, rfl⟩)
      | (go_at_call 56; with_reducible refine (hH1 _).mono ?_; rintro e w' ⟨rfl, rfl⟩)
      | (go_at_call 56; with_reducible refine (hH2 _).mono ?_; rintro e w' ⟨rfl, rfl⟩)
      | (go_at_call 57; refine (hH4 _).mono ?_; rintro e w' ⟨rfl, rfl⟩))
    go_ret
    exact ⟨retY HR.out.symm, Below.refl _ _⟩
  rw [decide_eq_true q2] at hH2
  by_cases q3 : 1 ≤ n ∧ n ≤ 1099511627776
  case neg =>
    rw [decide_eq_false q3] at hH4
    clear HO
    go_enter Tryd.func20, Tryd.ntmps20
    go_wp2_with (first
      | (go_at_call 55; refine Calls.mono HH3.out ?_; rintro e w' ⟨rfl, rfl⟩)
      | (go_at_call 56; with_reducible refine (hH1 _).mono ?_; rintro e w' ⟨rfl, rfl⟩)
      | (go_at_call 56; with_reducible refine (hH2 _).mono ?_; rintro e w' ⟨rfl, rfl⟩)
      | (go_at_call 57; refine (hH4 _).mono ?_; rintro e w' ⟨rfl, rfl⟩))
    go_ret
    exact ⟨retY HR.out.symm, Below.refl _ _⟩
  rw [decide_eq_true q3] at hH4
  by_cases c2 : i < 0
  · have e2 : decide (i < 0) = true := decide_eq_true c2
    clear HO
    go_enter Tryd.func20, Tryd.ntmps20
    go_wp2_with (first
      | (go_at_call 55; refine Calls.mono HH3.out ?_; rintro e w' ⟨rfl, rfl⟩)
      | (go_at_call 56; with_reducible refine (hH1 _).mono ?_; rintro e w' ⟨rfl, rfl⟩)
      | (go_at_call 56; with_reducible refine (hH2 _).mono ?_; rintro e w' ⟨rfl, rfl⟩)
      | (go_at_call 57; refine (hH4 _).mono ?_; rintro e w' ⟨rfl, rfl⟩))
    go_ret
    exact ⟨retY HR.out.symm, Below.refl _ _⟩
  have e2 : decide (i < 0) = false := decide_eq_false c2
  by_cases c3 : n ≤ i
  · have e3 : decide (n ≤ i) = true := decide_eq_true c3
    clear HO
    go_enter Tryd.func20, Tryd.ntmps20
    go_wp2_with (first
      | (go_at_call 55; refine Calls.mono HH3.out ?_; rintro e w' ⟨rfl, rfl⟩)
      | (go_at_call 56; with_reducible refine (hH1 _).mono ?_; rintro e w' ⟨rfl, rfl⟩)
      | (go_at_call 56; with_reducible refine (hH2 _).mono ?_; rintro e w' ⟨rfl, rfl⟩)
      | (go_at_call 57; refine (hH4 _).mono ?_; rintro e w' ⟨rfl, rfl⟩))
    go_ret
    exact ⟨retY HR.out.symm, Below.refl _ _⟩
  exact absurd (HO.out q0 q1 q2 q3 (by omega) (by omega)) id
end Go.Proofs.YtoaoaagfnkpkdaaDoor
namespace Go.Proofs.YtoaoaagfnkpkdaaDoor
open Go.RowKit
set_option linter.unusedVariables false

theorem Tryd.slice1 (b o n c : Nat) (h : 1 ≤ n) (hc : n ≤ c) : ∃ a', (∀ w, (Instr.slice 23 (.slice (some ⟨b, o, none⟩) n c) (some (.int .i64 1)) none none).run Tryd.prog w = .ok (.slice a' (n - 1) (c - 1)) w) ∧ (c ≠ 1 → a' = some ⟨b, o + 1, none⟩) := by
  by_cases h1 : c = 1
  · subst h1
    obtain rfl : n = 1 := by omega
    refine ⟨some ⟨b, o, none⟩, fun w => ?_, fun e => absurd rfl e⟩
    simp [Instr.slice, run_underlying Tryd.underlying23, Instr.sliceBounds, run_sliceBound]
  · exact ⟨_, fun w => Tryd.sliceHi b o n c 1 h (by omega) w, fun _ => rfl⟩
theorem powI (f0 : Nat) (w : World) (h1 : 1 ≤ f0) (h2 : f0 ≤ 1099511627776) :
    Calls Tryd.prog 60 #[.int .i64 (f0 : Int)] w fun e w' => e = .returned (.bool (pwB f0)) ∧ w = w' := by
  have ef : (f0 : Int) - 1 = ((f0 - 1 : Nat) : Int) := by omega
  have e9 : (bits .and .i64 (f0 : Int) ((f0 - 1 : Nat) : Int) == 0) = pwB f0 := by rw [← ef]; rfl
  generalize pwB (f0 : Int) = B at *
  go_enter Tryd.func60, Tryd.ntmps60
  go_wp2
  go_ret
  exact ⟨rfl, rfl⟩
/- What holds at the head of a round, by places above. -/
theorem ConAt.rightN {R : Bool} {old root a b p : ByteArray} {L : List ByteArray} {k f s : Nat} (h : ConAt R old root L k f s a b) (hk : k < L.length) (hp : L[k] = p) (hs : s ≠ 0) (hr : Mer.rgt f s = true) : ConAt R old root L (k + 1) (Mer.nx f s).1 (Mer.nx f s).2 (nodeD p a) (nodeD p b) := by
  have := h.right hk hp hs hr
  rw [nx_right hr]
  exact this
theorem ConAt.leftN {R : Bool} {old root a b p : ByteArray} {L : List ByteArray} {k f s : Nat} (h : ConAt R old root L k f s a b) (hk : k < L.length) (hp : L[k] = p) (hs : s ≠ 0) (hr : Mer.rgt f s = false) : ConAt R old root L (k + 1) (Mer.nx f s).1 (Mer.nx f s).2 a (nodeD b p) := by
  have := h.left hk hp hs hr
  rw [nx_left hr]
  exact this
theorem KpC.drewN {w w' : World} {a : Option Addr} {ps : List ByteArray} {f s : Nat} (h : Hid (KpC w a ps f s w')) (n : Nat) : Hid (KpC w a ps f s (w'.drewN n)) :=
  ⟨belowN h.out.below n, h.out.v.drewN n, h.out.sa.drewN n, h.out.arr.drewN n, h.out.pos, h.out.up⟩
set_option maxRecDepth 100000 in
set_option maxHeartbeats 4000000 in
theorem leadI (old root x0 : ByteArray) (M : List ByteArray) (f0 s0 F S : Nat) (a : Option Addr) (c m : Nat) (w : World) (hm : M.length = m) (hc : m + 1 ≤ c) (hA : SA w a (x0 :: M)) (h32 : ∀ x ∈ x0 :: M, x.size = 32) (hmb : m ≤ 1000) (hf0 : f0 ≤ 1099511627776) (hs0 : s0 ≤ 1099511627776) (hFS : Mer.strip f0 s0 = (F, S)) (hk : ArrU w 0 keys) (h0 : 0 < w.heap.size) :
    Calls Tryd.prog 61 #[.agg #[.int .i64 (f0 : Int), .int .i64 (s0 : Int)], .slice a (m + 1) c, .string old, .string root] w fun e w' => e = .returned (.bool (chkC old root M F S x0 x0)) ∧ Below w.heap.size w w' := by
  obtain ⟨b, o, rfl⟩ := hA.base (by simp)
  obtain ⟨a', hsl, ha'⟩ := Tryd.slice1 b o (m + 1) c (by omega) hc
  rw [Nat.add_sub_cancel] at hsl
  have HSM : Hid (∀ w0, SA w0 (some ⟨b, o, none⟩) (x0 :: M) → SA w0 a' M) := fun w0 h k hk => by
    have hc1 : c ≠ 1 := by omega
    rw [ha' hc1]
    exact (h.drop 1) k hk
  obtain ⟨a, ha⟩ : ∃ a : Option Addr, a = some ⟨b, o, none⟩ := ⟨_, rfl⟩
  have HA : Hid (SA w a (x0 :: M)) := by rw [ha]; exact hA
  have HX : Hid (∀ w0, SA w0 a (x0 :: M) → w0.cell? ⟨b, o, none⟩ = some (.string x0)) := fun w0 h => by
    obtain ⟨b', o', e, hcell⟩ := h 0 (by simp)
    rw [ha] at e
    injection e with e
    injection e with e1 e2
    subst e1 e2
    exact hcell
  rw [← ha] at HSM
  have HP : Hid (∀ k (hk : k < M.length), M[k].size = 32) := fun k hk => h32 _ (List.mem_cons_of_mem _ (List.getElem_mem hk))
  have hx32 : x0.size = 32 := h32 x0 (by simp)
  have HM : Hid (M.length = m) := hm
  have HK : Hid (ArrU w 0 keys) := hk
  have HFS : Hid (Mer.strip f0 s0 = (F, S)) := hFS
  obtain ⟨R, hR⟩ : ∃ R, chkC old root M F S x0 x0 = R := ⟨_, rfl⟩
  have HST : Hid (ConAt R old root M 0 F S x0 x0) := ⟨hR.symm, hx32, hx32⟩
  rw [hR]
  clear hR hA h32 hm hk hFS ha' ha hx32
  go_enter Tryd.func61, Tryd.ntmps61
  go_wp2_with (first
    | (with_reducible refine wpList_boxV (w := w) (by with_unfolding_all rfl) 66 (.tmp 0) (by with_unfolding_all rfl) (wvs f0 s0) (by with_unfolding_all rfl) ?_; intro w1 hA1 hB1 hS1; have z1 : w.heap.size < w1.heap.size := (by omega); clear hS1))
  have HC : Hid (KpC w a (x0 :: M) f0 s0 w1) := ⟨hB1, hA1, HA.out.below hB1, HK.out.below hB1 h0, by omega, z1⟩
  clear hA1 hB1 z1
  go_loopw [] (fun wr => ∃ (f' s' : Nat), f' ≤ 1099511627776 ∧ s' ≤ 1099511627776 ∧ Hid (Mer.strip f' s' = (F, S)) ∧ Hid (KpC w a (x0 :: M) f' s' wr)) (fun wr => wm wr w.heap.size)
  case atStart => exact ⟨f0, s0, hf0, hs0, HFS, HC⟩
  case round =>
    clear HFS HC
    obtain ⟨f', s', hf', hs', HD', HC'⟩ := hrel
    have HMs : Hid (wm wr w.heap.size = f') := wm_eq HC'.out.v
    obtain ⟨p0, p1⟩ := HC'.out.v.wlk
    by_cases e1 : f' % 2 = 1
    · as_aux_lemma =>
      have t1 : ((f' : Int) % 2 == 1) = true := beq_iff_eq.2 (by omega)
      have HE : Hid (Mer.strip (f' / 2) (s' / 2) = (F, S)) := by have := HD'.out; rw [strip_go e1] at this; exact this
      have HPs : Hid (0 < f') := by show 0 < f'; omega
      have hH1 : ∀ w0, Calls Tryd.prog 89 #[.agg #[.int .i64 (f' : Int), .int .i64 (s' : Int)]] w0 fun e w' => e = .returned (.agg #[.int .i64 ((f' / 2 : Nat) : Int), .int .i64 ((s' / 2 : Nat) : Int)]) ∧ Below w0.heap.size w0 w' := fun w0 => halvedI f' s' w0 hf' hs'
      clear HD' e1
      go_wp2_with (first
        | (go_at_call 89; refine (hH1 _).mono ?_; rintro e w3 ⟨rfl, hB3⟩; have HC3 := KpC.call HC' hB3)
        | (with_reducible refine wpList_storeV (w := w3) (by with_unfolding_all rfl) 66 (.tmp 4) (.tmp 18) (by with_unfolding_all rfl) w.heap.size (wvs f' s') (wvs (f' / 2) (s' / 2)) (by with_unfolding_all rfl) (by with_unfolding_all rfl) HC3.out.v 2 Tryd.sizeW (by with_unfolding_all rfl) (by with_unfolding_all rfl) (wvs_one _ _) ?_; intro w4 hA4 hB4 hF4 hS4; have HC4 := KpC.put HC3 HA HK h0 hA4 hB4 hS4; clear hS4))
      simp only [Act.put]
      go_roundw
      case rel => exact ⟨f' / 2, s' / 2, by omega, by omega, HE, HC4⟩
      case measure =>
        rw [HMs.out, wm_eq HC4.out.v]
        have := HPs.out
        omega
    have t1 : ((f' : Int) % 2 == 1) = false := beq_eq_false_iff_ne.2 (by omega)
    have HE : Hid (f' = F ∧ s' = S) := by have := HD'.out; rw [strip_stop e1] at this; injection this with a1 a2; exact ⟨a1, a2⟩
    obtain ⟨rfl, rfl⟩ := HE.out
    have hcx := HX.out wr HC'.out.sa
    have lN : (0 : Int) < ((m + 1 : Nat) : Int) := by omega
    have lN2 : (0 : Int) < (m : Int) + 1 := by omega
    clear HD' HE e1 HMs hf0 hs0
    go_wp2_with fail
    go_quiet (fail)
    go_wp2_with fail
    go_loopw [9, 10, 28] (fun va vb vi wr => ∃ (k f s : Nat) (x y : ByteArray), vi = .int .i64 (k : Int) ∧ va = .string x ∧ vb = .string y ∧ k ≤ m ∧ f ≤ 1099511627776 ∧ s ≤ 1099511627776 ∧ Hid (ConAt R old root M k f s x y) ∧ Hid (KpC w a (x0 :: M) f s wr)) (fun _ _ vi _ => m - (intOf vi).toNat)
    case atStart => exact ⟨0, f', s', x0, x0, rfl, rfl, rfl, Nat.zero_le _, hf', hs', HST, KpC.drewN HC' _⟩
    case round =>
      clear HST HC' hcx hf' hs' t1 p0 p1
      obtain ⟨k, f, s, x, y, rfl, rfl, rfl, hk, hf, hs, HI, HC⟩ := hrel
      have hxs := HI.out.sa32
      have hys := HI.out.sb32
      obtain ⟨p0, p1⟩ := HC.out.v.wlk
      by_cases hlt : k < m
      · have hkl : k < M.length := by have := HM.out; omega
        obtain ⟨b2, o2, rfl, hcl⟩ := HSM.out wr HC.out.sa k hkl
        have hps := HP.out k hkl
        have HI2 : Hid (∀ (e1 : s ≠ 0) (e2 : Mer.rgt f s = true), ConAt R old root M (k + 1) (Mer.nx f s).1 (Mer.nx f s).2 (nodeD M[k] x) (nodeD M[k] y)) := fun e1 e2 => HI.out.rightN hkl rfl e1 e2
        have HI3 : Hid (∀ (e1 : s ≠ 0) (e2 : Mer.rgt f s = false), ConAt R old root M (k + 1) (Mer.nx f s).1 (Mer.nx f s).2 x (nodeD y M[k])) := fun e1 e2 => HI.out.leftN hkl rfl e1 e2
        have HI4 : Hid (s = 0 → R = false) := fun e => by have := HI.out; rw [e] at this; exact this.stop hkl
        generalize M[k] = p at *
        have lk : (k : Int) < m := by omega
        have l0 : (0 : Int) ≤ k := by omega
        clear hkl HI
        by_cases hs0 : s = 0
        · as_aux_lemma =>
          have HF : Hid (R = false) := HI4.out hs0
          subst hs0
          clear HI2 HI3 HI4
          go_wp2
          go_ret
          exact ⟨retY HF.out.symm, HC.out.below⟩
        have d0 : ((s : Int) == 0) = false := beq_eq_false_iff_ne.2 (by omega)
        cases hr : Mer.rgt f s
        · as_aux_lemma =>
          have HI5 : Hid (ConAt R old root M (k + 1) (Mer.nx f s).1 (Mer.nx f s).2 (x) (nodeD y p)) := HI3.out hs0 hr
          have hM : ∀ w0, Calls Tryd.prog 58 #[.agg #[.int .i64 (f : Int), .int .i64 (s : Int)]] w0 fun e w' => e = .returned (.bool false) ∧ Below w0.heap.size w0 w' := fun w0 => by
            have := metI f s w0 hf hs
            rw [show rgB f s = false from hr] at this
            exact this
          have hN1 : ∀ w0, Hid (KpC w a (x0 :: M) f s w0) → Calls Tryd.prog 33 #[.string y, .string p] w0 fun e w' => e = .returned (.string (nodeD y p)) ∧ Below w0.heap.size w0 w' := fun w0 h => nodeI32 y p w0 hys hps h.out.arr h.out.pos
          have hU : ∀ w0, Calls Tryd.prog 59 #[.agg #[.int .i64 (f : Int), .int .i64 (s : Int)]] w0 fun e w' => e = .returned (.agg #[.int .i64 ((Mer.nx f s).1 : Int), .int .i64 ((Mer.nx f s).2 : Int)]) ∧ Below w0.heap.size w0 w' := fun w0 => aboveI f s w0 hf hs
          have hle := nx_le f s
          generalize (Mer.nx f s).1 = f2 at *
          generalize (Mer.nx f s).2 = s2 at *
          generalize nodeD y p = v at *
          clear HI2 HI3 HI4 hr hs0
          go_wp2_with (first
            | (go_at_call 58; refine (hM _).mono ?_; rintro e w3 ⟨rfl, hB3⟩; have HC3 := KpC.call HC hB3)
            | (go_at_call 33; refine (hN1 _ HC3).mono ?_; rintro e w7 ⟨rfl, hB7⟩; have HC7 := KpC.call HC3 hB7; obtain ⟨q0, q1⟩ := HC7.out.v.wlk)
            | (go_at_call 59; refine (hU _).mono ?_; rintro e w5 ⟨rfl, hB5⟩; have HC5 := KpC.call HC7 hB5)
            | (with_reducible refine wpList_storeV (w := w5) (by with_unfolding_all rfl) 66 (.tmp 4) (.tmp 47) (by with_unfolding_all rfl) w.heap.size (wvs f s) (wvs f2 s2) (by with_unfolding_all rfl) (by with_unfolding_all rfl) HC5.out.v 2 Tryd.sizeW (by with_unfolding_all rfl) (by with_unfolding_all rfl) (wvs_one _ _) ?_; intro w6 hA6 hB6 hF6 hS6; have HC6 := KpC.put HC5 HA HK h0 hA6 hB6 hS6; clear hS6))
          go_roundw
          case rel => exact ⟨k + 1, f2, s2, x, v, by go_num, rfl, rfl, hlt, by omega, by omega, HI5, HC6⟩
          case measure => simp [intOf]; omega
        · as_aux_lemma =>
          have HI5 : Hid (ConAt R old root M (k + 1) (Mer.nx f s).1 (Mer.nx f s).2 (nodeD p x) (nodeD p y)) := HI2.out hs0 hr
          have hM : ∀ w0, Calls Tryd.prog 58 #[.agg #[.int .i64 (f : Int), .int .i64 (s : Int)]] w0 fun e w' => e = .returned (.bool true) ∧ Below w0.heap.size w0 w' := fun w0 => by
            have := metI f s w0 hf hs
            rw [show rgB f s = true from hr] at this
            exact this
          have hN1 : ∀ w0, Hid (KpC w a (x0 :: M) f s w0) → Calls Tryd.prog 33 #[.string p, .string x] w0 fun e w' => e = .returned (.string (nodeD p x)) ∧ Below w0.heap.size w0 w' := fun w0 h => nodeI32 p x w0 hps hxs h.out.arr h.out.pos
          have hN2 : ∀ w0, Hid (KpC w a (x0 :: M) f s w0) → Calls Tryd.prog 33 #[.string p, .string y] w0 fun e w' => e = .returned (.string (nodeD p y)) ∧ Below w0.heap.size w0 w' := fun w0 h => nodeI32 p y w0 hps hys h.out.arr h.out.pos
          have hU : ∀ w0, Calls Tryd.prog 59 #[.agg #[.int .i64 (f : Int), .int .i64 (s : Int)]] w0 fun e w' => e = .returned (.agg #[.int .i64 ((Mer.nx f s).1 : Int), .int .i64 ((Mer.nx f s).2 : Int)]) ∧ Below w0.heap.size w0 w' := fun w0 => aboveI f s w0 hf hs
          have hle := nx_le f s
          generalize (Mer.nx f s).1 = f2 at *
          generalize (Mer.nx f s).2 = s2 at *
          generalize nodeD p x = u at *
          generalize nodeD p y = v at *
          clear HI2 HI3 HI4 hr hs0
          go_wp2_with (first
            | (go_at_call 58; refine (hM _).mono ?_; rintro e w3 ⟨rfl, hB3⟩; have HC3 := KpC.call HC hB3)
            | (go_at_call 33; with_reducible refine (hN1 _ HC3).mono ?_; rintro e w4 ⟨rfl, hB4⟩; have HC4 := KpC.call HC3 hB4)
            | (go_at_call 33; with_reducible refine (hN2 _ HC4).mono ?_; rintro e w7 ⟨rfl, hB7⟩; have HC7 := KpC.call HC4 hB7; obtain ⟨q0, q1⟩ := HC7.out.v.wlk)
            | (go_at_call 59; refine (hU _).mono ?_; rintro e w5 ⟨rfl, hB5⟩; have HC5 := KpC.call HC7 hB5)
            | (with_reducible refine wpList_storeV (w := w5) (by with_unfolding_all rfl) 66 (.tmp 4) (.tmp 47) (by with_unfolding_all rfl) w.heap.size (wvs f s) (wvs f2 s2) (by with_unfolding_all rfl) (by with_unfolding_all rfl) HC5.out.v 2 Tryd.sizeW (by with_unfolding_all rfl) (by with_unfolding_all rfl) (wvs_one _ _) ?_; intro w6 hA6 hB6 hF6 hS6; have HC6 := KpC.put HC5 HA HK h0 hA6 hB6 hS6; clear hS6))
          go_roundw
          case rel => exact ⟨k + 1, f2, s2, u, v, by go_num, rfl, rfl, hlt, by omega, by omega, HI5, HC6⟩
          case measure => simp [intOf]; omega
      · obtain rfl : k = m := by omega
        have HF : Hid (R = (decide (x = old) && (decide (y = root) && s == 0))) := by
          show _ = _
          have := HI.out
          rw [← HM.out] at this
          exact this.done
        clear HI
        by_cases h1 : x = old
        · have t1 : (x.toList == old.toList) = true := by rw [h1]; exact txt_eq _
          by_cases h2 : y = root
          · have t2 : (y.toList == root.toList) = true := by rw [h2]; exact txt_eq _
            by_cases h3 : s = 0
            · have HF2 : Hid (R = true) := by show _ = _; rw [HF.out, decide_eq_true h1, decide_eq_true h2, h3]; rfl
              subst h3
              clear HF h1 h2
              go_wp2
              go_ret
              exact ⟨retY HF2.out.symm, HC.out.below⟩
            · have HF2 : Hid (R = false) := by show _ = _; rw [HF.out, beq_eq_false_iff_ne.2 h3, Bool.and_false, Bool.and_false]
              have t3 : ((s : Int) == 0) = false := beq_eq_false_iff_ne.2 (by omega)
              clear HF h1 h2 h3
              go_wp2
              go_ret
              exact ⟨retY HF2.out.symm, HC.out.below⟩
          · have HF2 : Hid (R = false) := by show _ = _; rw [HF.out, decide_eq_false h2, Bool.false_and, Bool.and_false]
            have t2 := txt_ne h2
            clear HF h1 h2
            go_wp2
            go_ret
            exact ⟨retY HF2.out.symm, HC.out.below⟩
        · have HF2 : Hid (R = false) := by show _ = _; rw [HF.out, decide_eq_false h1, Bool.false_and]
          have t1 := txt_ne h1
          clear HF h1
          go_wp2
          go_ret
          exact ⟨retY HF2.out.symm, HC.out.below⟩
set_option maxRecDepth 100000 in
set_option maxHeartbeats 2000000 in
theorem conI0 (old root : ByteArray) (i n : Int) (b o c m : Nat) (ps : List ByteArray) (w : World) (hm : ps.length = m) (hc : m ≤ c) (hA : SA w (some ⟨b, o, none⟩) ps) (hl : old.size ≤ maxLen) (hr : root.size ≤ maxLen) (hM : m ≤ 1048576) (hx : ∀ x ∈ ps, x.size ≤ maxLen) (hk : ArrU w 0 keys) (h0 : 0 < w.heap.size) (hok : ConOk i n ps old root) :
    Calls Tryd.prog 22 #[.int .i64 i, .int .i64 n, .slice (some ⟨b, o, none⟩) m c, .string old, .string root] w fun e w' => e = .returned (.bool (conR i n ps old root)) ∧ Below w.heap.size w w' := by
  have hH1 : ∀ w0, Calls Tryd.prog 56 #[.string old] w0 fun e w' => e = .returned (.bool (decide (old.size = 32))) ∧ w0 = w' := fun w0 => ownH32B old w0 hl
  have hH2 : ∀ w0, Calls Tryd.prog 56 #[.string root] w0 fun e w' => e = .returned (.bool (decide (root.size = 32))) ∧ w0 = w' := fun w0 => ownH32B root w0 hr
  have hH4 : ∀ w0, Calls Tryd.prog 57 #[.int .i64 n] w0 fun e w' => e = .returned (.bool (decide (1 ≤ n ∧ n ≤ 1099511627776))) ∧ w0 = w' := fun w0 => sizeRI n w0
  have HH3 : Hid (Calls Tryd.prog 55 #[.slice (some ⟨b, o, none⟩) m c] w fun e w' => e = .returned (.bool (okPr ps)) ∧ w = w') := proofRI (some ⟨b, o, none⟩) c m ps w hm hA (by omega) hx
  obtain ⟨q1, q2, h3, q3, h5, h6, h7, h8⟩ := hok
  have hop : okPr ps = true := by unfold okPr; rw [decide_eq_true h3, q3]; rfl
  rw [hop] at HH3
  rw [decide_eq_true q1] at hH1
  rw [decide_eq_true q2] at hH2
  rw [decide_eq_true ⟨h5, h6⟩] at hH4
  have HP : Hid (∀ x ∈ ps, x.size = 32) := okHs_of q3
  have hmb : m ≤ 400 := by omega
  have e0 : decide (i < 1) = false := decide_eq_false (by omega)
  have e1 : decide (n < i) = false := decide_eq_false (by omega)
  by_cases hne : i = n
  · have HR : Hid (conR i n ps old root = (decide (ps = []) && decide (old = root))) := by show _ = _; unfold conR; rw [if_pos hne]
    subst hne
    have e4 : (i == i) = true := by simp
    by_cases hm0 : m = 0
    · have hp0 : ps = [] := List.length_eq_zero_iff.1 (hm.trans hm0)
      subst hm0
      by_cases hor : old = root
      · have HF2 : Hid (conR i i ps old root = true) := by show _ = _; rw [HR.out, decide_eq_true hp0, decide_eq_true hor]; rfl
        have t1 : (old.toList == root.toList) = true := by rw [hor]; exact txt_eq _
        generalize conR i i ps old root = R at *
        clear HR hA hx hor hp0 hm hk hop q3
        go_enter Tryd.func22, Tryd.ntmps22
        go_wp2_with (first
          | (go_at_call 55; refine Calls.mono HH3.out ?_; rintro e w' ⟨rfl, rfl⟩)
          | (go_at_call 56; with_reducible refine (hH1 _).mono ?_; rintro e w' ⟨rfl, rfl⟩)
          | (go_at_call 56; with_reducible refine (hH2 _).mono ?_; rintro e w' ⟨rfl, rfl⟩)
          | (go_at_call 57; refine (hH4 _).mono ?_; rintro e w' ⟨rfl, rfl⟩))
        go_ret
        exact ⟨retY HF2.out.symm, Below.refl _ _⟩
      · have HF2 : Hid (conR i i ps old root = false) := by show _ = _; rw [HR.out, decide_eq_false hor, Bool.and_false]
        have t1 := txt_ne hor
        generalize conR i i ps old root = R at *
        clear HR hA hx hor hp0 hm hk hop q3
        go_enter Tryd.func22, Tryd.ntmps22
        go_wp2_with (first
          | (go_at_call 55; refine Calls.mono HH3.out ?_; rintro e w' ⟨rfl, rfl⟩)
          | (go_at_call 56; with_reducible refine (hH1 _).mono ?_; rintro e w' ⟨rfl, rfl⟩)
          | (go_at_call 56; with_reducible refine (hH2 _).mono ?_; rintro e w' ⟨rfl, rfl⟩)
          | (go_at_call 57; refine (hH4 _).mono ?_; rintro e w' ⟨rfl, rfl⟩))
        go_ret
        exact ⟨retY HF2.out.symm, Below.refl _ _⟩
    · have HF2 : Hid (conR i i ps old root = false) := by show _ = _; rw [HR.out, decide_eq_false (fun e => hm0 (by rw [← hm, e]; rfl))]; rfl
      have t0 : ((m : Int) == 0) = false := beq_eq_false_iff_ne.2 (by omega)
      generalize conR i i ps old root = R at *
      clear HR hA hx hm hk hop q3
      go_enter Tryd.func22, Tryd.ntmps22
      go_wp2_with (first
        | (go_at_call 55; refine Calls.mono HH3.out ?_; rintro e w' ⟨rfl, rfl⟩)
        | (go_at_call 56; with_reducible refine (hH1 _).mono ?_; rintro e w' ⟨rfl, rfl⟩)
        | (go_at_call 56; with_reducible refine (hH2 _).mono ?_; rintro e w' ⟨rfl, rfl⟩)
        | (go_at_call 57; refine (hH4 _).mono ?_; rintro e w' ⟨rfl, rfl⟩))
      go_ret
      exact ⟨retY HF2.out.symm, Below.refl _ _⟩
  have e4 : (i == n) = false := beq_eq_false_iff_ne.2 hne
  obtain ⟨f0, rfl⟩ := Int.eq_ofNat_of_zero_le (show 0 ≤ i by omega)
  obtain ⟨n0, rfl⟩ := Int.eq_ofNat_of_zero_le (show 0 ≤ n by omega)
  have u4 : decide (n0 < f0) = false := decide_eq_false (by omega)
  have u8 : (f0 == n0) = false := beq_eq_false_iff_ne.2 (by omega)
  have es : (n0 : Int) - 1 = ((n0 - 1 : Nat) : Int) := by omega
  have ef : (f0 : Int) - 1 = ((f0 - 1 : Nat) : Int) := by omega
  obtain ⟨F0, S0, hFS⟩ : ∃ F S, Mer.strip (f0 - 1) (n0 - 1) = (F, S) := ⟨_, _, rfl⟩
  have HRL0 : Hid (∀ (x0 : ByteArray) (M : List ByteArray), conLs f0 ps old = x0 :: M → conR f0 n0 ps old root = chkC old root M F0 S0 x0 x0) := fun x0 M hL => conR_rest hne hL (by simp) F0 S0 hFS
  have HRN : Hid (conLs f0 ps old = [] → conR f0 n0 ps old root = false) := fun hL => conR_none hne hL
  have hpb : ∀ w0, Calls Tryd.prog 60 #[.int .i64 (f0 : Int)] w0 fun e w' => e = .returned (.bool (pwB f0)) ∧ w0 = w' := fun w0 => powI f0 w0 (by omega) (by omega)
  have HL : Hid (∀ (x0 : ByteArray) (M : List ByteArray) (a2 : Option Addr) (c2 : Nat) w0, conLs f0 ps old = x0 :: M → (∀ x ∈ x0 :: M, x.size = 32) → M.length ≤ 400 → M.length + 1 ≤ c2 → SA w0 a2 (x0 :: M) → ArrU w0 0 keys → 0 < w0.heap.size →
      Calls Tryd.prog 61 #[.agg #[.int .i64 ((f0 - 1 : Nat) : Int), .int .i64 ((n0 - 1 : Nat) : Int)], .slice a2 (M.length + 1) c2, .string old, .string root] w0 fun e w' => e = .returned (.bool (conR f0 n0 ps old root)) ∧ Below w0.heap.size w0 w') := fun x0 M a2 c2 w0 hL h32 hm4 hc2 hS k1 k2 => by
    have := leadI old root x0 M (f0 - 1) (n0 - 1) F0 S0 a2 c2 M.length w0 rfl hc2 hS h32 (by omega) (by omega) (by omega) hFS k1 k2
    rw [← HRL0.out x0 M hL] at this
    exact this
  obtain ⟨R, hR⟩ : ∃ R, conR f0 n0 ps old root = R := ⟨_, rfl⟩
  rw [hR] at HRN HL ⊢
  have HK : Hid (ArrU w 0 keys) := hk
  have HA : Hid (SA w (some ⟨b, o, none⟩) ps) := hA
  have HM : Hid (ps.length = m) := hm
  obtain ⟨f1, hf1⟩ : ∃ f1, f0 - 1 = f1 := ⟨_, rfl⟩
  obtain ⟨n1, hn1⟩ : ∃ n1, n0 - 1 = n1 := ⟨_, rfl⟩
  rw [hf1] at ef HL
  rw [hn1] at es HL
  clear hR hFS HRL0 hx hk hA hm hop q3 hf1 hn1
  cases hpw : pwB f0 with
  | false =>
    rw [hpw] at hpb
    have hLs : conLs f0 ps old = ps := by unfold conLs; rw [hpw]; rfl
    clear hpw
    match ps, hLs, HM, HP, HA, HL, HRN with
    | [], hLs, HM, HP, HA, HL, HRN =>
      have HF2 : Hid (R = false) := HRN.out hLs
      obtain rfl : 0 = m := HM.out
      clear HL HRN hLs HM HP HA
      go_enter Tryd.func22, Tryd.ntmps22
      go_wp2_with (first
        | (go_at_call 55; refine Calls.mono HH3.out ?_; rintro e w' ⟨rfl, rfl⟩)
        | (go_at_call 56; with_reducible refine (hH1 _).mono ?_; rintro e w' ⟨rfl, rfl⟩)
        | (go_at_call 56; with_reducible refine (hH2 _).mono ?_; rintro e w' ⟨rfl, rfl⟩)
        | (go_at_call 57; refine (hH4 _).mono ?_; rintro e w' ⟨rfl, rfl⟩)
        | (go_at_call 60; refine (hpb _).mono ?_; rintro e w' ⟨rfl, rfl⟩))
      go_ret
      exact ⟨retY HF2.out.symm, Below.refl _ _⟩
    | x0 :: M, hLs, HM, HP, HA, HL, HRN =>
      obtain rfl : M.length + 1 = m := HM.out
      have HC : Hid (Calls Tryd.prog 61 #[.agg #[.int .i64 (f1 : Int), .int .i64 (n1 : Int)], .slice (some ⟨b, o, none⟩) (M.length + 1) c, .string old, .string root] w fun e w' => e = .returned (.bool R) ∧ Below w.heap.size w w') := HL.out x0 M (some ⟨b, o, none⟩) c w hLs HP.out (by omega) hc HA.out HK.out h0
      obtain ⟨m, hm⟩ : ∃ m, M.length + 1 = m := ⟨_, rfl⟩
      rw [hm] at HC HH3 hmb ⊢
      have lm : (0 : Int) < (m : Int) := by omega
      have lm1 : decide ((0 : Int) < (m : Int)) = true := decide_eq_true lm
      have lm2 : decide (0 < m) = true := decide_eq_true (by omega)
      clear HL HRN hLs HM HP HA hm hM
      go_enter Tryd.func22, Tryd.ntmps22
      go_wp2_with (first
        | (go_at_call 55; refine Calls.mono HH3.out ?_; rintro e w' ⟨rfl, rfl⟩)
        | (go_at_call 56; with_reducible refine (hH1 _).mono ?_; rintro e w' ⟨rfl, rfl⟩)
        | (go_at_call 56; with_reducible refine (hH2 _).mono ?_; rintro e w' ⟨rfl, rfl⟩)
        | (go_at_call 57; refine (hH4 _).mono ?_; rintro e w' ⟨rfl, rfl⟩)
        | (go_at_call 60; refine (hpb _).mono ?_; rintro e w' ⟨rfl, rfl⟩)
        | (go_at_call 61; refine Calls.mono HC.out ?_; rintro e w9 ⟨rfl, hB9⟩))
      go_ret
      exact ⟨rfl, hB9⟩
  | true =>
    rw [hpw] at hpb
    have hLs : conLs f0 ps old = old :: ps := by unfold conLs; rw [hpw]; rfl
    clear hpw
    have HC : Hid (∀ a2 c2 w0, 1 + m ≤ c2 → SA w0 a2 (old :: ps) → ArrU w0 0 keys → 0 < w0.heap.size → Calls Tryd.prog 61 #[.agg #[.int .i64 (f1 : Int), .int .i64 (n1 : Int)], .slice a2 (1 + m) c2, .string old, .string root] w0 fun e w' => e = .returned (.bool R) ∧ Below w0.heap.size w0 w') := fun a2 c2 w0 k1 k2 k3 k4 => by
      have := HL.out old ps a2 c2 w0 hLs (fun x hx => by rcases List.mem_cons.1 hx with e | e; rw [e]; exact q1; exact HP.out x e) (by have := HM.out; omega) (by have := HM.out; omega) k2 k3 k4
      rw [show ps.length + 1 = 1 + m by have := HM.out; omega] at this
      exact this
    have lm : (0 : Int) < ((1 + m : Nat) : Int) := by omega
    have lm1 : decide ((0 : Int) < ((1 + m : Nat) : Int)) = true := decide_eq_true lm
    have lm2 : decide (0 < 1 + m) = true := decide_eq_true (by omega)
    have lm3 : decide ((0 : Int) < 1 + (m : Int)) = true := decide_eq_true (by omega)
    have HB1 : Hid (Below w.heap.size w (w.alloc (.cells #[.string old] 9))) := (Below.refl _ _).alloc (Nat.le_refl _) _
    have HS1 : Hid (SA (w.alloc (.cells #[.string old] 9)) (some ⟨b, o, none⟩) ps) := HA.out.below HB1.out
    clear HL HRN hLs HP HA hM
    go_enter Tryd.func22, Tryd.ntmps22
    go_wp2_with (first
      | (go_at_call 55; refine Calls.mono HH3.out ?_; rintro e w' ⟨rfl, rfl⟩)
      | (go_at_call 56; with_reducible refine (hH1 _).mono ?_; rintro e w' ⟨rfl, rfl⟩)
      | (go_at_call 56; with_reducible refine (hH2 _).mono ?_; rintro e w' ⟨rfl, rfl⟩)
      | (go_at_call 57; refine (hH4 _).mono ?_; rintro e w' ⟨rfl, rfl⟩)
      | (go_at_call 60; refine (hpb _).mono ?_; rintro e w' ⟨rfl, rfl⟩)
      | (at_builtin; refine wpList_append_strs rfl _ _ rfl w.heap.size (.slice (some ⟨w.heap.size, 0, none⟩) 1 1) 1 m [old] ps rfl (World.ownsRow_lit w #[.string old] 1 (Nat.le_refl _) (by unfold maxLen; omega) rfl) b o c rfl HM.out HS1.out (by omega) (by simp) ?_; intro v8 w8 hO8 hB8 hv8; obtain ⟨g, c8, rfl, hl8, hg8, hc8, hm8, hsa8⟩ := own_some hO8 (hv8 (by simp)); have B8 : Below w.heap.size w w8 := HB1.out.trans hB8; have HC8 : Hid _ := HC.out (some ⟨g, 0, none⟩) c8 w8 hc8 hsa8 (HK.out.below B8 h0) (Nat.lt_of_lt_of_le h0 B8.size); clear hO8 hv8 hl8 hg8 hm8 hsa8)
      | (go_at_call 61; refine Calls.mono HC8.out ?_; rintro e w9 ⟨rfl, hB9⟩))
    go_ret
    exact ⟨rfl, B8.trans (hB9.mono B8.size)⟩
set_option maxRecDepth 100000 in
set_option maxHeartbeats 1000000 in
theorem conI : ConI := by
  intro old root i n b o c m ps w hm hc hA hl hr hM hx wi wn hk h0
  by_cases hok : ConOk i n ps old root
  · rw [conB_yes hok]
    exact conI0 old root i n b o c m ps w hm hc hA hl hr hM hx hk h0 hok
  have HR : Hid (conB i n ps old root = false) := conB_no hok
  have hH1 : ∀ w0, Calls Tryd.prog 56 #[.string old] w0 fun e w' => e = .returned (.bool (decide (old.size = 32))) ∧ w0 = w' := fun w0 => ownH32B old w0 hl
  have hH2 : ∀ w0, Calls Tryd.prog 56 #[.string root] w0 fun e w' => e = .returned (.bool (decide (root.size = 32))) ∧ w0 = w' := fun w0 => ownH32B root w0 hr
  have hH4 : ∀ w0, Calls Tryd.prog 57 #[.int .i64 n] w0 fun e w' => e = .returned (.bool (decide (1 ≤ n ∧ n ≤ 1099511627776))) ∧ w0 = w' := fun w0 => sizeRI n w0
  have HH3 : Hid (Calls Tryd.prog 55 #[.slice (some ⟨b, o, none⟩) m c] w fun e w' => e = .returned (.bool (okPr ps)) ∧ w = w') := proofRI (some ⟨b, o, none⟩) c m ps w hm hA (by omega) hx
  have HO : Hid (okPr ps = true → old.size = 32 → root.size = 32 → (1 ≤ n ∧ n ≤ 1099511627776) → 1 ≤ i → i ≤ n → False) := fun e1 e2 e3 e4 e5 e6 => by
    unfold okPr at e1
    rw [Bool.and_eq_true, decide_eq_true_eq] at e1
    exact hok ⟨e2, e3, e1.1, e1.2, e4.1, e4.2, e5, e6⟩
  generalize conB i n ps old root = R at *
  clear hok hA hx hk
  cases q0 : okPr ps with
  | false =>
    rw [q0] at HH3
    clear q0
    clear HO
    go_enter Tryd.func22, Tryd.ntmps22
    go_wp2_with (first
      | (go_at_call 55; refine Calls.mono HH3.out ?_; rintro e w' ⟨rfl, rfl⟩)
      | (go_at_call 56; with_reducible refine (hH1 _).mono ?_; rintro e w' ⟨rfl, rfl⟩)
      | (go_at_call 56; with_reducible refine (hH2 _).mono ?_; rintro e w' ⟨rfl, rfl⟩)
      | (go_at_call 57; refine (hH4 _).mono ?_; rintro e w' ⟨rfl, rfl⟩))
    go_ret
    exact ⟨retY HR.out.symm, Below.refl _ _⟩
  | true =>
  rw [q0] at HH3
  by_cases q1 : old.size = 32
  case neg =>
    rw [decide_eq_false q1] at hH1
    clear HO
    go_enter Tryd.func22, Tryd.ntmps22
    go_wp2_with (first
      | (go_at_call 55; refine Calls.mono HH3.out ?_; rintro e w' ⟨rfl, rfl⟩)
      | (go_at_call 56; with_reducible refine (hH1 _).mono ?_; rintro e w' ⟨rfl, rfl⟩)
      | (go_at_call 56; with_reducible refine (hH2 _).mono ?_; rintro e w' ⟨rfl, rfl⟩)
      | (go_at_call 57; refine (hH4 _).mono ?_; rintro e w' ⟨rfl, rfl⟩))
    go_ret
    exact ⟨retY HR.out.symm, Below.refl _ _⟩
  rw [decide_eq_true q1] at hH1
  by_cases q2 : root.size = 32
  case neg =>
    rw [decide_eq_false q2] at hH2
    clear HO
    go_enter Tryd.func22, Tryd.ntmps22
    go_wp2_with (first
      | (go_at_call 55; refine Calls.mono HH3.out ?_; rintro e w' ⟨rfl, rfl⟩)
      | (go_at_call 56; with_reducible refine (hH1 _).mono ?_; rintro e w' ⟨rfl, rfl⟩)
      | (go_at_call 56; with_reducible refine (hH2 _).mono ?_; rintro e w' ⟨rfl, rfl⟩)
      | (go_at_call 57; refine (hH4 _).mono ?_; rintro e w' ⟨rfl, rfl⟩))
    go_ret
    exact ⟨retY HR.out.symm, Below.refl _ _⟩
  rw [decide_eq_true q2] at hH2
  by_cases q3 : 1 ≤ n ∧ n ≤ 1099511627776
  case neg =>
    rw [decide_eq_false q3] at hH4
    clear HO
    go_enter Tryd.func22, Tryd.ntmps22
    go_wp2_with (first
      | (go_at_call 55; refine Calls.mono HH3.out ?_; rintro e w' ⟨rfl, rfl⟩)
      | (go_at_call 56; with_reducible refine (hH1 _).mono ?_; rintro e w' ⟨rfl, rfl⟩)
      | (go_at_call 56; with_reducible refine (hH2 _).mono ?_; rintro e w' ⟨rfl, rfl⟩)
      | (go_at_call 57; refine (hH4 _).mono ?_; rintro e w' ⟨rfl, rfl⟩))
    go_ret
    exact ⟨retY HR.out.symm, Below.refl _ _⟩
  rw [decide_eq_true q3] at hH4
  by_cases c2 : i < 1
  · have e2 : decide (i < 1) = true := decide_eq_true c2
    clear HO
    go_enter Tryd.func22, Tryd.ntmps22
    go_wp2_with (first
      | (go_at_call 55; refine Calls.mono HH3.out ?_; rintro e w' ⟨rfl, rfl⟩)
      | (go_at_call 56; with_reducible refine (hH1 _).mono ?_; rintro e w' ⟨rfl, rfl⟩)
      | (go_at_call 56; with_reducible refine (hH2 _).mono ?_; rintro e w' ⟨rfl, rfl⟩)
      | (go_at_call 57; refine (hH4 _).mono ?_; rintro e w' ⟨rfl, rfl⟩))
    go_ret
    exact ⟨retY HR.out.symm, Below.refl _ _⟩
  have e2 : decide (i < 1) = false := decide_eq_false c2
  by_cases c3 : n < i
  · have e3 : decide (n < i) = true := decide_eq_true c3
    clear HO
    go_enter Tryd.func22, Tryd.ntmps22
    go_wp2_with (first
      | (go_at_call 55; refine Calls.mono HH3.out ?_; rintro e w' ⟨rfl, rfl⟩)
      | (go_at_call 56; with_reducible refine (hH1 _).mono ?_; rintro e w' ⟨rfl, rfl⟩)
      | (go_at_call 56; with_reducible refine (hH2 _).mono ?_; rintro e w' ⟨rfl, rfl⟩)
      | (go_at_call 57; refine (hH4 _).mono ?_; rintro e w' ⟨rfl, rfl⟩))
    go_ret
    exact ⟨retY HR.out.symm, Below.refl _ _⟩
  exact absurd (HO.out q0 q1 q2 q3 (by omega) (by omega)) id
end Go.Proofs.YtoaoaagfnkpkdaaDoor
namespace Go.Proofs.YtoaoaagfnkpkdaaDoor
open Go.RowKit
set_option linter.unusedVariables false

set_option maxRecDepth 100000 in
set_option maxHeartbeats 1000000 in
theorem conIE (old root : ByteArray) (i n : Int) (a : Option Addr) (c m : Nat) (ps : List ByteArray) (w : World) (hm : ps.length = m) (hA : SA w a ps) (hl : old.size ≤ maxLen) (hr : root.size ≤ maxLen) (hM : m ≤ 1048576) (hx : ∀ x ∈ ps, x.size ≤ maxLen) (hk : ArrU w 0 keys) (h0 : 0 < w.heap.size) (hok : ConOk i n ps old root) (hne : i = n) :
    Calls Tryd.prog 22 #[.int .i64 i, .int .i64 n, .slice a m c, .string old, .string root] w fun e w' => e = .returned (.bool (conR i n ps old root)) ∧ Below w.heap.size w w' := by
  have hH1 : ∀ w0, Calls Tryd.prog 56 #[.string old] w0 fun e w' => e = .returned (.bool (decide (old.size = 32))) ∧ w0 = w' := fun w0 => ownH32B old w0 hl
  have hH2 : ∀ w0, Calls Tryd.prog 56 #[.string root] w0 fun e w' => e = .returned (.bool (decide (root.size = 32))) ∧ w0 = w' := fun w0 => ownH32B root w0 hr
  have hH4 : ∀ w0, Calls Tryd.prog 57 #[.int .i64 n] w0 fun e w' => e = .returned (.bool (decide (1 ≤ n ∧ n ≤ 1099511627776))) ∧ w0 = w' := fun w0 => sizeRI n w0
  have HH3 : Hid (Calls Tryd.prog 55 #[.slice a m c] w fun e w' => e = .returned (.bool (okPr ps)) ∧ w = w') := proofRI a c m ps w hm hA (by omega) hx
  obtain ⟨q1, q2, h3, q3, h5, h6, h7, h8⟩ := hok
  have hop : okPr ps = true := by unfold okPr; rw [decide_eq_true h3, q3]; rfl
  rw [hop] at HH3
  rw [decide_eq_true q1] at hH1
  rw [decide_eq_true q2] at hH2
  rw [decide_eq_true ⟨h5, h6⟩] at hH4
  have HP : Hid (∀ x ∈ ps, x.size = 32) := okHs_of q3
  have hmb : m ≤ 400 := by omega
  have e0 : decide (i < 1) = false := decide_eq_false (by omega)
  have e1 : decide (n < i) = false := decide_eq_false (by omega)
  have HR : Hid (conR i n ps old root = (decide (ps = []) && decide (old = root))) := by show _ = _; unfold conR; rw [if_pos hne]
  subst hne
  have e4 : (i == i) = true := by simp
  by_cases hm0 : m = 0
  · have hp0 : ps = [] := List.length_eq_zero_iff.1 (hm.trans hm0)
    subst hm0
    by_cases hor : old = root
    · have HF2 : Hid (conR i i ps old root = true) := by show _ = _; rw [HR.out, decide_eq_true hp0, decide_eq_true hor]; rfl
      have t1 : (old.toList == root.toList) = true := by rw [hor]; exact txt_eq _
      generalize conR i i ps old root = R at *
      clear HR hA hx hor hp0 hm hk hop q3
      go_enter Tryd.func22, Tryd.ntmps22
      go_wp2_with (first
        | (go_at_call 55; refine Calls.mono HH3.out ?_; rintro e w' ⟨rfl, rfl⟩)
        | (go_at_call 56; with_reducible refine (hH1 _).mono ?_; rintro e w' ⟨rfl, rfl⟩)
        | (go_at_call 56; with_reducible refine (hH2 _).mono ?_; rintro e w' ⟨rfl, rfl⟩)
        | (go_at_call 57; refine (hH4 _).mono ?_; rintro e w' ⟨rfl, rfl⟩))
      go_ret
      exact ⟨retY HF2.out.symm, Below.refl _ _⟩
    · have HF2 : Hid (conR i i ps old root = false) := by show _ = _; rw [HR.out, decide_eq_false hor, Bool.and_false]
      have t1 := txt_ne hor
      generalize conR i i ps old root = R at *
      clear HR hA hx hor hp0 hm hk hop q3
      go_enter Tryd.func22, Tryd.ntmps22
      go_wp2_with (first
        | (go_at_call 55; refine Calls.mono HH3.out ?_; rintro e w' ⟨rfl, rfl⟩)
        | (go_at_call 56; with_reducible refine (hH1 _).mono ?_; rintro e w' ⟨rfl, rfl⟩)
        | (go_at_call 56; with_reducible refine (hH2 _).mono ?_; rintro e w' ⟨rfl, rfl⟩)
        | (go_at_call 57; refine (hH4 _).mono ?_; rintro e w' ⟨rfl, rfl⟩))
      go_ret
      exact ⟨retY HF2.out.symm, Below.refl _ _⟩
  · have HF2 : Hid (conR i i ps old root = false) := by show _ = _; rw [HR.out, decide_eq_false (fun e => hm0 (by rw [← hm, e]; rfl))]; rfl
    have t0 : ((m : Int) == 0) = false := beq_eq_false_iff_ne.2 (by omega)
    generalize conR i i ps old root = R at *
    clear HR hA hx hm hk hop q3
    go_enter Tryd.func22, Tryd.ntmps22
    go_wp2_with (first
      | (go_at_call 55; refine Calls.mono HH3.out ?_; rintro e w' ⟨rfl, rfl⟩)
      | (go_at_call 56; with_reducible refine (hH1 _).mono ?_; rintro e w' ⟨rfl, rfl⟩)
      | (go_at_call 56; with_reducible refine (hH2 _).mono ?_; rintro e w' ⟨rfl, rfl⟩)
      | (go_at_call 57; refine (hH4 _).mono ?_; rintro e w' ⟨rfl, rfl⟩))
    go_ret
    exact ⟨retY HF2.out.symm, Below.refl _ _⟩
end Go.Proofs.YtoaoaagfnkpkdaaDoor
namespace Go.Proofs.YtoaoaagfnkpkdaaDoor
open Go.RowKit
set_option linter.unusedVariables false

theorem one_lit (w : World) (x : ByteArray) : SA (w.alloc (.cells #[.string x] 9)) (some ⟨w.heap.size, 0, none⟩) [x] := lit_sa w x 9
theorem own_none {W : World} {ops : Array Oper} {rest : List Oper} {o : Oper} {a : Act} {Q : Exit → Act → World → Prop} (hgd : o.guard = none) (s x : Operand) (ho : o.op = .call { callee := .builtin .append, args := #[s, x], argTypes := #[23, 23] })
    (base : Nat) (v : Value) (n : Nat) (l1 : List ByteArray) (hs : a.eval s = v) (hown : W.ownsRow base 9 1 v n (svl l1)) (hx : a.eval x = .slice none 0 0)
    (h : wpList Tryd.prog ops Q rest (a.put o.dst v) W) : wpList Tryd.prog ops Q (o :: rest) a W := by
  obtain ⟨i0, hi, hz0, hz1, hz2⟩ := info_parts Tryd.infoStr
  exact wpList_append_own_none hgd s x 23 ho base 9 i0 1 Tryd.underlying23 hi v n (svl l1) hs hown hx h
set_option maxRecDepth 100000 in
set_option maxHeartbeats 2000000 in
theorem conIN (old root : ByteArray) (i n : Int) (w : World) (hl : old.size ≤ maxLen) (hr : root.size ≤ maxLen) (hk : ArrU w 0 keys) (h0 : 0 < w.heap.size) :
    Calls Tryd.prog 22 #[.int .i64 i, .int .i64 n, .slice none 0 0, .string old, .string root] w fun e w' => e = .returned (.bool (conB i n [] old root)) ∧ Below w.heap.size w w' := by
  by_cases hok : ConOk i n [] old root
  case neg =>
    have HR : Hid (conB i n [] old root = false) := conB_no hok
    have hH1 : ∀ w0, Calls Tryd.prog 56 #[.string old] w0 fun e w' => e = .returned (.bool (decide (old.size = 32))) ∧ w0 = w' := fun w0 => ownH32B old w0 hl
    have hH2 : ∀ w0, Calls Tryd.prog 56 #[.string root] w0 fun e w' => e = .returned (.bool (decide (root.size = 32))) ∧ w0 = w' := fun w0 => ownH32B root w0 hr
    have hH4 : ∀ w0, Calls Tryd.prog 57 #[.int .i64 n] w0 fun e w' => e = .returned (.bool (decide (1 ≤ n ∧ n ≤ 1099511627776))) ∧ w0 = w' := fun w0 => sizeRI n w0
    have HH3 : Hid (Calls Tryd.prog 55 #[.slice none 0 0] w fun e w' => e = .returned (.bool true) ∧ w = w') := proofRI none 0 0 [] w rfl (SA.nil _ _) (by omega) (fun x hx => by simp at hx)
    have HO : Hid (old.size = 32 → root.size = 32 → (1 ≤ n ∧ n ≤ 1099511627776) → 1 ≤ i → i ≤ n → False) := fun e2 e3 e4 e5 e6 => hok ⟨e2, e3, Nat.zero_le _, rfl, e4.1, e4.2, e5, e6⟩
    generalize conB i n [] old root = R at *
    clear hok hk
    by_cases q1 : old.size = 32
    case neg =>
      rw [decide_eq_false q1] at hH1
      clear HO
      go_enter Tryd.func22, Tryd.ntmps22
      go_wp2_with (first
        | (go_at_call 55; refine Calls.mono HH3.out ?_; rintro e w' ⟨rfl, rfl⟩)
        | (go_at_call 56; with_reducible refine (hH1 _).mono ?_; rintro e w' ⟨rfl, rfl⟩)
        | (go_at_call 56; with_reducible refine (hH2 _).mono ?_; rintro e w' ⟨rfl, rfl⟩)
        | (go_at_call 57; refine (hH4 _).mono ?_; rintro e w' ⟨rfl, rfl⟩))
      go_ret
      exact ⟨retY HR.out.symm, Below.refl _ _⟩
    rw [decide_eq_true q1] at hH1
    by_cases q2 : root.size = 32
    case neg =>
      rw [decide_eq_false q2] at hH2
      clear HO
      go_enter Tryd.func22, Tryd.ntmps22
      go_wp2_with (first
        | (go_at_call 55; refine Calls.mono HH3.out ?_; rintro e w' ⟨rfl, rfl⟩)
        | (go_at_call 56; with_reducible refine (hH1 _).mono ?_; rintro e w' ⟨rfl, rfl⟩)
        | (go_at_call 56; with_reducible refine (hH2 _).mono ?_; rintro e w' ⟨rfl, rfl⟩)
        | (go_at_call 57; refine (hH4 _).mono ?_; rintro e w' ⟨rfl, rfl⟩))
      go_ret
      exact ⟨retY HR.out.symm, Below.refl _ _⟩
    rw [decide_eq_true q2] at hH2
    by_cases q3 : 1 ≤ n ∧ n ≤ 1099511627776
    case neg =>
      rw [decide_eq_false q3] at hH4
      clear HO
      go_enter Tryd.func22, Tryd.ntmps22
      go_wp2_with (first
        | (go_at_call 55; refine Calls.mono HH3.out ?_; rintro e w' ⟨rfl, rfl⟩)
        | (go_at_call 56; with_reducible refine (hH1 _).mono ?_; rintro e w' ⟨rfl, rfl⟩)
        | (go_at_call 56; with_reducible refine (hH2 _).mono ?_; rintro e w' ⟨rfl, rfl⟩)
        | (go_at_call 57; refine (hH4 _).mono ?_; rintro e w' ⟨rfl, rfl⟩))
      go_ret
      exact ⟨retY HR.out.symm, Below.refl _ _⟩
    rw [decide_eq_true q3] at hH4
    by_cases c2 : i < 1
    · have e2 : decide (i < 1) = true := decide_eq_true c2
      clear HO
      go_enter Tryd.func22, Tryd.ntmps22
      go_wp2_with (first
        | (go_at_call 55; refine Calls.mono HH3.out ?_; rintro e w' ⟨rfl, rfl⟩)
        | (go_at_call 56; with_reducible refine (hH1 _).mono ?_; rintro e w' ⟨rfl, rfl⟩)
        | (go_at_call 56; with_reducible refine (hH2 _).mono ?_; rintro e w' ⟨rfl, rfl⟩)
        | (go_at_call 57; refine (hH4 _).mono ?_; rintro e w' ⟨rfl, rfl⟩))
      go_ret
      exact ⟨retY HR.out.symm, Below.refl _ _⟩
    have e2 : decide (i < 1) = false := decide_eq_false c2
    by_cases c3 : n < i
    · have e3 : decide (n < i) = true := decide_eq_true c3
      clear HO
      go_enter Tryd.func22, Tryd.ntmps22
      go_wp2_with (first
        | (go_at_call 55; refine Calls.mono HH3.out ?_; rintro e w' ⟨rfl, rfl⟩)
        | (go_at_call 56; with_reducible refine (hH1 _).mono ?_; rintro e w' ⟨rfl, rfl⟩)
        | (go_at_call 56; with_reducible refine (hH2 _).mono ?_; rintro e w' ⟨rfl, rfl⟩)
        | (go_at_call 57; refine (hH4 _).mono ?_; rintro e w' ⟨rfl, rfl⟩))
      go_ret
      exact ⟨retY HR.out.symm, Below.refl _ _⟩
    exact absurd (HO.out q1 q2 q3 (by omega) (by omega)) id
  rw [conB_yes hok]
  by_cases hne : i = n
  · exact conIE old root i n none 0 0 [] w rfl (SA.nil _ _) hl hr (by omega) (fun x hx => by simp at hx) hk h0 hok hne
  have hH1 : ∀ w0, Calls Tryd.prog 56 #[.string old] w0 fun e w' => e = .returned (.bool (decide (old.size = 32))) ∧ w0 = w' := fun w0 => ownH32B old w0 hl
  have hH2 : ∀ w0, Calls Tryd.prog 56 #[.string root] w0 fun e w' => e = .returned (.bool (decide (root.size = 32))) ∧ w0 = w' := fun w0 => ownH32B root w0 hr
  have hH4 : ∀ w0, Calls Tryd.prog 57 #[.int .i64 n] w0 fun e w' => e = .returned (.bool (decide (1 ≤ n ∧ n ≤ 1099511627776))) ∧ w0 = w' := fun w0 => sizeRI n w0
  have HH3 : Hid (Calls Tryd.prog 55 #[.slice none 0 0] w fun e w' => e = .returned (.bool true) ∧ w = w') := proofRI none 0 0 [] w rfl (SA.nil _ _) (by omega) (fun x hx => by simp at hx)
  obtain ⟨q1, q2, h3, q3, h5, h6, h7, h8⟩ := hok
  rw [decide_eq_true q1] at hH1
  rw [decide_eq_true q2] at hH2
  rw [decide_eq_true ⟨h5, h6⟩] at hH4
  have e0 : decide (i < 1) = false := decide_eq_false (by omega)
  have e1 : decide (n < i) = false := decide_eq_false (by omega)
  have e4 : (i == n) = false := beq_eq_false_iff_ne.2 hne
  obtain ⟨f0, rfl⟩ := Int.eq_ofNat_of_zero_le (show 0 ≤ i by omega)
  obtain ⟨n0, rfl⟩ := Int.eq_ofNat_of_zero_le (show 0 ≤ n by omega)
  have u4 : decide (n0 < f0) = false := decide_eq_false (by omega)
  have u8 : (f0 == n0) = false := beq_eq_false_iff_ne.2 (by omega)
  have es : (n0 : Int) - 1 = ((n0 - 1 : Nat) : Int) := by omega
  have ef : (f0 : Int) - 1 = ((f0 - 1 : Nat) : Int) := by omega
  obtain ⟨F0, S0, hFS⟩ : ∃ F S, Mer.strip (f0 - 1) (n0 - 1) = (F, S) := ⟨_, _, rfl⟩
  have hpb : ∀ w0, Calls Tryd.prog 60 #[.int .i64 (f0 : Int)] w0 fun e w' => e = .returned (.bool (pwB f0)) ∧ w0 = w' := fun w0 => powI f0 w0 (by omega) (by omega)
  obtain ⟨R, hR⟩ : ∃ R, conR f0 n0 [] old root = R := ⟨_, rfl⟩
  rw [hR]
  have HK : Hid (ArrU w 0 keys) := hk
  cases hpw : pwB f0 with
  | false =>
    rw [hpw] at hpb
    have HF2 : Hid (R = false) := by
      show _ = _
      rw [← hR]
      exact conR_none hne (by unfold conLs; rw [hpw]; rfl)
    clear hpw hR hFS hk
    go_enter Tryd.func22, Tryd.ntmps22
    go_wp2_with (first
      | (go_at_call 55; refine Calls.mono HH3.out ?_; rintro e w' ⟨rfl, rfl⟩)
      | (go_at_call 56; with_reducible refine (hH1 _).mono ?_; rintro e w' ⟨rfl, rfl⟩)
      | (go_at_call 56; with_reducible refine (hH2 _).mono ?_; rintro e w' ⟨rfl, rfl⟩)
      | (go_at_call 57; refine (hH4 _).mono ?_; rintro e w' ⟨rfl, rfl⟩)
      | (go_at_call 60; refine (hpb _).mono ?_; rintro e w' ⟨rfl, rfl⟩))
    go_ret
    exact ⟨retY HF2.out.symm, Below.refl _ _⟩
  | true =>
    rw [hpw] at hpb
    have HC : Hid (Calls Tryd.prog 61 #[.agg #[.int .i64 ((f0 - 1 : Nat) : Int), .int .i64 ((n0 - 1 : Nat) : Int)], .slice (some ⟨w.heap.size, 0, none⟩) 1 1, .string old, .string root] (w.alloc (.cells #[.string old] 9)) fun e w' => e = .returned (.bool R) ∧ Below (w.alloc (.cells #[.string old] 9)).heap.size (w.alloc (.cells #[.string old] 9)) w') := by
      have B : Below w.heap.size w (w.alloc (.cells #[.string old] 9)) := (Below.refl _ _).alloc (Nat.le_refl _) _
      have := leadI old root old [] (f0 - 1) (n0 - 1) F0 S0 (some ⟨w.heap.size, 0, none⟩) 1 0 (w.alloc (.cells #[.string old] 9)) rfl (by omega) (one_lit w old) (fun x hx => by rw [List.mem_singleton.1 hx]; exact q1) (by omega) (by omega) (by omega) hFS (hk.below B h0) (Nat.lt_of_lt_of_le h0 B.size)
      rw [← hR, conR_rest hne (L := [old]) (by unfold conLs; rw [hpw]; rfl) (by simp) F0 S0 hFS]
      exact this
    have HB1 : Hid (Below w.heap.size w (w.alloc (.cells #[.string old] 9))) := (Below.refl _ _).alloc (Nat.le_refl _) _
    have HO1 : Hid ((w.alloc (.cells #[.string old] 9)).ownsRow w.heap.size 9 1 (.slice (some ⟨w.heap.size, 0, none⟩) 1 1) 1 (svl [old])) := World.ownsRow_lit w #[.string old] 1 (Nat.le_refl _) (by unfold maxLen; omega) rfl
    obtain ⟨f1, hf1⟩ : ∃ f1, f0 - 1 = f1 := ⟨_, rfl⟩
    obtain ⟨n1, hn1⟩ : ∃ n1, n0 - 1 = n1 := ⟨_, rfl⟩
    rw [hf1] at ef HC
    rw [hn1] at es HC
    clear hpw hR hFS hk hf1 hn1
    go_enter Tryd.func22, Tryd.ntmps22
    go_wp2_with (first
      | (go_at_call 55; refine Calls.mono HH3.out ?_; rintro e w' ⟨rfl, rfl⟩)
      | (go_at_call 56; with_reducible refine (hH1 _).mono ?_; rintro e w' ⟨rfl, rfl⟩)
      | (go_at_call 56; with_reducible refine (hH2 _).mono ?_; rintro e w' ⟨rfl, rfl⟩)
      | (go_at_call 57; refine (hH4 _).mono ?_; rintro e w' ⟨rfl, rfl⟩)
      | (go_at_call 60; refine (hpb _).mono ?_; rintro e w' ⟨rfl, rfl⟩)
      | (at_builtin; refine own_none rfl _ _ rfl w.heap.size (.slice (some ⟨w.heap.size, 0, none⟩) 1 1) 1 [old] rfl HO1.out rfl ?_)
      | (go_at_call 61; refine Calls.mono HC.out ?_; rintro e w9 ⟨rfl, hB9⟩))
    go_ret
    exact ⟨rfl, HB1.out.trans (hB9.mono HB1.out.size)⟩
end Go.Proofs.YtoaoaagfnkpkdaaDoor
namespace Go.Proofs.YtoaoaagfnkpkdaaDoor
open Go.RowKit
set_option linter.unusedVariables false

def tpT (l : List ByteArray) : List Pair := Mer.tp nodeD emptyD (l.map leafD)
theorem tpT_two {l : List ByteArray} (h : 2 ≤ l.length) : tpT l = tpT (l.take (Mer.half l.length)) ++ tpT (l.drop (Mer.half l.length)) ++ [(rtT (l.take (Mer.half l.length)), rtT (l.drop (Mer.half l.length)))] := by
  unfold tpT rtT
  rw [Mer.tp_two nodeD emptyD (by rw [List.length_map]; exact h), List.length_map, List.map_take, List.map_drop]
theorem tpT_small {l : List ByteArray} (h : l.length < 2) : tpT l = [] := by
  match l, h with
  | [], _ => rfl
  | [x], _ => rfl
theorem tpT_len : ∀ (m : Nat) (l : List ByteArray), l.length ≤ m → (tpT l).length ≤ l.length - 1
  | 0, l, h => by rw [tpT_small (by omega)]; exact Nat.zero_le _
  | m + 1, l, h => by
    by_cases h2 : 2 ≤ l.length
    · have hl := Mer.half_lt h2
      have hp := Mer.half_pos l.length
      rw [tpT_two h2, List.length_append, List.length_append]
      have h3 := tpT_len m (l.take (Mer.half l.length)) (by rw [List.length_take]; omega)
      have h4 := tpT_len m (l.drop (Mer.half l.length)) (by rw [List.length_drop]; omega)
      rw [List.length_take] at h3
      rw [List.length_drop] at h4
      simp
      omega
    · rw [tpT_small (by omega)]; exact Nat.zero_le _
theorem tpT_hs : ∀ (m : Nat) (l : List ByteArray), l.length ≤ m → ∀ x ∈ tpT l, x.1.size = 32 ∧ x.2.size = 32
  | 0, l, h, x, hx => by rw [tpT_small (by omega)] at hx; simp at hx
  | m + 1, l, h, x, hx => by
    by_cases h2 : 2 ≤ l.length
    · have hl := Mer.half_lt h2
      have hp := Mer.half_pos l.length
      rw [tpT_two h2] at hx
      rcases List.mem_append.1 hx with hx | hx
      · rcases List.mem_append.1 hx with hx | hx
        · exact tpT_hs m _ (by rw [List.length_take]; omega) x hx
        · exact tpT_hs m _ (by rw [List.length_drop]; omega) x hx
      · rw [List.mem_singleton.1 hx]; exact ⟨rtT_size _, rtT_size _⟩
    · rw [tpT_small (by omega)] at hx; simp at hx
theorem ownP_from {w : World} {b b' : Nat} {v : Value} {n : Nat} {l : List Pair} (h : OwnP w b v n l) (hb : b' ≤ b) : OwnP w b' v n l := by
  refine ⟨h.1, ?_⟩
  rcases h.2 with h0 | ⟨g, cap, cur, h1, h2, h3⟩
  · exact .inl h0
  · exact .inr ⟨g, cap, cur, h1, by omega, h3⟩
theorem KpR.far {w w' w2 : World} {a : Option Addr} {l : List ByteArray} (h : Hid (KpR w a l w')) (hb : Below w.heap.size w' w2) (hA : Hid (SA w a l)) : Hid (KpR w a l w2) := ⟨h.out.below.trans hb, hA.out.below (h.out.below.trans hb)⟩
attribute [local go_sem ↓] Go.wp_at_zero Go.wp_at_succ
set_option maxRecDepth 100000 in
set_option maxHeartbeats 4000000 in
theorem lwTree_any : ∀ (m : Nat) (a : Option Addr) (c n : Nat) (l : List ByteArray) (w : World), l.length ≤ m → l.length = n → n ≤ c → SA w a l → n ≤ 64 → c ≤ 9223372036854775807 → (∀ x ∈ l, x.size < 20000) →
    Calls Tryd.prog 30 #[.slice a n c] w fun e w' => ∃ v, e = .returned v ∧ v ≠ .slice none 0 0 ∧ OwnP w' w.heap.size v (tpT l).length (tpT l) ∧ Below w.heap.size w w'
  | m, a, c, n, l, w, hm, hn, hc, hA, hM, hcM, hx => by
    by_cases h1 : n < 2
    · have HP : Hid (tpT l = []) := tpT_small (by omega)
      have d1 : decide ((n : Int) < 2) = true := decide_eq_true (by omega)
      clear hA hx
      go_enter Tryd.func30, Tryd.ntmps30
      go_wp2
      go_ret
      refine ⟨_, rfl, by simp, ?_, (Below.refl _ _).alloc (Nat.le_refl _) _⟩
      rw [HP.out]
      exact World.ownsRow_made w #[] 0 (Nat.le_refl _) (Nat.zero_le _) rfl
    have d1 : decide ((n : Int) < 2) = false := decide_eq_false (by omega)
    have h2 : 2 ≤ n := by omega
    match m, hm with
    | 0, hm => omega
    | m + 1, hm =>
    have hl := Mer.half_lt h2
    have hp := Mer.half_pos n
    obtain ⟨b, o, rfl⟩ := hA.base (by omega)
    have l1 : (l.take (Mer.half n)).length = Mer.half n := by rw [List.length_take]; omega
    have l2 : (l.drop (Mer.half n)).length = n - Mer.half n := by rw [List.length_drop]; omega
    have o1 : okLv (l.take (Mer.half n)) = true := okLv_yes ⟨by omega, fun x hx' => hx x (List.mem_of_mem_take hx')⟩
    have o2 : okLv (l.drop (Mer.half n)) = true := okLv_yes ⟨by omega, fun x hx' => hx x (List.mem_of_mem_drop hx')⟩
    have HA0 : Hid (SA w (some ⟨b, o, none⟩) l) := hA
    have HS : Hid (KpR w (some ⟨b, o, none⟩) l w.drew) := KpR.drew (KpR.mk (Below.refl _ _) hA)
    have hR1 : ∀ w0, Hid (KpR w (some ⟨b, o, none⟩) l w0) → Calls Tryd.prog 30 #[.slice (some ⟨b, o, none⟩) (Mer.half n) c] w0 fun e w' => ∃ v, e = .returned v ∧ v ≠ .slice none 0 0 ∧ OwnP w' w0.heap.size v (tpT (l.take (Mer.half n))).length (tpT (l.take (Mer.half n))) ∧ Below w0.heap.size w0 w' := fun w0 h =>
      lwTree_any m (some ⟨b, o, none⟩) c (Mer.half n) (l.take (Mer.half n)) w0 (by omega) l1 (by omega) (h.out.sa.take _) (by omega) hcM (fun x hx' => hx x (List.mem_of_mem_take hx'))
    have hR2 : ∀ w0, Hid (KpR w (some ⟨b, o, none⟩) l w0) → Calls Tryd.prog 30 #[.slice (some ⟨b, o + Mer.half n, none⟩) (n - Mer.half n) (c - Mer.half n)] w0 fun e w' => ∃ v, e = .returned v ∧ v ≠ .slice none 0 0 ∧ OwnP w' w0.heap.size v (tpT (l.drop (Mer.half n))).length (tpT (l.drop (Mer.half n))) ∧ Below w0.heap.size w0 w' := fun w0 h =>
      lwTree_any m (some ⟨b, o + Mer.half n, none⟩) (c - Mer.half n) (n - Mer.half n) (l.drop (Mer.half n)) w0 (by omega) l2 (by omega) (h.out.sa.drop _) (by omega) (by omega) (fun x hx' => hx x (List.mem_of_mem_drop hx'))
    have hT1 : ∀ w0, Hid (KpR w (some ⟨b, o, none⟩) l w0) → Calls Tryd.prog 15 #[.slice (some ⟨b, o, none⟩) (Mer.half n) c] w0 fun e w' => e = .returned (.string (rtT (l.take (Mer.half n)))) ∧ Below w0.heap.size w0 w' := fun w0 h => by
      have := specTree (some ⟨b, o, none⟩) c (Mer.half n) (l.take (Mer.half n)) w0 l1 (by omega) (h.out.sa.take _) (by omega) hcM (fun x hx' => by have := hx x (List.mem_of_mem_take hx'); unfold maxLen; omega)
      rw [show rootA (l.take (Mer.half n)) = rtT (l.take (Mer.half n)) from if_pos o1] at this
      exact this
    have hT2 : ∀ w0, Hid (KpR w (some ⟨b, o, none⟩) l w0) → Calls Tryd.prog 15 #[.slice (some ⟨b, o + Mer.half n, none⟩) (n - Mer.half n) (c - Mer.half n)] w0 fun e w' => e = .returned (.string (rtT (l.drop (Mer.half n)))) ∧ Below w0.heap.size w0 w' := fun w0 h => by
      have := specTree (some ⟨b, o + Mer.half n, none⟩) (c - Mer.half n) (n - Mer.half n) (l.drop (Mer.half n)) w0 l2 (by omega) (h.out.sa.drop _) (by omega) (by omega) (fun x hx' => by have := hx x (List.mem_of_mem_drop hx'); unfold maxLen; omega)
      rw [show rootA (l.drop (Mer.half n)) = rtT (l.drop (Mer.half n)) from if_pos o2] at this
      exact this
    have HE : Hid (tpT l = tpT (l.take (Mer.half n)) ++ tpT (l.drop (Mer.half n)) ++ [(rtT (l.take (Mer.half n)), rtT (l.drop (Mer.half n)))]) := by show _ = _; rw [tpT_two (by omega), hn]
    have hP1 : (tpT (l.take (Mer.half n))).length ≤ 64 := by have := tpT_len _ (l.take (Mer.half n)) (Nat.le_refl _); omega
    have hP2 : (tpT (l.drop (Mer.half n))).length ≤ 64 := by have := tpT_len _ (l.drop (Mer.half n)) (Nat.le_refl _); omega
    have HF : Hid (∀ k j : Nat, k = 2 ^ j → k < n → n ≤ 2 * k → Mer.half n = k) := fun k j e h1 h2 => by subst e; exact Mer.half_uniq h1 h2
    generalize tpT (l.take (Mer.half n)) = P1 at *
    generalize tpT (l.drop (Mer.half n)) = P2 at *
    generalize rtT (l.take (Mer.half n)) = T1 at *
    generalize rtT (l.drop (Mer.half n)) = T2 at *
    generalize Mer.half n = H at *
    clear hA hx l1 l2 o1 o2
    go_enter Tryd.func30, Tryd.ntmps30
    go_wp2_with fail
    go_loop [3] (fun vk => ∃ k : Nat, vk = .int .i64 (k : Int) ∧ 1 ≤ k ∧ k < n ∧ Hid (∃ j, k = 2 ^ j)) (fun vk => n - (intOf vk).toNat)
    case atStart => exact ⟨1, rfl, Nat.le_refl _, by omega, ⟨0, rfl⟩⟩
    case round =>
    obtain ⟨k, rfl, hk1, hk2, HJ⟩ := hrel
    by_cases hlt : 2 * k < n
    · have hi : (2 : Int) * (k : Int) < n := by omega
      have HJ2 : Hid (∃ j, 2 * k = 2 ^ j) := by
        obtain ⟨j, hj⟩ := HJ.out
        exact ⟨j + 1, by rw [Nat.pow_succ, hj, Nat.mul_comm]⟩
      go_wp2
      exact ⟨⟨2 * k, by go_num, by omega, hlt, HJ2⟩, by simp [intOf]; omega⟩
    have hi : ¬ (2 : Int) * (k : Int) < n := by omega
    have HR : Hid (H = k) := by
      obtain ⟨j, hj⟩ := HJ.out
      exact HF.out k j hj hk2 (by omega)
    have HR2 := HR.out
    subst HR2
    have s1 := Tryd.sliceLo b o n c H (by omega)
    have s2 := Tryd.sliceHi b o n c H (by omega) (by omega)
    clear HF HJ
    go_wp2_with fail
    refine wp_region_held_drew (S := fun _ => True) (by kernel_rfl) trivial (fun hHeld => ?_)
    refine wpAnyH_take (i := 0) (oi := ⟨_, _, _, _, _, _⟩) (v := .slice (some ⟨b, o, none⟩) n c) rfl (by kernel_rfl) (by kernel_rfl) (by kernel_rfl) (fun _ _ _ h => h) (Or.inl ⟨wn' rfl, fun w' hSw => ?_⟩) trivial ?_
    · go_simp
    try simp only [Act.put, List.setIfInBounds_toArray, List.set_cons_zero, List.set_cons_succ]
    refine wpAnyH_take (i := 1) (oi := ⟨_, _, _, _, _, _⟩) (v := .int .i64 (H : Int)) rfl (by kernel_rfl) (by kernel_rfl) (by kernel_rfl) (fun _ _ _ h => h) (Or.inl ⟨wn' rfl, fun w' hSw => ?_⟩) trivial ?_
    · go_simp
    try simp only [Act.put, List.setIfInBounds_toArray, List.set_cons_zero, List.set_cons_succ]
    refine wpAnyH_take (i := 2) (oi := ⟨_, _, _, _, _, _⟩) (v := .slice (some ⟨b, o, none⟩) H c) rfl (by kernel_rfl) (by kernel_rfl) (by kernel_rfl) (fun _ _ _ h => h) (Or.inl ⟨wn' rfl, fun w' hSw => ?_⟩) trivial ?_
    · go_simp
    try simp only [Act.put, List.setIfInBounds_toArray, List.set_cons_zero, List.set_cons_succ]
    refine wpAnyH_take (i := 4) (oi := ⟨_, _, _, _, _, _⟩) (v := .slice (some ⟨b, o, none⟩) n c) rfl (by kernel_rfl) (by kernel_rfl) (by kernel_rfl) (fun _ _ _ h => h) (Or.inl ⟨wn' rfl, fun w' hSw => ?_⟩) trivial ?_
    · go_simp
    try simp only [Act.put, List.setIfInBounds_toArray, List.set_cons_zero, List.set_cons_succ]
    refine wpAnyH_take (i := 5) (oi := ⟨_, _, _, _, _, _⟩) (v := .int .i64 (H : Int)) rfl (by kernel_rfl) (by kernel_rfl) (by kernel_rfl) (fun _ _ _ h => h) (Or.inl ⟨wn' rfl, fun w' hSw => ?_⟩) trivial ?_
    · go_simp
    try simp only [Act.put, List.setIfInBounds_toArray, List.set_cons_zero, List.set_cons_succ]
    refine wpAnyH_take (i := 6) (oi := ⟨_, _, _, _, _, _⟩) (v := .slice (some ⟨b, o + H, none⟩) (n - H) (c - H)) rfl (by kernel_rfl) (by kernel_rfl) (by kernel_rfl) (fun _ _ _ h => h) (Or.inl ⟨wn' rfl, fun w' hSw => ?_⟩) trivial ?_
    · go_simp
    try simp only [Act.put, List.setIfInBounds_toArray, List.set_cons_zero, List.set_cons_succ]
    refine wpAnyH_ready (rs := [3]) (by kernel_rfl) (by simp) (AllReadyH.cons (o := ⟨_, _, _, _, _, _⟩) rfl (fun K hK => ?_) AllReadyH.nil)
    rewrite [if_pos (wn' rfl)]
    go_simp
    refine (hR1 _ HS).mono ?_
    rintro e w1 ⟨v1, rfl, hv1, hO1, hB1⟩
    go_wp2_with fail
    have HS1 : Hid (KpR w (some ⟨b, o, none⟩) l w1) := KpR.hid HS hB1
    refine hK.out _ _ trivial (fun _ => ?_)
    clear hK K
    try simp only [Act.put, List.setIfInBounds_toArray, List.set_cons_zero, List.set_cons_succ]
    refine wpAnyH_ready (rs := [7]) (by kernel_rfl) (by simp) (AllReadyH.cons (o := ⟨_, _, _, _, _, _⟩) rfl (fun K hK => ?_) AllReadyH.nil)
    rewrite [if_pos (wn' rfl)]
    go_simp
    refine (hR2 _ HS1).mono ?_
    rintro e w2 ⟨v2, rfl, hv2, hO2, hB2⟩
    go_wp2_with fail
    have HS2 : Hid (KpR w (some ⟨b, o, none⟩) l w2) := KpR.hid HS1 hB2
    have hO1' : OwnP w2 w.heap.size v1 P1.length P1 := ownP_from (ownP_below hO1 hB2) HS.out.below.size
    obtain ⟨g2, c2, rfl, hg2, hn2, hm2, hp2, hl2⟩ := ownP_some hO2 hv2
    refine hK.out _ _ trivial (fun _ => ?_)
    clear hK K
    try simp only [Act.put, List.setIfInBounds_toArray, List.set_cons_zero, List.set_cons_succ]
    refine wpAnyH_ready (rs := [8]) (by kernel_rfl) (by simp) (AllReadyH.cons (o := ⟨_, _, _, _, _, _⟩) rfl (fun K hK => ?_) AllReadyH.nil)
    rewrite [if_pos (wn' rfl)]
    with_reducible refine wp_append_pairs (.tmp 19) (.tmp 23) (by with_unfolding_all rfl) w.heap.size v1 P1.length P2.length P1 P2 (by with_unfolding_all rfl) hO1' g2 0 c2 (by with_unfolding_all rfl) (by with_unfolding_all rfl) hp2 (by omega) HS2.out.below.size ?_
    intro v3 w3 hO3 hB3 hv3
    refine hK.out _ _ trivial (fun _ => ?_)
    clear hK K
    try simp only [Act.put, List.setIfInBounds_toArray, List.set_cons_zero, List.set_cons_succ]
    refine wpAnyH_take (i := 9) (oi := ⟨_, _, _, _, _, _⟩) (v := v3) rfl (by kernel_rfl) (by kernel_rfl) (by kernel_rfl) (fun _ _ _ h => h) (Or.inl ⟨wn' rfl, fun w' hSw => ?_⟩) trivial ?_
    · go_simp
    try simp only [Act.put, List.setIfInBounds_toArray, List.set_cons_zero, List.set_cons_succ]
    refine wpAnyH_done (by kernel_rfl) ?_ _
    have HS3 : Hid (KpR w (some ⟨b, o, none⟩) l w3) := KpR.far HS2 hB3 HA0
    have HO3 : Hid (OwnP w3.drew w.heap.size v3 (P1.length + P2.length) (P1 ++ P2)) := hO3
    have HV3 : Hid (v3 ≠ .slice none 0 0) := hv3 hv1
    have HS4 : Hid (KpR w (some ⟨b, o, none⟩) l w3.drew) := KpR.drew HS3
    clear hO3 hB3 hv3 hv1 hv2 hO1 hO2 hO1' hp2 HS HS1 HS2 HS3 hB1 hB2 hHeld hl2 hm2 hn2 hg2
    go_wp2_with fail
    refine wp_region_held_drew (S := fun _ => True) (by kernel_rfl) trivial (fun hHeld => ?_)
    refine wpAnyH_take (i := 0) (oi := ⟨_, _, _, _, _, _⟩) (v := v3) rfl (by kernel_rfl) (by kernel_rfl) (by kernel_rfl) (fun _ _ _ h => h) (Or.inl ⟨wn' rfl, fun w' hSw => ?_⟩) trivial ?_
    · go_simp
    try simp only [Act.put, List.setIfInBounds_toArray, List.set_cons_zero, List.set_cons_succ]
    refine wpAnyH_take (i := 1) (oi := ⟨_, _, _, _, _, _⟩) (v := .slice (some ⟨b, o, none⟩) n c) rfl (by kernel_rfl) (by kernel_rfl) (by kernel_rfl) (fun _ _ _ h => h) (Or.inl ⟨wn' rfl, fun w' hSw => ?_⟩) trivial ?_
    · go_simp
    try simp only [Act.put, List.setIfInBounds_toArray, List.set_cons_zero, List.set_cons_succ]
    refine wpAnyH_take (i := 2) (oi := ⟨_, _, _, _, _, _⟩) (v := .int .i64 (H : Int)) rfl (by kernel_rfl) (by kernel_rfl) (by kernel_rfl) (fun _ _ _ h => h) (Or.inl ⟨wn' rfl, fun w' hSw => ?_⟩) trivial ?_
    · go_simp
    try simp only [Act.put, List.setIfInBounds_toArray, List.set_cons_zero, List.set_cons_succ]
    refine wpAnyH_take (i := 3) (oi := ⟨_, _, _, _, _, _⟩) (v := .slice (some ⟨b, o, none⟩) H c) rfl (by kernel_rfl) (by kernel_rfl) (by kernel_rfl) (fun _ _ _ h => h) (Or.inl ⟨wn' rfl, fun w' hSw => ?_⟩) trivial ?_
    · go_simp
    try simp only [Act.put, List.setIfInBounds_toArray, List.set_cons_zero, List.set_cons_succ]
    refine wpAnyH_take (i := 5) (oi := ⟨_, _, _, _, _, _⟩) (v := .slice (some ⟨b, o, none⟩) n c) rfl (by kernel_rfl) (by kernel_rfl) (by kernel_rfl) (fun _ _ _ h => h) (Or.inl ⟨wn' rfl, fun w' hSw => ?_⟩) trivial ?_
    · go_simp
    try simp only [Act.put, List.setIfInBounds_toArray, List.set_cons_zero, List.set_cons_succ]
    refine wpAnyH_take (i := 6) (oi := ⟨_, _, _, _, _, _⟩) (v := .int .i64 (H : Int)) rfl (by kernel_rfl) (by kernel_rfl) (by kernel_rfl) (fun _ _ _ h => h) (Or.inl ⟨wn' rfl, fun w' hSw => ?_⟩) trivial ?_
    · go_simp
    try simp only [Act.put, List.setIfInBounds_toArray, List.set_cons_zero, List.set_cons_succ]
    refine wpAnyH_take (i := 7) (oi := ⟨_, _, _, _, _, _⟩) (v := .slice (some ⟨b, o + H, none⟩) (n - H) (c - H)) rfl (by kernel_rfl) (by kernel_rfl) (by kernel_rfl) (fun _ _ _ h => h) (Or.inl ⟨wn' rfl, fun w' hSw => ?_⟩) trivial ?_
    · go_simp
    try simp only [Act.put, List.setIfInBounds_toArray, List.set_cons_zero, List.set_cons_succ]
    refine wpAnyH_ready (rs := [4]) (by kernel_rfl) (by simp) (AllReadyH.cons (o := ⟨_, _, _, _, _, _⟩) rfl (fun K hK => ?_) AllReadyH.nil)
    rewrite [if_pos (wn' rfl)]
    go_simp
    refine (hT1 _ HS4).mono ?_
    rintro e w5 ⟨rfl, hB5⟩
    go_wp2_with fail
    have HS5 : Hid (KpR w (some ⟨b, o, none⟩) l w5) := KpR.hid HS4 hB5
    refine hK.out _ _ trivial (fun _ => ?_)
    clear hK K
    try simp only [Act.put, List.setIfInBounds_toArray, List.set_cons_zero, List.set_cons_succ]
    refine wpAnyH_ready (rs := [8]) (by kernel_rfl) (by simp) (AllReadyH.cons (o := ⟨_, _, _, _, _, _⟩) rfl (fun K hK => ?_) AllReadyH.nil)
    rewrite [if_pos (wn' rfl)]
    go_simp
    refine (hT2 _ HS5).mono ?_
    rintro e w6 ⟨rfl, hB6⟩
    go_wp2_with fail
    have HS6 : Hid (KpR w (some ⟨b, o, none⟩) l w6) := KpR.hid HS5 hB6
    have hO6 : OwnP w6 w.heap.size v3 (P1.length + P2.length) (P1 ++ P2) := ownP_below (ownP_below HO3.out hB5) hB6
    refine hK.out _ _ trivial (fun _ => ?_)
    clear hK K
    try simp only [Act.put, List.setIfInBounds_toArray, List.set_cons_zero, List.set_cons_succ]
    refine wpAnyH_take (i := 9) (oi := ⟨_, _, _, _, _, _⟩) (v := .agg #[.string T1, .string T2]) rfl (by kernel_rfl) (by kernel_rfl) (by kernel_rfl) (fun _ _ _ h => h) (Or.inl ⟨wn' rfl, fun w' hSw => ?_⟩) trivial ?_
    · go_simp
    try simp only [Act.put, List.setIfInBounds_toArray, List.set_cons_zero, List.set_cons_succ]
    refine wpAnyH_ready (rs := [10]) (by kernel_rfl) (by simp) (AllReadyH.cons (o := ⟨_, _, _, _, _, _⟩) rfl (fun K hK => ?_) AllReadyH.nil)
    rewrite [if_pos (wn' rfl)]
    go_wp2_with fail
    have B7 : Below w.heap.size w (w6.alloc (.cells #[.string T1, .string T2] 74)) := HS6.out.below.alloc HS6.out.below.size _
    have hO7 : OwnP (w6.alloc (.cells #[.string T1, .string T2] 74)) w.heap.size v3 (P1.length + P2.length) (P1 ++ P2) := ownP_below hO6 ((Below.refl _ _).alloc (Nat.le_refl _) _)
    have hp7 : PA (w6.alloc (.cells #[.string T1, .string T2] 74)) w6.heap.size 0 [(T1, T2)] := lit_pa w6 (T1, T2) 74
    refine hK.out _ _ trivial (fun _ => ?_)
    clear hK K
    try simp only [Act.put, List.setIfInBounds_toArray, List.set_cons_zero, List.set_cons_succ]
    generalize w6.alloc (.cells #[.string T1, .string T2] 74) = w7 at *
    refine wpAnyH_ready (rs := [11]) (by kernel_rfl) (by simp) (AllReadyH.cons (o := ⟨_, _, _, _, _, _⟩) rfl (fun K hK => ?_) AllReadyH.nil)
    rewrite [if_pos (wn' rfl)]
    with_reducible refine wp_append_pairs (.tmp 25) (.tmp 35) (by with_unfolding_all rfl) w.heap.size v3 (P1.length + P2.length) 1 (P1 ++ P2) [(T1, T2)] (by with_unfolding_all rfl) hO7 w6.heap.size 0 1 (by with_unfolding_all rfl) (by with_unfolding_all rfl) hp7 (by omega) B7.size ?_
    intro v8 w8 hO8 hB8 hv8
    refine hK.out _ _ trivial (fun _ => ?_)
    clear hK K
    try simp only [Act.put, List.setIfInBounds_toArray, List.set_cons_zero, List.set_cons_succ]
    refine wpAnyH_take (i := 12) (oi := ⟨_, _, _, _, _, _⟩) (v := v8) rfl (by kernel_rfl) (by kernel_rfl) (by kernel_rfl) (fun _ _ _ h => h) (Or.inl ⟨wn' rfl, fun w' hSw => ?_⟩) trivial ?_
    · go_simp
    try simp only [Act.put, List.setIfInBounds_toArray, List.set_cons_zero, List.set_cons_succ]
    refine wpAnyH_done (by kernel_rfl) ?_ _
    have HV8 : Hid (v8 ≠ .slice none 0 0) := hv8 HV3.out
    have HB8 : Hid (Below w.heap.size w w8) := B7.trans hB8
    have HO8 : Hid (OwnP w8 w.heap.size v8 (P1.length + P2.length + 1) (P1 ++ P2 ++ [(T1, T2)])) := hO8
    clear hO8 hB8 hv8 hO7 hp7 B7 hO6 HS4 HS5 HS6 hB5 hB6 hHeld HO3
    go_wp2
    go_ret
    refine ⟨v8, rfl, HV8.out, ?_, HB8.out⟩
    rw [HE.out, List.length_append, List.length_append]
    exact HO8.out
end Go.Proofs.YtoaoaagfnkpkdaaDoor
