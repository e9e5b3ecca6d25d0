/- The laws over LeafHash, NodeHash, TreeRoot, InclusionCheck and ConsistencyCheck, walked out of what the program's functions answer. -/
import Derived.Test.YtoaoaagfnkpkdaaDoorConS
import Derived.Test.YtoaoaagfnkpkdaaDoorLaid
namespace Go.Proofs.YtoaoaagfnkpkdaaDoor
open Go.RowKit
set_option linter.unusedVariables false

/- What the program's functions answer: to be shown of the program's own text. -/
def LeafI : Prop := ∀ (t : ByteArray) (w : World), t.size ≤ maxLen → ArrU w 0 keys → 0 < w.heap.size → Calls Tryd.prog 21 #[.string t] w fun e w' => e = .returned (.string (leafA t)) ∧ Below w.heap.size w w'
def NodeI : Prop := ∀ (a b : ByteArray) (w : World), a.size ≤ maxLen → b.size ≤ maxLen → ArrU w 0 keys → 0 < w.heap.size → Calls Tryd.prog 33 #[.string a, .string b] w fun e w' => e = .returned (.string (nodeA a b)) ∧ Below w.heap.size w w'
def TreeI : Prop := ∀ (a : Option Addr) (c n : Nat) (l : List ByteArray) (w : World), l.length = n → n ≤ c → SA w a l → n ≤ 1048576 → c ≤ 9223372036854775807 → (∀ x ∈ l, x.size ≤ maxLen) → ArrU w 0 keys → 0 < w.heap.size → Calls Tryd.prog 14 #[.slice a n c] w fun e w' => e = .returned (.string (rootA l)) ∧ Below w.heap.size w w'
def IncI : Prop := ∀ (leaf root : ByteArray) (i n : Int) (a : Option Addr) (c m : Nat) (ps : List ByteArray) (w : World), ps.length = m → m ≤ c → SA w a ps → leaf.size ≤ maxLen → root.size ≤ maxLen → m ≤ 1048576 → (∀ x ∈ ps, x.size ≤ maxLen) → (Lit.int .i64 i).wf = true → (Lit.int .i64 n).wf = true → ArrU w 0 keys → 0 < w.heap.size →
    Calls Tryd.prog 20 #[.string leaf, .int .i64 i, .int .i64 n, .slice a m c, .string root] w fun e w' => e = .returned (.bool (incB leaf i n ps root)) ∧ Below w.heap.size w w'
def ConI : Prop := ∀ (old root : ByteArray) (i n : Int) (b o c m : Nat) (ps : List ByteArray) (w : World), ps.length = m → m ≤ c → SA w (some ⟨b, o, none⟩) ps → old.size ≤ maxLen → root.size ≤ maxLen → m ≤ 1048576 → (∀ x ∈ ps, x.size ≤ maxLen) → (Lit.int .i64 i).wf = true → (Lit.int .i64 n).wf = true → ArrU w 0 keys → 0 < w.heap.size →
    Calls Tryd.prog 22 #[.int .i64 i, .int .i64 n, .slice (some ⟨b, o, none⟩) m c, .string old, .string root] w fun e w' => e = .returned (.bool (conB i n ps old root)) ∧ Below w.heap.size w w'

set_option maxRecDepth 100000 in
set_option maxHeartbeats 1000000 in
theorem lawLeaf (HI : LeafI) (t : ByteArray) (w : World) (ht : t.size ≤ maxLen) (hk : ArrU w 0 keys) (h0 : 0 < w.heap.size) :
    Calls Tryd.prog 6 #[.string t] w fun e w' => e = .returned (.bool true) ∧ Below w.heap.size w w' := by
  have ht' := ht
  unfold maxLen at ht'
  have HK : Hid (ArrU w 0 keys) := hk
  clear hk
  by_cases hbig : 1048576 < t.size
  · go_enter Tryd.func6, Tryd.ntmps6
    go_wp2
    go_ret
    exact ⟨rfl, Below.refl _ _⟩
  have h1 : ∀ w0, Calls Tryd.prog 31 #[.string t] w0 fun e w' => e = .returned (.string (leafA t)) ∧ Below w0.heap.size w0 w' := fun w0 => specLeafH t w0 ht
  have h2 : ∀ w0, ArrU w0 0 keys → 0 < w0.heap.size → Calls Tryd.prog 21 #[.string t] w0 fun e w' => e = .returned (.string (leafA t)) ∧ Below w0.heap.size w0 w' := fun w0 k1 k2 => HI t w0 ht k1 k2
  generalize leafA t = D at *
  have t1 := txt_eq D
  clear ht HI
  go_enter Tryd.func6, Tryd.ntmps6
  go_wp2_with (first
    | (go_at_call 31; refine (h1 _).mono ?_; rintro e w1 ⟨rfl, hB1⟩)
    | (go_at_call 21; refine (h2 w1 (HK.out.below hB1 h0) (by have := hB1.size; omega)).mono ?_; rintro e w2 ⟨rfl, hB2⟩))
  go_ret
  exact ⟨rfl, hB1.trans (hB2.mono hB1.size)⟩
set_option maxRecDepth 100000 in
set_option maxHeartbeats 1000000 in
theorem lawNode (HI : NodeI) (a b : ByteArray) (w : World) (ha : a.size ≤ maxLen) (hb : b.size ≤ maxLen) (hk : ArrU w 0 keys) (h0 : 0 < w.heap.size) :
    Calls Tryd.prog 7 #[.string a, .string b] w fun e w' => e = .returned (.bool true) ∧ Below w.heap.size w w' := by
  have ha' := ha
  have hb' := hb
  unfold maxLen at ha' hb'
  have HK : Hid (ArrU w 0 keys) := hk
  clear hk
  by_cases hbig : 1048576 < a.size
  · go_enter Tryd.func7, Tryd.ntmps7
    go_wp2
    go_ret
    exact ⟨rfl, Below.refl _ _⟩
  by_cases hbig2 : 1048576 < b.size
  · go_enter Tryd.func7, Tryd.ntmps7
    go_wp2
    go_ret
    exact ⟨rfl, Below.refl _ _⟩
  have h1 : ∀ w0, Calls Tryd.prog 32 #[.string a, .string b] w0 fun e w' => e = .returned (.string (nodeA a b)) ∧ Below w0.heap.size w0 w' := fun w0 => specNodeH a b w0 ha hb
  have h2 : ∀ w0, ArrU w0 0 keys → 0 < w0.heap.size → Calls Tryd.prog 33 #[.string a, .string b] w0 fun e w' => e = .returned (.string (nodeA a b)) ∧ Below w0.heap.size w0 w' := fun w0 k1 k2 => HI a b w0 ha hb k1 k2
  generalize nodeA a b = D at *
  have t1 := txt_eq D
  clear ha hb HI
  go_enter Tryd.func7, Tryd.ntmps7
  go_wp2_with (first
    | (go_at_call 32; refine (h1 _).mono ?_; rintro e w1 ⟨rfl, hB1⟩)
    | (go_at_call 33; refine (h2 w1 (HK.out.below hB1 h0) (by have := hB1.size; omega)).mono ?_; rintro e w2 ⟨rfl, hB2⟩))
  go_ret
  exact ⟨rfl, hB1.trans (hB2.mono hB1.size)⟩
set_option maxRecDepth 100000 in
set_option maxHeartbeats 1000000 in
theorem lawTree (HI : TreeI) (a : Option Addr) (c n : Nat) (l : List ByteArray) (w : World) (hn : l.length = n) (h : SA w a l) (hM : n ≤ maxLen) (hx : ∀ x ∈ l, x.size ≤ maxLen) (hk : ArrU w 0 keys) (h0 : 0 < w.heap.size) :
    Calls Tryd.prog 8 #[.slice a n c] w fun e w' => e = .returned (.bool true) ∧ Below w.heap.size w w' := by
  have HA : Hid (SA w a l) := h
  have HK : Hid (ArrU w 0 keys) := hk
  have HX : Hid (∀ x ∈ l, x.size ≤ maxLen) := hx
  have hSz : Calls Tryd.prog 34 #[.slice a n c, .int .i64 1048576] w fun e w' => e = .returned (.int .i64 (roomL l)) ∧ w = w' := (szS_any a c n l w hn h hM hx).mono fun e w' h => ⟨h.1, h.2.symm⟩
  have HSz : Hid _ := hSz
  by_cases hr : 0 ≤ roomL l
  · have hbd := (roomL_bd hr).1
    have hTo : ∀ w0, SA w0 a l → Calls Tryd.prog 35 #[.slice a n c] w0 fun e w' => e = .returned (.slice (some ⟨w0.heap.size, 0, none⟩) n n) ∧ RowV w' w0.heap.size (svl l) ∧ Below w0.heap.size w0 w' ∧ w0.heap.size < w'.heap.size := fun w0 h0 => toS_row a c n l w0 hn h0 (by omega)
    have hS : ∀ w0 g, RowV w0 g (svl l) → Calls Tryd.prog 15 #[.slice (some ⟨g, 0, none⟩) n n] w0 fun e w' => e = .returned (.string (rootA l)) ∧ Below w0.heap.size w0 w' := fun w0 g hg => specTree _ n n l w0 hn (Nat.le_refl _) hg.sa (by omega) (by omega) HX.out
    have hI : ∀ w0 g, RowV w0 g (svl l) → ArrU w0 0 keys → 0 < w0.heap.size → Calls Tryd.prog 14 #[.slice (some ⟨g, 0, none⟩) n n] w0 fun e w' => e = .returned (.string (rootA l)) ∧ Below w0.heap.size w0 w' := fun w0 g hg k1 k2 => HI _ n n l w0 hn (Nat.le_refl _) hg.sa (by omega) (by omega) HX.out k1 k2
    have hE : ∀ w0 g1 g2, RowV w0 g1 (svl l) → RowV w0 g2 (svl l) → Calls Tryd.prog 36 #[.slice (some ⟨g1, 0, none⟩) n n, .slice (some ⟨g2, 0, none⟩) n n] w0 fun e w' => e = .returned (.bool true) ∧ Below w0.heap.size w0 w' := fun w0 g1 g2 k1 k2 => by
      have := eqS_any (some ⟨g1, 0, none⟩) (some ⟨g2, 0, none⟩) n n l l w0 k1.sa k2.sa (by omega) (by omega)
      rw [hn, decide_eq_true rfl] at this
      exact this
    have hnn : l.length = n := hn
    generalize rootA l = T at *
    generalize roomL l = q at *
    have t1 := txt_eq T
    clear h hk hx hSz HI hn hM
    go_enter Tryd.func8, Tryd.ntmps8
    go_wp2_with (first
      | (go_at_call 34; refine Calls.mono HSz.out ?_; rintro e w' ⟨rfl, rfl⟩)
      | (go_at_call 35; with_reducible refine (hTo w HA.out).mono ?_; rintro e w1 ⟨rfl, hA1, hB1, hz1⟩)
      | (go_at_call 15; with_reducible refine (hS w1 _ hA1).mono ?_; rintro e w2 ⟨rfl, hB2⟩; have b02 : Below w.heap.size w w2 := hB1.trans (hB2.mono (by omega)); have z2 := hB2.size)
      | (go_at_call 35; with_reducible refine (hTo w2 (HA.out.below b02)).mono ?_; rintro e w3 ⟨rfl, hA3, hB3, hz3⟩; have b03 : Below w.heap.size w w3 := b02.trans (hB3.mono (by omega)))
      | (go_at_call 14; with_reducible refine (hI w3 _ hA3 (HK.out.below b03 h0) (by omega)).mono ?_; rintro e w4 ⟨rfl, hB4⟩; have b04 : Below w.heap.size w w4 := b03.trans (hB4.mono (by omega)); have z4 := hB4.size; have A4 := hA3.below hB4 (by omega))
      | (go_at_call 35; with_reducible refine (hTo w4 (HA.out.below b04)).mono ?_; rintro e w5 ⟨rfl, hA5, hB5, hz5⟩; have b05 : Below w.heap.size w w5 := b04.trans (hB5.mono (by omega)); have A5 := A4.below hB5 (by omega))
      | (go_at_call 36; with_reducible refine (hE w5 _ _ A5 hA5).mono ?_; rintro e w6 ⟨rfl, hB6⟩))
    go_ret
    exact ⟨rfl, b05.trans (hB6.mono (by omega))⟩
  · have hr' : roomL l < 0 := by omega
    generalize roomL l = q at *
    clear h hk hx hSz HI hn hM
    go_enter Tryd.func8, Tryd.ntmps8
    go_wp2_with (first
      | (go_at_call 34; refine Calls.mono HSz.out ?_; rintro e w' ⟨rfl, rfl⟩))
    go_ret
    exact ⟨rfl, Below.refl _ _⟩
end Go.Proofs.YtoaoaagfnkpkdaaDoor
