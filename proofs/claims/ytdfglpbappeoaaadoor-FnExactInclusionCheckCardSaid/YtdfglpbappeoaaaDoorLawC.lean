/- The laws over InclusionCheck and ConsistencyCheck, walked out of what the program's functions answer. -/
import Derived.Test.YtdfglpbappeoaaaDoorLawT
namespace Go.Proofs.YtdfglpbappeoaaaDoor
open Go.RowKit
set_option linter.unusedVariables false
set_option maxRecDepth 100000 in
set_option maxHeartbeats 1000000 in
theorem lawIncC (HI : IncI) (leaf : ByteArray) (i k : Int) (a : Option Addr) (c n : Nat) (l : List ByteArray) (root : ByteArray) (w : World) (hl : leaf.size ≤ maxLen) (hi : (Lit.int .i64 i).wf = true) (hj : (Lit.int .i64 k).wf = true) (hn : l.length = n) (h : SA w a l) (hM : n ≤ maxLen) (hx : ∀ x ∈ l, x.size ≤ maxLen) (ht : root.size ≤ maxLen) (hk : ArrU w 0 keys) (h0 : 0 < w.heap.size) :
    Calls Tryd.prog 4 #[.string leaf, .int .i64 i, .int .i64 k, .slice a n c, .string root] w fun e w' => e = .returned (.bool true) ∧ Below w.heap.size w w' := by
  have hl' := hl
  have ht' := ht
  unfold maxLen at hl' ht'
  by_cases hb1 : 1048576 < leaf.size
  · clear HI h hx hk
    go_enter Tryd.func4, Tryd.ntmps4
    go_wp2
    go_ret
    exact ⟨rfl, Below.refl _ _⟩
  by_cases hb2 : 1048576 < root.size
  · clear HI h hx hk
    go_enter Tryd.func4, Tryd.ntmps4
    go_wp2
    go_ret
    exact ⟨rfl, Below.refl _ _⟩
  have HA : Hid (SA w a l) := h
  have HK : Hid (ArrU w 0 keys) := hk
  have HX : Hid (∀ x ∈ l, x.size ≤ maxLen) := hx
  have hSz : Calls Tryd.prog 6 #[.slice a n c, .int .i64 1048576] w fun e w' => e = .returned (.int .i64 (roomL l)) ∧ w = w' := (szS_any a c n l w hn h hM hx).mono fun e w' h => ⟨h.1, h.2.symm⟩
  have HSz : Hid _ := hSz
  by_cases hr : 0 ≤ roomL l
  · have hbd := (roomL_bd hr).1
    have hTo : ∀ w0, SA w0 a l → Calls Tryd.prog 8 #[.slice a n c] w0 fun e w' => e = .returned (.slice (some ⟨w0.heap.size, 0, none⟩) n n) ∧ RowV w' w0.heap.size (svl l) ∧ Below w0.heap.size w0 w' ∧ w0.heap.size < w'.heap.size := fun w0 h0 => toS_row a c n l w0 hn h0 (by omega)
    have hS : ∀ w0 g, RowV w0 g (svl l) → Calls Tryd.prog 12 #[.string leaf, .int .i64 i, .int .i64 k, .slice (some ⟨g, 0, none⟩) n n, .string root] w0 fun e w' => e = .returned (.bool (incB leaf i k l root)) ∧ Below w0.heap.size w0 w' := fun w0 g hg => specInc leaf root i k _ n n l w0 hn hg.sa hl ht (by omega) HX.out
    have hI : ∀ w0 g, RowV w0 g (svl l) → ArrU w0 0 keys → 0 < w0.heap.size → Calls Tryd.prog 13 #[.string leaf, .int .i64 i, .int .i64 k, .slice (some ⟨g, 0, none⟩) n n, .string root] w0 fun e w' => e = .returned (.bool (incB leaf i k l root)) ∧ Below w0.heap.size w0 w' := fun w0 g hg k1 k2 => HI leaf root i k _ n n l w0 hn (Nat.le_refl _) hg.sa hl ht (by omega) HX.out hi hj k1 k2
    have hE : ∀ w0 g1 g2, RowV w0 g1 (svl l) → RowV w0 g2 (svl l) → Calls Tryd.prog 11 #[.slice (some ⟨g1, 0, none⟩) n n, .slice (some ⟨g2, 0, none⟩) n n] w0 fun e w' => e = .returned (.bool true) ∧ Below w0.heap.size w0 w' := fun w0 g1 g2 k1 k2 => by
      have := eqS_any (some ⟨g1, 0, none⟩) (some ⟨g2, 0, none⟩) n n l l w0 k1.sa k2.sa (by omega) (by omega)
      rw [hn, decide_eq_true rfl] at this
      exact this
    have hnn : l.length = n := hn
    generalize incB leaf i k l root = T at *
    generalize roomL l = q at *
    have t1 : (T != T) = false := by cases T <;> rfl
    clear h hk hx hSz HI hn hM
    go_enter Tryd.func4, Tryd.ntmps4
    go_wp2_with (first
      | (go_at_call 6; refine Calls.mono HSz.out ?_; rintro e w' ⟨rfl, rfl⟩)
      | (go_at_call 8; with_reducible refine (hTo w HA.out).mono ?_; rintro e w1 ⟨rfl, hA1, hB1, hz1⟩)
      | (go_at_call 12; with_reducible refine (hS w1 _ hA1).mono ?_; rintro e w2 ⟨rfl, hB2⟩; have b02 : Below w.heap.size w w2 := hB1.trans (hB2.mono (by omega)); have z2 := hB2.size)
      | (go_at_call 8; with_reducible refine (hTo w2 (HA.out.below b02)).mono ?_; rintro e w3 ⟨rfl, hA3, hB3, hz3⟩; have b03 : Below w.heap.size w w3 := b02.trans (hB3.mono (by omega)))
      | (go_at_call 13; with_reducible refine (hI w3 _ hA3 (HK.out.below b03 h0) (by omega)).mono ?_; rintro e w4 ⟨rfl, hB4⟩; have b04 : Below w.heap.size w w4 := b03.trans (hB4.mono (by omega)); have z4 := hB4.size; have A4 := hA3.below hB4 (by omega))
      | (go_at_call 8; with_reducible refine (hTo w4 (HA.out.below b04)).mono ?_; rintro e w5 ⟨rfl, hA5, hB5, hz5⟩; have b05 : Below w.heap.size w w5 := b04.trans (hB5.mono (by omega)); have A5 := A4.below hB5 (by omega))
      | (go_at_call 11; with_reducible refine (hE w5 _ _ A5 hA5).mono ?_; rintro e w6 ⟨rfl, hB6⟩))
    go_ret
    exact ⟨rfl, b05.trans (hB6.mono (by omega))⟩
  · have hr' : roomL l < 0 := by omega
    generalize roomL l = q at *
    clear h hk hx hSz HI hn hM
    go_enter Tryd.func4, Tryd.ntmps4
    go_wp2_with (first
      | (go_at_call 6; refine Calls.mono HSz.out ?_; rintro e w' ⟨rfl, rfl⟩))
    go_ret
    exact ⟨rfl, Below.refl _ _⟩
set_option maxRecDepth 100000 in
set_option maxHeartbeats 1000000 in
theorem lawConC (HI : ConI) (i k : Int) (a : Option Addr) (c n : Nat) (l : List ByteArray) (old root : ByteArray) (w : World) (hi : (Lit.int .i64 i).wf = true) (hj : (Lit.int .i64 k).wf = true) (hn : l.length = n) (h : SA w a l) (hM : n ≤ maxLen) (hx : ∀ x ∈ l, x.size ≤ maxLen) (hl : old.size ≤ maxLen) (ht : root.size ≤ maxLen) (hk : ArrU w 0 keys) (h0 : 0 < w.heap.size) :
    Calls Tryd.prog 5 #[.int .i64 i, .int .i64 k, .slice a n c, .string old, .string root] w fun e w' => e = .returned (.bool true) ∧ Below w.heap.size w w' := by
  have hl' := hl
  have ht' := ht
  unfold maxLen at hl' ht'
  by_cases hb1 : 1048576 < old.size
  · clear HI h hx hk
    go_enter Tryd.func5, Tryd.ntmps5
    go_wp2
    go_ret
    exact ⟨rfl, Below.refl _ _⟩
  by_cases hb2 : 1048576 < root.size
  · clear HI h hx hk
    go_enter Tryd.func5, Tryd.ntmps5
    go_wp2
    go_ret
    exact ⟨rfl, Below.refl _ _⟩
  have HA : Hid (SA w a l) := h
  have HK : Hid (ArrU w 0 keys) := hk
  have HX : Hid (∀ x ∈ l, x.size ≤ maxLen) := hx
  have hSz : Calls Tryd.prog 6 #[.slice a n c, .int .i64 1048576] w fun e w' => e = .returned (.int .i64 (roomL l)) ∧ w = w' := (szS_any a c n l w hn h hM hx).mono fun e w' h => ⟨h.1, h.2.symm⟩
  have HSz : Hid _ := hSz
  by_cases hr : 0 ≤ roomL l
  · have hbd := (roomL_bd hr).1
    have hTo : ∀ w0, SA w0 a l → Calls Tryd.prog 8 #[.slice a n c] w0 fun e w' => e = .returned (.slice (some ⟨w0.heap.size, 0, none⟩) n n) ∧ RowV w' w0.heap.size (svl l) ∧ Below w0.heap.size w0 w' ∧ w0.heap.size < w'.heap.size := fun w0 h0 => toS_row a c n l w0 hn h0 (by omega)
    have hS : ∀ w0 g, RowV w0 g (svl l) → Calls Tryd.prog 14 #[.int .i64 i, .int .i64 k, .slice (some ⟨g, 0, none⟩) n n, .string old, .string root] w0 fun e w' => e = .returned (.bool (conB i k l old root)) ∧ Below w0.heap.size w0 w' := fun w0 g hg => specCon old root i k g 0 n n l w0 hn hg.sa hl ht (by omega) HX.out
    have hI : ∀ w0 g, RowV w0 g (svl l) → ArrU w0 0 keys → 0 < w0.heap.size → Calls Tryd.prog 15 #[.int .i64 i, .int .i64 k, .slice (some ⟨g, 0, none⟩) n n, .string old, .string root] w0 fun e w' => e = .returned (.bool (conB i k l old root)) ∧ Below w0.heap.size w0 w' := fun w0 g hg k1 k2 => HI old root i k g 0 n n l w0 hn (Nat.le_refl _) hg.sa hl ht (by omega) HX.out hi hj k1 k2
    have hE : ∀ w0 g1 g2, RowV w0 g1 (svl l) → RowV w0 g2 (svl l) → Calls Tryd.prog 11 #[.slice (some ⟨g1, 0, none⟩) n n, .slice (some ⟨g2, 0, none⟩) n n] w0 fun e w' => e = .returned (.bool true) ∧ Below w0.heap.size w0 w' := fun w0 g1 g2 k1 k2 => by
      have := eqS_any (some ⟨g1, 0, none⟩) (some ⟨g2, 0, none⟩) n n l l w0 k1.sa k2.sa (by omega) (by omega)
      rw [hn, decide_eq_true rfl] at this
      exact this
    have hnn : l.length = n := hn
    generalize conB i k l old root = T at *
    generalize roomL l = q at *
    have t1 : (T != T) = false := by cases T <;> rfl
    clear h hk hx hSz HI hn hM
    go_enter Tryd.func5, Tryd.ntmps5
    go_wp2_with (first
      | (go_at_call 6; refine Calls.mono HSz.out ?_; rintro e w' ⟨rfl, rfl⟩)
      | (go_at_call 8; with_reducible refine (hTo w HA.out).mono ?_; rintro e w1 ⟨rfl, hA1, hB1, hz1⟩)
      | (go_at_call 14; with_reducible refine (hS w1 _ hA1).mono ?_; rintro e w2 ⟨rfl, hB2⟩; have b02 : Below w.heap.size w w2 := hB1.trans (hB2.mono (by omega)); have z2 := hB2.size)
      | (go_at_call 8; with_reducible refine (hTo w2 (HA.out.below b02)).mono ?_; rintro e w3 ⟨rfl, hA3, hB3, hz3⟩; have b03 : Below w.heap.size w w3 := b02.trans (hB3.mono (by omega)))
      | (go_at_call 15; with_reducible refine (hI w3 _ hA3 (HK.out.below b03 h0) (by omega)).mono ?_; rintro e w4 ⟨rfl, hB4⟩; have b04 : Below w.heap.size w w4 := b03.trans (hB4.mono (by omega)); have z4 := hB4.size; have A4 := hA3.below hB4 (by omega))
      | (go_at_call 8; with_reducible refine (hTo w4 (HA.out.below b04)).mono ?_; rintro e w5 ⟨rfl, hA5, hB5, hz5⟩; have b05 : Below w.heap.size w w5 := b04.trans (hB5.mono (by omega)); have A5 := A4.below hB5 (by omega))
      | (go_at_call 11; with_reducible refine (hE w5 _ _ A5 hA5).mono ?_; rintro e w6 ⟨rfl, hB6⟩))
    go_ret
    exact ⟨rfl, b05.trans (hB6.mono (by omega))⟩
  · have hr' : roomL l < 0 := by omega
    generalize roomL l = q at *
    clear h hk hx hSz HI hn hM
    go_enter Tryd.func5, Tryd.ntmps5
    go_wp2_with (first
      | (go_at_call 6; refine Calls.mono HSz.out ?_; rintro e w' ⟨rfl, rfl⟩))
    go_ret
    exact ⟨rfl, Below.refl _ _⟩
end Go.Proofs.YtdfglpbappeoaaaDoor
