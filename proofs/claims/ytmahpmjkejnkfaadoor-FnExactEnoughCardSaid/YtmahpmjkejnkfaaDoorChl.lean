/- The challenge on both sides: one number. -/
import Derived.Test.YtmahpmjkejnkfaaDoorDn
import Derived.Test.YtmahpmjkejnkfaaDoorPutZ
import Derived.Test.YtmahpmjkejnkfaaDoorGrp
namespace Go.Proofs.YtmahpmjkejnkfaaDoor
open Go.RowKit
set_option linter.unusedVariables false

def chT (r k : Int) (t : ByteArray) : ByteArray := putS r ++ putS k ++ t
def chM (r k : Int) (t : ByteArray) : Int := num7 (chT r k t) % 1073741789
theorem chT_size (r k : Int) (t : ByteArray) : (chT r k t).size ≤ t.size + 20 := by
  unfold chT
  have h1 := putS_size r
  have h2 := putS_size k
  rw [ByteArray.size_append, ByteArray.size_append]
  omega
theorem chM_bd (r k : Int) (t : ByteArray) : 0 ≤ chM r k t ∧ chM r k t < 1073741789 := by unfold chM; omega

set_option maxRecDepth 100000 in
set_option maxHeartbeats 1000000 in
theorem specChal (r k : Int) (t : ByteArray) (w : World) (hr : I64 r) (hk : I64 k) (ht : t.size ≤ 1000000) :
    Calls Tryd.prog 49 #[.int .i64 r, .int .i64 k, .string t] w fun e w' => e = .returned (.int .i64 (chM r k t)) ∧ Below w.heap.size w w' := by
  have hP1 : ∀ w0, Calls Tryd.prog 47 #[.int .i64 r] w0 fun e w' => e = .returned (.string (putS r)) ∧ Below w0.heap.size w0 w' := fun w0 => specPut r w0 hr
  have hP2 : ∀ w0, Calls Tryd.prog 47 #[.int .i64 k] w0 fun e w' => e = .returned (.string (putS k)) ∧ Below w0.heap.size w0 w' := fun w0 => specPut k w0 hk
  have hN : ∀ w0, Calls Tryd.prog 46 #[.string (chT r k t)] w0 fun e w' => e = .returned (.int .i64 (num7 (chT r k t))) ∧ Below w0.heap.size w0 w' := fun w0 => specNum _ w0 (by have := chT_size r k t; omega)
  have s1 := putS_size r
  have s2 := putS_size k
  have s3 := chT_size r k t
  have hb := num7_bd (chT r k t)
  have HC : Hid (num7 (chT r k t) % 1073741789 = chM r k t) := rfl
  obtain ⟨C, hC⟩ : ∃ C, putS r ++ putS k = C := ⟨_, rfl⟩
  have hT : C ++ t = chT r k t := by rw [← hC]; rfl
  have s4 : C.size ≤ 20 := by rw [← hC, ByteArray.size_append]; omega
  generalize chM r k t = M at *
  generalize num7 (chT r k t) = V at *
  generalize chT r k t = T at *
  generalize putS r = A at *
  generalize putS k = B at *
  go_enter Tryd.func49, Tryd.ntmps49
  go_wp2_with (first
    | (go_at_call 47; with_reducible refine (hP1 w).mono ?_; rintro e w1 ⟨rfl, hB1⟩)
    | (go_at_call 47; with_reducible refine (hP2 w1).mono ?_; rintro e w2 ⟨rfl, hB2⟩)
    | (go_at_call 46; refine (hN w2).mono ?_; rintro e w3 ⟨rfl, hB3⟩))
  go_ret
  exact ⟨retN HC.out, (hB1.trans (hB2.mono hB1.size)).trans (hB3.mono (Nat.le_trans hB1.size hB2.size))⟩
set_option maxRecDepth 100000 in
set_option maxHeartbeats 1000000 in
theorem implChal (r k : Int) (t : ByteArray) (w : World) (hr : InG r) (hk : InG k) (ht : t.size ≤ 19980) (ha : ArrU w 0 keys) (h0 : 0 < w.heap.size) :
    Calls Tryd.prog 67 #[.int .i64 r, .int .i64 k, .string t] w fun e w' => e = .returned (.int .i64 (chM r k t)) ∧ Below w.heap.size w w' := by
  have hU1 : ∀ w0, Calls Tryd.prog 57 #[.int .i64 r] w0 fun e w' => e = .returned (.bool true) ∧ w0 = w' := fun w0 => (unitR_yes r w0 hr.1 hr.2).mono fun e w' h => ⟨h.1, h.2.symm⟩
  have hU2 : ∀ w0, Calls Tryd.prog 57 #[.int .i64 k] w0 fun e w' => e = .returned (.bool true) ∧ w0 = w' := fun w0 => (unitR_yes k w0 hk.1 hk.2).mono fun e w' h => ⟨h.1, h.2.symm⟩
  have hP1 : ∀ w0, Calls Tryd.prog 69 #[.int .i64 r] w0 fun e w' => e = .returned (.string (putS r)) ∧ Below w0.heap.size w0 w' := fun w0 => implPut r w0 (i64_of (by have := hr.1; omega) (by have := hr.2; omega))
  have hP2 : ∀ w0, Calls Tryd.prog 69 #[.int .i64 k] w0 fun e w' => e = .returned (.string (putS k)) ∧ Below w0.heap.size w0 w' := fun w0 => implPut k w0 (i64_of (by have := hk.1; omega) (by have := hk.2; omega))
  have hN : ∀ w0, ArrU w0 0 keys → 0 < w0.heap.size → Calls Tryd.prog 68 #[.string (chT r k t)] w0 fun e w' => e = .returned (.int .i64 (num7 (chT r k t))) ∧ Below w0.heap.size w0 w' := fun w0 k1 k2 => implNum _ w0 (by have := chT_size r k t; omega) k1 k2
  have HK : Hid (ArrU w 0 keys) := ha
  have s1 := putS_size r
  have s2 := putS_size k
  have s3 := chT_size r k t
  have hb := num7_bd (chT r k t)
  have HC : Hid (num7 (chT r k t) % 1073741789 = chM r k t) := rfl
  obtain ⟨C, hC⟩ : ∃ C, putS r ++ putS k = C := ⟨_, rfl⟩
  have hT : C ++ t = chT r k t := by rw [← hC]; rfl
  have s4 : C.size ≤ 20 := by rw [← hC, ByteArray.size_append]; omega
  generalize chM r k t = M at *
  generalize num7 (chT r k t) = V at *
  generalize chT r k t = T at *
  generalize putS r = A at *
  generalize putS k = B at *
  clear ha
  go_enter Tryd.func67, Tryd.ntmps67
  go_wp2_with (first
    | (go_at_call 57; with_reducible refine (hU1 w).mono ?_; rintro e w' ⟨rfl, rfl⟩)
    | (go_at_call 57; with_reducible refine (hU2 w).mono ?_; rintro e w' ⟨rfl, rfl⟩)
    | (go_at_call 69; with_reducible refine (hP1 w).mono ?_; rintro e w1 ⟨rfl, hB1⟩)
    | (go_at_call 69; with_reducible refine (hP2 w1).mono ?_; rintro e w2 ⟨rfl, hB2⟩; have b02 : Below w.heap.size w w2 := hB1.trans (hB2.mono hB1.size); have z2 := b02.size)
    | (go_at_call 68; refine (hN w2 (HK.out.below b02 h0) (by omega)).mono ?_; rintro e w3 ⟨rfl, hB3⟩))
  go_ret
  exact ⟨retN HC.out, b02.trans (hB3.mono z2)⟩
end Go.Proofs.YtmahpmjkejnkfaaDoor
