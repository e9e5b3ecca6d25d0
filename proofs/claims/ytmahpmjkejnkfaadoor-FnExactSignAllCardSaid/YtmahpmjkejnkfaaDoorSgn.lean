/- SignText on the specification's side: the Sig of a secret and a text. -/
import Derived.Test.YtmahpmjkejnkfaaDoorChl
import Derived.Test.YtmahpmjkejnkfaaDoorSigR
import Derived.Test.YtmahpmjkejnkfaaDoorOrd
namespace Go.Proofs.YtmahpmjkejnkfaaDoor
open Go.RowKit
set_option linter.unusedVariables false

def kT (x : Int) (t : ByteArray) : ByteArray := ⟨#[75]⟩ ++ putS x ++ t
def kM (x : Int) (t : ByteArray) : Int := 1 + num7 (kT x t) % 1073741788
def eM (x : Int) (t : ByteArray) : Int := chM (powM 4 (kM x t) 2147483579) (powM 4 x 2147483579) t
def sM (x : Int) (t : ByteArray) : Int := (kM x t + eM x t * x % 1073741789) % 1073741789
theorem kM_bd (x : Int) (t : ByteArray) : 1 ≤ kM x t ∧ kM x t < 1073741789 := by unfold kM; omega
theorem eM_bd (x : Int) (t : ByteArray) : 0 ≤ eM x t ∧ eM x t < 1073741789 := chM_bd _ _ _
theorem sM_bd (x : Int) (t : ByteArray) : 0 ≤ sM x t ∧ sM x t < 1073741789 := by unfold sM; omega
theorem kT_size (x : Int) (t : ByteArray) : (kT x t).size ≤ t.size + 11 := by
  unfold kT
  have h1 := putS_size x
  rw [ByteArray.size_append, ByteArray.size_append]
  have : (⟨#[75]⟩ : ByteArray).size = 1 := rfl
  omega
theorem prod_sec {e x : Int} (h1 : 0 ≤ e) (h2 : e < 1073741789) (h3 : IsSec x) : 0 ≤ e * x ∧ e * x ≤ 1152921428371178732 := by
  refine ⟨Int.mul_nonneg h1 (by have := h3.1; omega), ?_⟩
  have := Int.mul_le_mul (show e ≤ 1073741788 by omega) (show x ≤ 1073741789 by have := h3.2; omega) (by have := h3.1; omega) (by omega : (0 : Int) ≤ 1073741788)
  omega

set_option maxRecDepth 100000 in
set_option maxHeartbeats 1000000 in
theorem specSign (x : Int) (t : ByteArray) (w : World) (hx : I64 x) (hs : IsSec x) (ht : t.size ≤ 19980) :
    Calls Tryd.prog 32 #[.int .i64 x, .string t] w fun r w' => r = .returned (SVal (powM 4 x 2147483579) (eM x t) (sM x t)) ∧ Below w.heap.size w w' := by
  have hS : ∀ w0, Calls Tryd.prog 31 #[.int .i64 x] w0 fun e w' => e = .returned (.bool true) ∧ w0 = w' := fun w0 => (specSec x w0 hx).mono fun e w' h => ⟨by rw [h.1, secB_yes hs], h.2.symm⟩
  have hP : ∀ w0, Calls Tryd.prog 47 #[.int .i64 x] w0 fun e w' => e = .returned (.string (putS x)) ∧ Below w0.heap.size w0 w' := fun w0 => specPut x w0 hx
  have hN : ∀ w0, Calls Tryd.prog 46 #[.string (kT x t)] w0 fun e w' => e = .returned (.int .i64 (num7 (kT x t))) ∧ Below w0.heap.size w0 w' := fun w0 => specNum _ w0 (by have := kT_size x t; omega)
  have hb := num7_bd (kT x t)
  have kb := kM_bd x t
  have eb := eM_bd x t
  have hK : ∀ w0, Calls Tryd.prog 48 #[.int .i64 x] w0 fun e w' => e = .returned (.int .i64 (powM 4 x 2147483579)) ∧ w0 = w' := fun w0 => (specPub x w0 hx).mono fun e w' h => ⟨by rw [h.1, show pubM x = _ from if_pos hs], h.2.symm⟩
  have hW : ∀ w0, Calls Tryd.prog 50 #[.int .i64 4, .int .i64 (kM x t), .int .i64 2147483579] w0 fun e w' => e = .returned (.int .i64 (powM 4 (kM x t) 2147483579)) ∧ w0 = w' := fun w0 => (specPow0 4 (kM x t) 2147483579 w0 (i64_of (by omega) (by omega)) (i64_of (by omega) (by omega)) (by omega) (by omega) (by omega) (by omega)).mono fun e w' h => ⟨h.1, h.2.symm⟩
  have p1 : powM 4 (kM x t) 2147483579 < 2147483579 := powM_lt
  have p2 : powM 4 x 2147483579 < 2147483579 := powM_lt
  have p3 : 0 ≤ powM 4 (kM x t) 2147483579 := powM_ge
  have p4 : 0 ≤ powM 4 x 2147483579 := powM_ge
  have hC : ∀ w0, Calls Tryd.prog 49 #[.int .i64 (powM 4 (kM x t) 2147483579), .int .i64 (powM 4 x 2147483579), .string t] w0 fun e w' => e = .returned (.int .i64 (eM x t)) ∧ Below w0.heap.size w0 w' := fun w0 => specChal _ _ t w0 (i64_of (by omega) (by omega)) (i64_of (by omega) (by omega)) (by omega)
  have HK : Hid (1 + num7 (kT x t) % 1073741788 = kM x t) := rfl
  have HS : Hid ((kM x t + eM x t * x % 1073741789) % 1073741789 = sM x t) := rfl
  obtain ⟨pr0, pr1⟩ := prod_sec eb.1 eb.2 hs
  obtain ⟨z, hz⟩ : ∃ z, eM x t * x = z := ⟨_, rfl⟩
  have s1 := putS_size x
  have s3 := kT_size x t
  obtain ⟨C, hCc⟩ : ∃ C, (⟨#[75]⟩ : ByteArray) ++ putS x = C := ⟨_, rfl⟩
  have hT : C ++ t = kT x t := by rw [← hCc]; rfl
  have s4 : C.size ≤ 11 := by rw [← hCc, ByteArray.size_append]; have : (⟨#[75]⟩ : ByteArray).size = 1 := rfl; omega
  have eK : 1 + num7 (kT x t) % 1073741788 = kM x t := HK.out
  have eS : (kM x t + z % 1073741789) % 1073741789 = sM x t := by rw [← hz]; exact HS.out
  rw [hz] at pr0 pr1
  clear HK HS
  generalize sM x t = S at *
  generalize eM x t = E at *
  generalize powM 4 (kM x t) 2147483579 = R at *
  generalize powM 4 x 2147483579 = Y at *
  generalize kM x t = K at *
  generalize num7 (kT x t) = V at *
  generalize kT x t = T at *
  generalize putS x = A at *
  go_enter Tryd.func32, Tryd.ntmps32
  go_wp2_with (first
    | (with_reducible refine wpList_allocV (w := w) (by with_unfolding_all rfl) 57 (by with_unfolding_all rfl) (svs 0 0 0) Tryd.infoS ?_; intro w1 hA1 hB1 hS1)
    | (go_at_call 31; with_reducible refine (hS _).mono ?_; rintro e w' ⟨rfl, rfl⟩)
    | (go_at_call 47; with_reducible refine (hP w1).mono ?_; rintro e w2 ⟨rfl, hB2⟩)
    | (go_at_call 46; refine (hN w2).mono ?_; rintro e w3 ⟨rfl, hB3⟩)
    | (go_at_call 48; with_reducible refine (hK _).mono ?_; rintro e w' ⟨rfl, rfl⟩)
    | (go_at_call 50; refine (hW _).mono ?_; rintro e w' ⟨rfl, rfl⟩)
    | (go_at_call 49; refine (hC w3).mono ?_; rintro e w4 ⟨rfl, hB4⟩; have b14 : Below w1.heap.size w1 w4 := (hB2.trans (hB3.mono hB2.size)).trans (hB4.mono (Nat.le_trans hB2.size hB3.size)); have V4 := hA1.below b14 (by omega))
    | (with_reducible refine wpList_storeV (w := w4) (by with_unfolding_all rfl) 57 (.tmp 4) (.tmp 41) (by with_unfolding_all rfl) w.heap.size (svs 0 0 0) (svs Y E S) (by with_unfolding_all rfl) (by with_unfolding_all rfl) V4 3 Tryd.sizeS (by with_unfolding_all rfl) (by with_unfolding_all rfl) (svs_one _ _ _) ?_; intro w5 hA5 hB5 hF5 hS5))
  exact bodyPost_ret (results_V (t := 57) rfl _ w.heap.size _ rfl hA5 Tryd.undS 3 Tryd.sizeS rfl) rfl ⟨rfl, (hB1.trans (b14.mono (by omega))).trans (hB5 _ (Nat.le_refl _))⟩

set_option maxRecDepth 100000 in
set_option maxHeartbeats 1000000 in
theorem specSign0 (x : Int) (t : ByteArray) (w : World) (hx : I64 x) (hs : ¬ IsSec x) (ht : t.size ≤ 19980) :
    Calls Tryd.prog 32 #[.int .i64 x, .string t] w fun r w' => r = .returned (SVal 0 0 0) ∧ Below w.heap.size w w' := by
  have hS : ∀ w0, Calls Tryd.prog 31 #[.int .i64 x] w0 fun e w' => e = .returned (.bool false) ∧ w0 = w' := fun w0 => (specSec x w0 hx).mono fun e w' h => ⟨by rw [h.1, secB_no hs], h.2.symm⟩
  clear hs
  go_enter Tryd.func32, Tryd.ntmps32
  go_wp2_with (first
    | (with_reducible refine wpList_allocV (w := w) (by with_unfolding_all rfl) 57 (by with_unfolding_all rfl) (svs 0 0 0) Tryd.infoS ?_; intro w1 hA1 hB1 hS1)
    | (go_at_call 31; with_reducible refine (hS _).mono ?_; rintro e w' ⟨rfl, rfl⟩)
    | (with_reducible refine wpList_storeV (w := w1) (by with_unfolding_all rfl) 57 (.tmp 4) (.tmp 16) (by with_unfolding_all rfl) w.heap.size (svs 0 0 0) (svs 0 0 0) (by with_unfolding_all rfl) (by with_unfolding_all rfl) hA1 3 Tryd.sizeS (by with_unfolding_all rfl) (by with_unfolding_all rfl) (svs_one _ _ _) ?_; intro w5 hA5 hB5 hF5 hS5))
  exact bodyPost_ret (results_V (t := 57) rfl _ w.heap.size _ rfl hA5 Tryd.undS 3 Tryd.sizeS rfl) rfl ⟨rfl, hB1.trans (hB5 _ (Nat.le_refl _))⟩
set_option maxRecDepth 100000 in
set_option maxHeartbeats 1000000 in
theorem implSign0 (x : Int) (t : ByteArray) (w : World) (hx : I64 x) (hs : ¬ IsSec x) (ht : t.size ≤ 19980) :
    Calls Tryd.prog 35 #[.int .i64 x, .string t] w fun r w' => r = .returned (SVal 0 0 0) ∧ Below w.heap.size w w' := by
  have hS : ∀ w0, Calls Tryd.prog 51 #[.int .i64 x] w0 fun e w' => e = .returned (.bool false) ∧ w0 = w' := fun w0 => (implSec x w0 hx).mono fun e w' h => ⟨by rw [h.1, secB_no hs], h.2.symm⟩
  clear hs
  go_enter Tryd.func35, Tryd.ntmps35
  go_wp2_with (first
    | (with_reducible refine wpList_allocV (w := w) (by with_unfolding_all rfl) 57 (by with_unfolding_all rfl) (svs 0 0 0) Tryd.infoS ?_; intro w1 hA1 hB1 hS1)
    | (go_at_call 51; with_reducible refine (hS _).mono ?_; rintro e w' ⟨rfl, rfl⟩)
    | (with_reducible refine wpList_storeV (w := w1) (by with_unfolding_all rfl) 57 (.tmp 4) (.tmp 16) (by with_unfolding_all rfl) w.heap.size (svs 0 0 0) (svs 0 0 0) (by with_unfolding_all rfl) (by with_unfolding_all rfl) hA1 3 Tryd.sizeS (by with_unfolding_all rfl) (by with_unfolding_all rfl) (svs_one _ _ _) ?_; intro w5 hA5 hB5 hF5 hS5))
  exact bodyPost_ret (results_V (t := 57) rfl _ w.heap.size _ rfl hA5 Tryd.undS 3 Tryd.sizeS rfl) rfl ⟨rfl, hB1.trans (hB5 _ (Nat.le_refl _))⟩
end Go.Proofs.YtmahpmjkejnkfaaDoor
