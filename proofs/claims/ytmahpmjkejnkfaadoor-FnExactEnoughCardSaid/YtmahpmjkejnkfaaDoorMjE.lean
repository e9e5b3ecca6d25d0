/- SignText on the specification's side: the Sig of a secret and a text. SignText on the program's side: the one-time secret, the challenge as a method value, the answer to it. SigCheck on both sides, of every Sig and every text that is not too long: the same; what a secret has signed passes. SigCheck on the program's side, of every Sig and every text that is not too long; what a secret has signed passes. -/
import Derived.Test.YtmahpmjkejnkfaaDoorChl
import Derived.Test.YtmahpmjkejnkfaaDoorSigR
import Derived.Test.YtmahpmjkejnkfaaDoorOrd
import Derived.Deep.RegionHeld3
namespace Go.Proofs.YtmahpmjkejnkfaaDoor
open Go.RowKit
set_option linter.unusedVariables false

def kT (x : Int) (t : ByteArray) : ByteArray := ⟨#[75]⟩ ++ putS x ++ t
def kM (x : Int) (t : ByteArray) : Int := 1 + num7 (kT x t) % 1073741788
def eM (x : Int) (t : ByteArray) : Int := chM (powM 4 (kM x t) 2147483579) (powM 4 x 2147483579) t
def sM (x : Int) (t : ByteArray) : Int := (kM x t + eM x t * x % 1073741789) % 1073741789
theorem kM_bd (x : Int) (t : ByteArray) : 1 ≤ kM x t ∧ kM x t < 1073741789 := by unfold kM; omega
theorem eM_bd (x : Int) (t : ByteArray) : 0 ≤ eM x t ∧ eM x t < 1073741789 := chM_bd _ _ _
theorem sM_bd (x : Int) (t : ByteArray) : 0 ≤ sM x t ∧ sM x t < 1073741789 := by unfold sM; omega
theorem kT_size (x : Int) (t : ByteArray) : (kT x t).size ≤ t.size + 11 := by
  unfold kT
  have h1 := putS_size x
  rw [ByteArray.size_append, ByteArray.size_append]
  have : (⟨#[75]⟩ : ByteArray).size = 1 := rfl
  omega
theorem prod_sec {e x : Int} (h1 : 0 ≤ e) (h2 : e < 1073741789) (h3 : IsSec x) : 0 ≤ e * x ∧ e * x ≤ 1152921428371178732 := by
  refine ⟨Int.mul_nonneg h1 (by have := h3.1; omega), ?_⟩
  have := Int.mul_le_mul (show e ≤ 1073741788 by omega) (show x ≤ 1073741789 by have := h3.2; omega) (by have := h3.1; omega) (by omega : (0 : Int) ≤ 1073741788)
  omega

set_option maxRecDepth 100000 in
set_option maxHeartbeats 1000000 in
theorem specSign (x : Int) (t : ByteArray) (w : World) (hx : I64 x) (hs : IsSec x) (ht : t.size ≤ 19980) :
    Calls Tryd.prog 32 #[.int .i64 x, .string t] w fun r w' => r = .returned (SVal (powM 4 x 2147483579) (eM x t) (sM x t)) ∧ Below w.heap.size w w' := by
  have hS : ∀ w0, Calls Tryd.prog 31 #[.int .i64 x] w0 fun e w' => e = .returned (.bool true) ∧ w0 = w' := fun w0 => (specSec x w0 hx).mono fun e w' h => ⟨by rw [h.1, secB_yes hs], h.2.symm⟩
  have hP : ∀ w0, Calls Tryd.prog 47 #[.int .i64 x] w0 fun e w' => e = .returned (.string (putS x)) ∧ Below w0.heap.size w0 w' := fun w0 => specPut x w0 hx
  have hN : ∀ w0, Calls Tryd.prog 46 #[.string (kT x t)] w0 fun e w' => e = .returned (.int .i64 (num7 (kT x t))) ∧ Below w0.heap.size w0 w' := fun w0 => specNum _ w0 (by have := kT_size x t; omega)
  have hb := num7_bd (kT x t)
  have kb := kM_bd x t
  have eb := eM_bd x t
  have hK : ∀ w0, Calls Tryd.prog 48 #[.int .i64 x] w0 fun e w' => e = .returned (.int .i64 (powM 4 x 2147483579)) ∧ w0 = w' := fun w0 => (specPub x w0 hx).mono fun e w' h => ⟨by rw [h.1, show pubM x = _ from if_pos hs], h.2.symm⟩
  have hW : ∀ w0, Calls Tryd.prog 50 #[.int .i64 4, .int .i64 (kM x t), .int .i64 2147483579] w0 fun e w' => e = .returned (.int .i64 (powM 4 (kM x t) 2147483579)) ∧ w0 = w' := fun w0 => (specPow0 4 (kM x t) 2147483579 w0 (i64_of (by omega) (by omega)) (i64_of (by omega) (by omega)) (by omega) (by omega) (by omega) (by omega)).mono fun e w' h => ⟨h.1, h.2.symm⟩
  have p1 : powM 4 (kM x t) 2147483579 < 2147483579 := powM_lt
  have p2 : powM 4 x 2147483579 < 2147483579 := powM_lt
  have p3 : 0 ≤ powM 4 (kM x t) 2147483579 := powM_ge
  have p4 : 0 ≤ powM 4 x 2147483579 := powM_ge
  have hC : ∀ w0, Calls Tryd.prog 49 #[.int .i64 (powM 4 (kM x t) 2147483579), .int .i64 (powM 4 x 2147483579), .string t] w0 fun e w' => e = .returned (.int .i64 (eM x t)) ∧ Below w0.heap.size w0 w' := fun w0 => specChal _ _ t w0 (i64_of (by omega) (by omega)) (i64_of (by omega) (by omega)) (by omega)
  have HK : Hid (1 + num7 (kT x t) % 1073741788 = kM x t) := rfl
  have HS : Hid ((kM x t + eM x t * x % 1073741789) % 1073741789 = sM x t) := rfl
  obtain ⟨pr0, pr1⟩ := prod_sec eb.1 eb.2 hs
  obtain ⟨z, hz⟩ : ∃ z, eM x t * x = z := ⟨_, rfl⟩
  have s1 := putS_size x
  have s3 := kT_size x t
  obtain ⟨C, hCc⟩ : ∃ C, (⟨#[75]⟩ : ByteArray) ++ putS x = C := ⟨_, rfl⟩
  have hT : C ++ t = kT x t := by rw [← hCc]; rfl
  have s4 : C.size ≤ 11 := by rw [← hCc, ByteArray.size_append]; have : (⟨#[75]⟩ : ByteArray).size = 1 := rfl; omega
  have eK : 1 + num7 (kT x t) % 1073741788 = kM x t := HK.out
  have eS : (kM x t + z % 1073741789) % 1073741789 = sM x t := by rw [← hz]; exact HS.out
  rw [hz] at pr0 pr1
  clear HK HS
  generalize sM x t = S at *
  generalize eM x t = E at *
  generalize powM 4 (kM x t) 2147483579 = R at *
  generalize powM 4 x 2147483579 = Y at *
  generalize kM x t = K at *
  generalize num7 (kT x t) = V at *
  generalize kT x t = T at *
  generalize putS x = A at *
  go_enter Tryd.func32, Tryd.ntmps32
  go_wp2_with (first
    | (with_reducible refine wpList_allocV (w := w) (by with_unfolding_all rfl) 57 (by with_unfolding_all rfl) (svs 0 0 0) Tryd.infoS ?_; intro w1 hA1 hB1 hS1)
    | (go_at_call 31; with_reducible refine (hS _).mono ?_; rintro e w' ⟨rfl, rfl⟩)
    | (go_at_call 47; with_reducible refine (hP w1).mono ?_; rintro e w2 ⟨rfl, hB2⟩)
    | (go_at_call 46; refine (hN w2).mono ?_; rintro e w3 ⟨rfl, hB3⟩)
    | (go_at_call 48; with_reducible refine (hK _).mono ?_; rintro e w' ⟨rfl, rfl⟩)
    | (go_at_call 50; refine (hW _).mono ?_; rintro e w' ⟨rfl, rfl⟩)
    | (go_at_call 49; refine (hC w3).mono ?_; rintro e w4 ⟨rfl, hB4⟩; have b14 : Below w1.heap.size w1 w4 := (hB2.trans (hB3.mono hB2.size)).trans (hB4.mono (Nat.le_trans hB2.size hB3.size)); have V4 := hA1.below b14 (by omega))
    | (with_reducible refine wpList_storeV (w := w4) (by with_unfolding_all rfl) 57 (.tmp 4) (.tmp 41) (by with_unfolding_all rfl) w.heap.size (svs 0 0 0) (svs Y E S) (by with_unfolding_all rfl) (by with_unfolding_all rfl) V4 3 Tryd.sizeS (by with_unfolding_all rfl) (by with_unfolding_all rfl) (svs_one _ _ _) ?_; intro w5 hA5 hB5 hF5 hS5))
  exact bodyPost_ret (results_V (t := 57) rfl _ w.heap.size _ rfl hA5 Tryd.undS 3 Tryd.sizeS rfl) rfl ⟨rfl, (hB1.trans (b14.mono (by omega))).trans (hB5 _ (Nat.le_refl _))⟩

set_option maxRecDepth 100000 in
set_option maxHeartbeats 1000000 in
theorem specSign0 (x : Int) (t : ByteArray) (w : World) (hx : I64 x) (hs : ¬ IsSec x) (ht : t.size ≤ 19980) :
    Calls Tryd.prog 32 #[.int .i64 x, .string t] w fun r w' => r = .returned (SVal 0 0 0) ∧ Below w.heap.size w w' := by
  have hS : ∀ w0, Calls Tryd.prog 31 #[.int .i64 x] w0 fun e w' => e = .returned (.bool false) ∧ w0 = w' := fun w0 => (specSec x w0 hx).mono fun e w' h => ⟨by rw [h.1, secB_no hs], h.2.symm⟩
  clear hs
  go_enter Tryd.func32, Tryd.ntmps32
  go_wp2_with (first
    | (with_reducible refine wpList_allocV (w := w) (by with_unfolding_all rfl) 57 (by with_unfolding_all rfl) (svs 0 0 0) Tryd.infoS ?_; intro w1 hA1 hB1 hS1)
    | (go_at_call 31; with_reducible refine (hS _).mono ?_; rintro e w' ⟨rfl, rfl⟩)
    | (with_reducible refine wpList_storeV (w := w1) (by with_unfolding_all rfl) 57 (.tmp 4) (.tmp 16) (by with_unfolding_all rfl) w.heap.size (svs 0 0 0) (svs 0 0 0) (by with_unfolding_all rfl) (by with_unfolding_all rfl) hA1 3 Tryd.sizeS (by with_unfolding_all rfl) (by with_unfolding_all rfl) (svs_one _ _ _) ?_; intro w5 hA5 hB5 hF5 hS5))
  exact bodyPost_ret (results_V (t := 57) rfl _ w.heap.size _ rfl hA5 Tryd.undS 3 Tryd.sizeS rfl) rfl ⟨rfl, hB1.trans (hB5 _ (Nat.le_refl _))⟩
set_option maxRecDepth 100000 in
set_option maxHeartbeats 1000000 in
theorem implSign0 (x : Int) (t : ByteArray) (w : World) (hx : I64 x) (hs : ¬ IsSec x) (ht : t.size ≤ 19980) :
    Calls Tryd.prog 35 #[.int .i64 x, .string t] w fun r w' => r = .returned (SVal 0 0 0) ∧ Below w.heap.size w w' := by
  have hS : ∀ w0, Calls Tryd.prog 51 #[.int .i64 x] w0 fun e w' => e = .returned (.bool false) ∧ w0 = w' := fun w0 => (implSec x w0 hx).mono fun e w' h => ⟨by rw [h.1, secB_no hs], h.2.symm⟩
  clear hs
  go_enter Tryd.func35, Tryd.ntmps35
  go_wp2_with (first
    | (with_reducible refine wpList_allocV (w := w) (by with_unfolding_all rfl) 57 (by with_unfolding_all rfl) (svs 0 0 0) Tryd.infoS ?_; intro w1 hA1 hB1 hS1)
    | (go_at_call 51; with_reducible refine (hS _).mono ?_; rintro e w' ⟨rfl, rfl⟩)
    | (with_reducible refine wpList_storeV (w := w1) (by with_unfolding_all rfl) 57 (.tmp 4) (.tmp 16) (by with_unfolding_all rfl) w.heap.size (svs 0 0 0) (svs 0 0 0) (by with_unfolding_all rfl) (by with_unfolding_all rfl) hA1 3 Tryd.sizeS (by with_unfolding_all rfl) (by with_unfolding_all rfl) (svs_one _ _ _) ?_; intro w5 hA5 hB5 hF5 hS5))
  exact bodyPost_ret (results_V (t := 57) rfl _ w.heap.size _ rfl hA5 Tryd.undS 3 Tryd.sizeS rfl) rfl ⟨rfl, hB1.trans (hB5 _ (Nat.le_refl _))⟩
end Go.Proofs.YtmahpmjkejnkfaaDoor
namespace Go.Proofs.YtmahpmjkejnkfaaDoor
open Go.RowKit
set_option linter.unusedVariables false

def stv (y : Int) (t : ByteArray) : List Value := [.int .i64 y, .string t]
abbrev StVal (y : Int) (t : ByteArray) : Value := .agg (stv y t).toArray
theorem stv_one (y : Int) (t : ByteArray) : ∀ v ∈ stv y t, v.oneCell' = true := by
  intro v hv
  simp [stv] at hv
  rcases hv with h | h <;> (rw [h]; rfl)
theorem Tryd.infoT : (Tryd.prog.info? 74).map (fun i => i.zero) = some (some (.agg (stv 0 ⟨#[]⟩).toArray)) := by kernel_rfl
theorem Tryd.undT : ∃ d, Tryd.prog.underlying 74 = some d ∧ d.isRow = true := ⟨_, Tryd.underlying74, rfl⟩
theorem Tryd.sizeT : (Tryd.prog.info? 74).map (·.size) = some 2 := by kernel_rfl
abbrev ChF (y : Int) (t : ByteArray) : Value := .func (.func 54) #[StVal y t] #[]

set_option maxRecDepth 100000 in
set_option maxHeartbeats 1000000 in
theorem implOnce (x : Int) (t : ByteArray) (w : World) (hx : I64 x) (ht : t.size ≤ 19980) (ha : ArrU w 0 keys) (h0 : 0 < w.heap.size) :
    Calls Tryd.prog 55 #[.int .i64 x, .string t] w fun e w' => e = .returned (.int .i64 (kM x t)) ∧ Below w.heap.size w w' := by
  have hP : ∀ w0, Calls Tryd.prog 69 #[.int .i64 x] w0 fun e w' => e = .returned (.string (putS x)) ∧ Below w0.heap.size w0 w' := fun w0 => implPut x w0 hx
  have hN : ∀ w0, ArrU w0 0 keys → 0 < w0.heap.size → Calls Tryd.prog 68 #[.string (kT x t)] w0 fun e w' => e = .returned (.int .i64 (num7 (kT x t))) ∧ Below w0.heap.size w0 w' := fun w0 k1 k2 => implNum _ w0 (by have := kT_size x t; omega) k1 k2
  have HK : Hid (ArrU w 0 keys) := ha
  have hb := num7_bd (kT x t)
  have eK : 1 + num7 (kT x t) % 1073741788 = kM x t := rfl
  have s1 := putS_size x
  have s3 := kT_size x t
  obtain ⟨C, hCc⟩ : ∃ C, (⟨#[75]⟩ : ByteArray) ++ putS x = C := ⟨_, rfl⟩
  have hT : C ++ t = kT x t := by rw [← hCc]; rfl
  have s4 : C.size ≤ 11 := by rw [← hCc, ByteArray.size_append]; have : (⟨#[75]⟩ : ByteArray).size = 1 := rfl; omega
  generalize kM x t = K at *
  generalize num7 (kT x t) = V at *
  generalize kT x t = T at *
  generalize putS x = A at *
  clear ha
  go_enter Tryd.func55, Tryd.ntmps55
  go_wp2_with (first
    | (go_at_call 69; with_reducible refine (hP w).mono ?_; rintro e w1 ⟨rfl, hB1⟩; have z1 := hB1.size)
    | (go_at_call 68; refine (hN w1 (HK.out.below hB1 h0) (by omega)).mono ?_; rintro e w2 ⟨rfl, hB2⟩))
  go_ret
  exact ⟨rfl, hB1.trans (hB2.mono z1)⟩
set_option maxRecDepth 100000 in
set_option maxHeartbeats 1000000 in
theorem implStm (y r : Int) (t : ByteArray) (w : World) (hr : InG r) (hk : InG y) (ht : t.size ≤ 19980) (ha : ArrU w 0 keys) (h0 : 0 < w.heap.size) :
    Calls Tryd.prog 54 #[StVal y t, .int .i64 r] w fun e w' => e = .returned (.int .i64 (chM r y t)) ∧ Below w.heap.size w w' := by
  have hC : ∀ w0, ArrU w0 0 keys → 0 < w0.heap.size → Calls Tryd.prog 67 #[.int .i64 r, .int .i64 y, .string t] w0 fun e w' => e = .returned (.int .i64 (chM r y t)) ∧ Below w0.heap.size w0 w' := fun w0 k1 k2 => implChal r y t w0 hr hk ht k1 k2
  have HK : Hid (ArrU w 0 keys) := ha
  generalize chM r y t = M at *
  clear ha
  go_enter Tryd.func54, Tryd.ntmps54
  go_wp2_with (first
    | (with_reducible refine wpList_boxV (w := w) (by with_unfolding_all rfl) 74 (.tmp 0) (by with_unfolding_all rfl) (stv y t) (by with_unfolding_all rfl) ?_; intro w1 hA1 hB1 hS1; have p0 := hA1.cell (k := 0) (v := .int .i64 y) rfl; have p1 := hA1.cell (k := 1) (v := .string t) rfl)
    | (go_at_call 67; refine (hC w1 (HK.out.below hB1 h0) (by omega)).mono ?_; rintro e w2 ⟨rfl, hB2⟩))
  go_ret
  exact ⟨rfl, hB1.trans (hB2.mono (by omega))⟩
theorem mulM_sec {e x : Int} (h1 : 0 ≤ e) (h2 : e < 1073741789) (h3 : IsSec x) : mulM e x 1073741789 = e * x % 1073741789 := by
  obtain ⟨p, q, z, r, e1, e2, e3, e4, HM, _⟩ := mul_parts (a := e) (b := x) (m := 1073741789) h1 (by have := h3.1; omega) (by omega) (by omega)
  rw [HM.out, ← e4, ← e3, ← e1, ← e2, Int.emod_eq_of_lt h1 h2, Int.emod_eq_of_lt (by have := h3.1; omega) h3.2]
set_option maxRecDepth 100000 in
set_option maxHeartbeats 1000000 in
theorem implAns (y x k : Int) (t : ByteArray) (w : World) (hx : IsSec x) (hk : InG y) (k1 : 1 ≤ k) (k2 : k < 1073741789) (ht : t.size ≤ 19980) (ha : ArrU w 0 keys) (h0 : 0 < w.heap.size) :
    Calls Tryd.prog 53 #[ChF y t, .int .i64 x, .int .i64 k] w fun e w' => e = .returned (.tuple #[.int .i64 (chM (powM 4 k 2147483579) y t), .int .i64 ((k + chM (powM 4 k 2147483579) y t * x % 1073741789) % 1073741789)]) ∧ Below w.heap.size w w' := by
  have p3 : 1 ≤ powM 4 k 2147483579 := powM_pos gr_g (by omega)
  have p1 : powM 4 k 2147483579 < 2147483579 := powM_lt
  have hU : ∀ w0, Calls Tryd.prog 65 #[.int .i64 4, .int .i64 k] w0 fun e w' => e = .returned (.int .i64 (powM 4 k 2147483579)) ∧ w0 = w' := fun w0 => (implUpow 4 k w0 (i64_of (by omega) (by omega)) (i64_of (by omega) (by omega)) (by omega)).mono fun e w' h => ⟨by rw [h.1, upow_small (by omega) k2], h.2.symm⟩
  have hC : Calls Tryd.prog 54 #[StVal y t, .int .i64 (powM 4 k 2147483579)] w fun e w' => e = .returned (.int .i64 (chM (powM 4 k 2147483579) y t)) ∧ Below w.heap.size w w' := implStm y _ t w ⟨p3, p1⟩ hk ht ha h0
  have eb := chM_bd (powM 4 k 2147483579) y t
  have hM : ∀ w0, Calls Tryd.prog 66 #[.int .i64 (chM (powM 4 k 2147483579) y t), .int .i64 x, .int .i64 1073741789] w0 fun e w' => e = .returned (.int .i64 (chM (powM 4 k 2147483579) y t * x % 1073741789)) ∧ Below w0.heap.size w0 w' := fun w0 => (implMul _ x 1073741789 w0 (i64_of (by omega) (by omega)) (i64_of (by have := hx.1; omega) (by have := hx.2; omega)) (i64_of (by omega) (by omega))).mono fun e w' h => by
    obtain ⟨h1, n, h2⟩ := h
    rw [mulM_sec eb.1 eb.2 hx] at h1
    exact ⟨h1, by rw [h2]; exact belowN (Below.refl _ _) n⟩
  obtain ⟨M, hMm, m0, m1⟩ : ∃ M, chM (powM 4 k 2147483579) y t * x % 1073741789 = M ∧ 0 ≤ M ∧ M < 1073741789 := ⟨_, rfl, by omega, by omega⟩
  rw [hMm] at hM ⊢
  have HC : Hid _ := hC
  clear ha hC
  generalize chM (powM 4 k 2147483579) y t = E at *
  generalize powM 4 k 2147483579 = R at *
  go_enter Tryd.func53, Tryd.ntmps53
  go_wp2_with (first
    | (go_at_call 65; with_reducible refine (hU _).mono ?_; rintro e w' ⟨rfl, rfl⟩)
    | (go_at_call 54; refine Calls.mono HC.out ?_; rintro e w1 ⟨rfl, hB1⟩)
    | (go_at_call 66; refine (hM w1).mono ?_; rintro e w2 ⟨rfl, hB2⟩))
  exact bodyPost_ret (v := .tuple #[.int .i64 E, .int .i64 ((k + M) % 1073741789)]) (by simp [results, Tryd.results53, go_sem]) rfl ⟨rfl, hB1.trans (hB2.mono hB1.size)⟩

/- What stands while SignText works: its answer's variable, the statement's variable, the numbers of the rounds. -/
structure KpI (w : World) (g4 g5 : Nat) (y : Int) (t : ByteArray) (w' : World) : Prop where
  below : Below w.heap.size w w'
  v4 : RowV w' g4 (svs 0 0 0)
  v5 : RowV w' g5 (stv y t)
  ks : ArrU w' 0 keys
  pos : 0 < w'.heap.size
theorem KpI.hid {w w' w2 : World} {g4 g5 : Nat} {y : Int} {t : ByteArray} (h : Hid (KpI w g4 g5 y t w')) (hb : Below w'.heap.size w' w2) : Hid (KpI w g4 g5 y t w2) :=
  ⟨h.out.below.trans (hb.mono h.out.below.size), h.out.v4.below hb (h.out.v4.lt (svs_ne _ _ _)), h.out.v5.below hb (h.out.v5.lt (by simp [stv])), h.out.ks.below hb h.out.pos, Nat.lt_of_lt_of_le h.out.pos hb.size⟩
theorem KpI.three {w w' : World} {g4 g5 : Nat} {y : Int} {t : ByteArray} (h : Hid (KpI w g4 g5 y t w')) : w'.cell? ⟨g5, 0, none⟩ = some (.int .i64 y) ∧ w'.cell? ⟨g5, 1, none⟩ = some (.string t) ∧ Hid (KpI w g4 g5 y t w') :=
  ⟨h.out.v5.cell (k := 0) rfl, h.out.v5.cell (k := 1) rfl, h⟩
theorem KpI.start {w w' : World} {g4 g5 : Nat} {y : Int} {t : ByteArray} (h1 : Below w.heap.size w w') (h2 : RowV w' g4 (svs 0 0 0)) (h3 : RowV w' g5 (stv y t)) (h4 : ArrU w' 0 keys) (h5 : 0 < w'.heap.size) : Hid (KpI w g4 g5 y t w'.drew) :=
  ⟨h1.drew, h2.drew, h3.drew, h4.drew, h5⟩
set_option maxRecDepth 100000 in
set_option maxHeartbeats 2000000 in
theorem implSign (x : Int) (t : ByteArray) (w : World) (hx : I64 x) (hs : IsSec x) (ht : t.size ≤ 19980) (ha : ArrU w 0 keys) (h0 : 0 < w.heap.size) :
    Calls Tryd.prog 35 #[.int .i64 x, .string t] w fun r w' => r = .returned (SVal (powM 4 x 2147483579) (eM x t) (sM x t)) ∧ Below w.heap.size w w' := by
  have kb := kM_bd x t
  have p2 : powM 4 x 2147483579 < 2147483579 := powM_lt
  have p4 : 1 ≤ powM 4 x 2147483579 := powM_pos gr_g (by have := hs.1; omega)
  have hS : ∀ w0, Calls Tryd.prog 51 #[.int .i64 x] w0 fun e w' => e = .returned (.bool true) ∧ w0 = w' := fun w0 => (implSec x w0 hx).mono fun e w' h => ⟨by rw [h.1, secB_yes hs], h.2.symm⟩
  have hK : ∀ w0, Calls Tryd.prog 52 #[.int .i64 x] w0 fun e w' => e = .returned (.int .i64 (powM 4 x 2147483579)) ∧ w0 = w' := fun w0 => (implPub x w0 hx).mono fun e w' h => ⟨by rw [h.1, show pubM x = _ from if_pos hs], h.2.symm⟩
  have hO : ∀ w0 g4 g5 y, Hid (KpI w g4 g5 y t w0) → Calls Tryd.prog 55 #[.int .i64 x, .string t] w0 fun e w' => e = .returned (.int .i64 (kM x t)) ∧ Below w0.heap.size w0 w' := fun w0 g4 g5 y h => implOnce x t w0 hx ht h.out.ks h.out.pos
  have hA : ∀ w0 g4 g5, Hid (KpI w g4 g5 (powM 4 x 2147483579) t w0) → Calls Tryd.prog 53 #[ChF (powM 4 x 2147483579) t, .int .i64 x, .int .i64 (kM x t)] w0 fun e w' => e = .returned (.tuple #[.int .i64 (eM x t), .int .i64 (sM x t)]) ∧ Below w0.heap.size w0 w' := fun w0 g4 g5 h => implAns _ x _ t w0 hs ⟨p4, p2⟩ kb.1 kb.2 ht h.out.ks h.out.pos
  have HK : Hid (ArrU w 0 keys) := ha
  have hmf : ∀ (fn : Fn) (first cap : Array Value) (w : World), (Instr.makeFunc fn first cap).run Tryd.prog w = .ok (.func fn first cap) w := fun _ _ _ _ => rfl
  clear ha
  generalize sM x t = S at *
  generalize eM x t = E at *
  generalize powM 4 x 2147483579 = Y at *
  generalize kM x t = K at *
  go_enter Tryd.func35, Tryd.ntmps35
  go_wp2_with (first
    | (with_reducible refine wpList_allocV (w := w) (by with_unfolding_all rfl) 57 (by with_unfolding_all rfl) (svs 0 0 0) Tryd.infoS ?_; intro w1 hA1 hB1 hS1)
    | (go_at_call 51; with_reducible refine (hS _).mono ?_; rintro e w' ⟨rfl, rfl⟩)
    | (go_at_call 52; with_reducible refine (hK _).mono ?_; rintro e w' ⟨rfl, rfl⟩)
    | (with_reducible refine wpList_allocV (w := w1) (by with_unfolding_all rfl) 74 (by with_unfolding_all rfl) (stv 0 ⟨#[]⟩) Tryd.infoT ?_; intro w2 hA2 hB2 hS2)
    | (with_reducible refine wpList_storeV (w := w2) (by with_unfolding_all rfl) 74 (.tmp 5) (.tmp 20) (by with_unfolding_all rfl) w1.heap.size (stv 0 ⟨#[]⟩) (stv Y t) (by with_unfolding_all rfl) (by with_unfolding_all rfl) hA2 2 Tryd.sizeT (by with_unfolding_all rfl) (by with_unfolding_all rfl) (stv_one _ _) ?_; intro w3 hA3 hB3 hF3 hS3; have b13 : Below w1.heap.size w1 w3 := hB2.trans (hB3 _ (by omega)); have b03 : Below w.heap.size w w3 := hB1.trans (b13.mono (by omega)); rw [hS1] at hA3; have HS : Hid (KpI w w.heap.size (w.heap.size + 1) Y t w3.drew) := KpI.start b03 (hA1.below b13 (by omega)) hA3 (HK.out.below b03 h0) (by omega)))
  go_region_held3 (fun w' => w'.cell? ⟨w.heap.size + 1, 0, none⟩ = some (.int .i64 Y) ∧ w'.cell? ⟨w.heap.size + 1, 1, none⟩ = some (.string t) ∧ Hid (KpI w w.heap.size (w.heap.size + 1) Y t w'))
    (first | exact KpI.three HS | exact KpI.three (KpI.hid HS h6) | exact KpI.three (KpI.hid (KpI.hid HS h6) h7))
    (first
      | (go_at_call 55; refine (hO _ _ _ _ HS).mono ?_; rintro e w6 ⟨rfl, h6⟩)
      | (go_at_call 53; refine (hA _ _ _ (KpI.hid HS h6)).mono ?_; rintro e w7 ⟨rfl, h7⟩))
  all_goals
    have HS7 : Hid (KpI w w.heap.size (w.heap.size + 1) Y t w7) := KpI.hid (KpI.hid HS h6) h7
    obtain ⟨p0, p1, _⟩ := KpI.three HS7
    have V7 := HS7.out.v4
    have B7 : Below w.heap.size w w7 := HS7.out.below
    clear HS HS7 h6 h7 hO hA hK hS HK hA1 hA2 hA3 hB1 hB2 hB3 hF3 b13 b03
    go_wp2_with (first
      | (with_reducible refine wpList_storeV (w := w7) (by with_unfolding_all rfl) 57 (.tmp 4) (.tmp 35) (by with_unfolding_all rfl) w.heap.size (svs 0 0 0) (svs Y E S) (by with_unfolding_all rfl) (by with_unfolding_all rfl) V7 3 Tryd.sizeS (by with_unfolding_all rfl) (by with_unfolding_all rfl) (svs_one _ _ _) ?_; intro w8 hA8 hB8 hF8 hS8))
    exact bodyPost_ret (results_V (t := 57) rfl _ w.heap.size _ rfl hA8 Tryd.undS 3 Tryd.sizeS rfl) rfl ⟨rfl, B7.trans (hB8 _ (Nat.le_refl _))⟩
end Go.Proofs.YtmahpmjkejnkfaaDoor
namespace Go.Proofs.YtmahpmjkejnkfaaDoor
open Go.RowKit
set_option linter.unusedVariables false

def rM (k e s : Int) : Int := powM 4 s 2147483579 * powM k (1073741789 - e) 2147483579 % 2147483579
def chkB (k e s : Int) (t : ByteArray) : Bool := sigB k e s && (chM (rM k e s) k t == e)
theorem sigB_parts {k e s : Int} (h : sigB k e s = true) : grB k = true ∧ (0 ≤ e ∧ e < 1073741789) ∧ 0 ≤ s ∧ s < 1073741789 := by
  unfold sigB expB at h
  rw [Bool.and_eq_true, Bool.and_eq_true, decide_eq_true_eq, decide_eq_true_eq] at h
  exact ⟨h.1.1, h.1.2, h.2⟩
theorem grB_in {k : Int} (h : grB k = true) : InG k := by
  unfold grB at h
  rw [Bool.and_eq_true, decide_eq_true_eq] at h
  exact ⟨by omega, h.1.2⟩
theorem prodP {a b : Int} (a0 : 0 ≤ a) (a1 : a < 2147483579) (b0 : 0 ≤ b) (b1 : b < 2147483579) : 0 ≤ a * b ∧ a * b ≤ 4611685726360436041 := by
  refine ⟨Int.mul_nonneg a0 b0, ?_⟩
  have := Int.mul_le_mul (show a ≤ 2147483579 by omega) (show b ≤ 2147483579 by omega) b0 (by omega : (0 : Int) ≤ 2147483579)
  omega
theorem wn {o : Oper} {y : Nat → Option Bool} (h : o.guard = none) : Region.wanted o y = true := by simp [Region.wanted, h]
/- What stands while a Sig is checked: the Sig's variable. -/
structure KpC (w : World) (g : Nat) (k e s : Int) (w' : World) : Prop where
  below : Below w.heap.size w w'
  v : RowV w' g (svs k e s)
theorem KpC.hid {w w' w2 : World} {g : Nat} {k e s : Int} (h : Hid (KpC w g k e s w')) (hb : Below w'.heap.size w' w2) : Hid (KpC w g k e s w2) :=
  ⟨h.out.below.trans (hb.mono h.out.below.size), h.out.v.below hb (h.out.v.lt (svs_ne _ _ _))⟩
theorem KpC.drew {w w' : World} {g : Nat} {k e s : Int} (h : Hid (KpC w g k e s w')) : Hid (KpC w g k e s w'.drew) := ⟨h.out.below.drew, h.out.v.drew⟩
theorem KpC.four {w w' : World} {g : Nat} {k e s : Int} (h : Hid (KpC w g k e s w')) : w'.cell? ⟨g, 0, none⟩ = some (.int .i64 k) ∧ w'.cell? ⟨g, 1, none⟩ = some (.int .i64 e) ∧ w'.cell? ⟨g, 2, none⟩ = some (.int .i64 s) ∧ Hid (KpC w g k e s w') :=
  ⟨h.out.v.cell (k := 0) rfl, h.out.v.cell (k := 1) rfl, h.out.v.cell (k := 2) rfl, h⟩
set_option maxRecDepth 100000 in
set_option maxHeartbeats 1000000 in
theorem specChk0 (k e s : Int) (t : ByteArray) (w : World) (hk : I64 k) (h : sigB k e s = true) (ht : t.size ≤ 19980) :
    Calls Tryd.prog 40 #[SVal k e s, .string t] w fun r w' => r = .returned (.bool (chM (rM k e s) k t == e)) ∧ Below w.heap.size w w' := by
  obtain ⟨hg, he, hs⟩ := sigB_parts h
  have hin := grB_in hg
  have h1 : ∀ w0, Calls Tryd.prog 50 #[.int .i64 4, .int .i64 s, .int .i64 2147483579] w0 fun r w' => r = .returned (.int .i64 (powM 4 s 2147483579)) ∧ w' = w0 := fun w0 => specPow0 4 s 2147483579 w0 (i64_of (by omega) (by omega)) (i64_of (by omega) (by omega)) (by omega) (by omega) (by omega) (by omega)
  have h2 : ∀ w0, Calls Tryd.prog 50 #[.int .i64 k, .int .i64 (1073741789 - e), .int .i64 2147483579] w0 fun r w' => r = .returned (.int .i64 (powM k (1073741789 - e) 2147483579)) ∧ w' = w0 := fun w0 => specPow0 k _ 2147483579 w0 hk (i64_of (by omega) (by omega)) (by have := hin.1; omega) (by omega) (by omega) (by omega)
  have a0 : 0 ≤ powM 4 s 2147483579 := powM_ge
  have a1 : powM 4 s 2147483579 < 2147483579 := powM_lt
  have b0 : 0 ≤ powM k (1073741789 - e) 2147483579 := powM_ge
  have b1 : powM k (1073741789 - e) 2147483579 < 2147483579 := powM_lt
  have r0 : 0 ≤ rM k e s ∧ rM k e s < 2147483579 := by unfold rM; omega
  have hC : ∀ w0, Calls Tryd.prog 49 #[.int .i64 (rM k e s), .int .i64 k, .string t] w0 fun r w' => r = .returned (.int .i64 (chM (rM k e s) k t)) ∧ Below w0.heap.size w0 w' := fun w0 => specChal _ _ t w0 (i64_of (by omega) (by omega)) hk (by omega)
  obtain ⟨z0, z1⟩ := prodP a0 a1 b0 b1
  have eR : powM 4 s 2147483579 * powM k (1073741789 - e) 2147483579 % 2147483579 = rM k e s := rfl
  obtain ⟨z, hz⟩ : ∃ z, powM 4 s 2147483579 * powM k (1073741789 - e) 2147483579 = z := ⟨_, rfl⟩
  rw [hz] at eR z0 z1
  generalize chM (rM k e s) k t = M at *
  generalize rM k e s = R at *
  generalize powM 4 s 2147483579 = A at *
  generalize powM k (1073741789 - e) 2147483579 = B at *
  have d3 : z.tmod 2147483579 = R := by rw [Int.tmod_eq_emod_of_nonneg z0]; exact eR
  have d2 : IntKind.i64.wrap (A * B) = z := by rw [hz, IntKind.wrap_i64]; omega
  obtain ⟨d, hd⟩ : ∃ d, 1073741789 - e = d := ⟨_, rfl⟩
  have d1 : IntKind.i64.wrap (1073741789 - e) = d := by rw [hd, IntKind.wrap_i64]; omega
  rw [hd] at h2
  clear hin hg h hz hd eR
  go_enter Tryd.func40, Tryd.ntmps40
  go_wp2_with (first
    | (with_reducible refine wpList_boxV (w := w) (by with_unfolding_all rfl) 57 (.tmp 0) (by with_unfolding_all rfl) (svs k e s) (by with_unfolding_all rfl) ?_; intro w1 hA1 hB1 hS1; obtain ⟨p0, p1, p2⟩ := hA1.sig))
  have HS : Hid (KpC w w.heap.size k e s w1) := KpC.mk hB1 hA1
  have HS1 : Hid (KpC w w.heap.size k e s w1.drew) := KpC.drew HS
  clear hA1 hB1 HS
  go_region_held3 (fun w' => w'.cell? ⟨w.heap.size, 0, none⟩ = some (.int .i64 k) ∧ w'.cell? ⟨w.heap.size, 1, none⟩ = some (.int .i64 e) ∧ w'.cell? ⟨w.heap.size, 2, none⟩ = some (.int .i64 s) ∧ Hid (KpC w w.heap.size k e s w'))
    (first | exact KpC.four HS1)
    (first
      | (go_at_call 50; with_reducible refine (h1 _).mono ?_; rintro r w2 ⟨rfl, rfl⟩)
      | (go_at_call 50; with_reducible refine (h2 _).mono ?_; rintro r w2 ⟨rfl, rfl⟩))
  clear p0 p1 p2
  generalize w1.drew = w2 at *
  go_wp2_with fail
  have HS2 : Hid (KpC w w.heap.size k e s w2.drew) := KpC.drew HS1
  clear HS1
  go_region_held3 (fun w' => w'.cell? ⟨w.heap.size, 0, none⟩ = some (.int .i64 k) ∧ w'.cell? ⟨w.heap.size, 1, none⟩ = some (.int .i64 e) ∧ w'.cell? ⟨w.heap.size, 2, none⟩ = some (.int .i64 s) ∧ Hid (KpC w w.heap.size k e s w'))
    (first | exact KpC.four HS2 | exact KpC.four (KpC.hid HS2 h6))
    (first
      | (go_at_call 49; refine (hC _).mono ?_; rintro r w6 ⟨rfl, h6⟩))
  all_goals
    have B6 : Below w.heap.size w w6 := (KpC.hid HS2 h6).out.below
    clear HS2 h6
    go_wp2
    go_ret
    exact ⟨rfl, B6⟩

/- What stands while the program checks: the Sig's variable, the statement's or the answer's variable, the numbers of the rounds. -/
structure KpJ (w : World) (g h : Nat) (k e s : Int) (l : List Value) (w' : World) : Prop where
  below : Below w.heap.size w w'
  v : RowV w' g (svs k e s)
  u : RowV w' h l
  ks : ArrU w' 0 keys
  pos : 0 < w'.heap.size
  lt : h < w'.heap.size
theorem KpJ.hid {w w' w2 : World} {g h : Nat} {k e s : Int} {l : List Value} (H : Hid (KpJ w g h k e s l w')) (hb : Below w'.heap.size w' w2) : Hid (KpJ w g h k e s l w2) :=
  ⟨H.out.below.trans (hb.mono H.out.below.size), H.out.v.below hb (H.out.v.lt (svs_ne _ _ _)), H.out.u.below hb H.out.lt, H.out.ks.below hb H.out.pos, Nat.lt_of_lt_of_le H.out.pos hb.size, Nat.lt_of_lt_of_le H.out.lt hb.size⟩
theorem KpJ.drew {w w' : World} {g h : Nat} {k e s : Int} {l : List Value} (H : Hid (KpJ w g h k e s l w')) : Hid (KpJ w g h k e s l w'.drew) := ⟨H.out.below.drew, H.out.v.drew, H.out.u.drew, H.out.ks.drew, H.out.pos, H.out.lt⟩
theorem KpJ.four {w w' : World} {g h : Nat} {k e s : Int} {l : List Value} (H : Hid (KpJ w g h k e s l w')) : w'.cell? ⟨g, 0, none⟩ = some (.int .i64 k) ∧ w'.cell? ⟨g, 1, none⟩ = some (.int .i64 e) ∧ w'.cell? ⟨g, 2, none⟩ = some (.int .i64 s) ∧ Hid (KpJ w g h k e s l w') :=
  ⟨H.out.v.cell (k := 0) rfl, H.out.v.cell (k := 1) rfl, H.out.v.cell (k := 2) rfl, H⟩
theorem KpJ.start {w w' : World} {g h : Nat} {k e s : Int} {l : List Value} (h1 : Below w.heap.size w w') (h2 : RowV w' g (svs k e s)) (h3 : RowV w' h l) (h4 : ArrU w' 0 keys) (h5 : 0 < w'.heap.size) (h6 : h < w'.heap.size) : Hid (KpJ w g h k e s l w') :=
  ⟨h1, h2, h3, h4, h5, h6⟩

set_option maxRecDepth 100000 in
set_option maxHeartbeats 1000000 in
theorem implAgain (k e s : Int) (t : ByteArray) (w : World) (hk : I64 k) (h : sigB k e s = true) (ht : t.size ≤ 19980) (ha : ArrU w 0 keys) (h0 : 0 < w.heap.size) :
    Calls Tryd.prog 60 #[ChF k t, SVal k e s] w fun r w' => r = .returned (SVal k (chM (rM k e s) k t) s) ∧ Below w.heap.size w w' := by
  obtain ⟨hg, he, hs⟩ := sigB_parts h
  have hin := grB_in hg
  have h1 : ∀ w0, Calls Tryd.prog 65 #[.int .i64 4, .int .i64 s] w0 fun r w' => r = .returned (.int .i64 (powM 4 s 2147483579)) ∧ w' = w0 := fun w0 => by
    have := implUpow 4 s w0 (i64_of (by omega) (by omega)) (i64_of (by omega) (by omega)) (by omega)
    rw [upow_eq gr_g (by omega)] at this
    exact this
  have h2 : ∀ w0, Calls Tryd.prog 65 #[.int .i64 k, .int .i64 (1073741789 - e)] w0 fun r w' => r = .returned (.int .i64 (powM k (1073741789 - e) 2147483579)) ∧ w' = w0 := fun w0 => by
    have := implUpow k (1073741789 - e) w0 hk (i64_of (by omega) (by omega)) (by omega)
    rw [upow_eq hg (by omega)] at this
    exact this
  have a0 : 1 ≤ powM 4 s 2147483579 := powM_pos gr_g (by omega)
  have a1 : powM 4 s 2147483579 < 2147483579 := powM_lt
  have b0 : 1 ≤ powM k (1073741789 - e) 2147483579 := powM_pos hg (by omega)
  have b1 : powM k (1073741789 - e) 2147483579 < 2147483579 := powM_lt
  have eR : gmulM (powM 4 s 2147483579) (powM k (1073741789 - e) 2147483579) = rM k e s := by
    obtain ⟨z, hz, z0, z1, HZ⟩ := mul_in a0 a1 b0 b1
    unfold gmulM
    rw [if_pos ⟨⟨a0, a1⟩, b0, b1⟩, HZ.out, ← hz]
    rfl
  have h3 : ∀ w0, Calls Tryd.prog 71 #[.int .i64 (powM 4 s 2147483579), .int .i64 (powM k (1073741789 - e) 2147483579)] w0 fun r w' => r = .returned (.int .i64 (rM k e s)) ∧ Below w0.heap.size w0 w' := fun w0 => (implGMul _ _ w0 (i64_of (by omega) (by omega)) (i64_of (by omega) (by omega))).mono fun r w' hh => by
    obtain ⟨q1, n, q2⟩ := hh
    rw [eR] at q1
    exact ⟨q1, by rw [q2]; exact belowN (Below.refl _ _) n⟩
  have r1 : rM k e s < 2147483579 := by unfold rM; omega
  have r0 : 1 ≤ rM k e s := prod_pos hg (by omega) (by omega)
  have hC : ∀ w0, ArrU w0 0 keys → 0 < w0.heap.size → Calls Tryd.prog 54 #[StVal k t, .int .i64 (rM k e s)] w0 fun r w' => r = .returned (.int .i64 (chM (rM k e s) k t)) ∧ Below w0.heap.size w0 w' := fun w0 k1 k2 => implStm k _ t w0 ⟨r0, r1⟩ hin ht k1 k2
  have HK : Hid (ArrU w 0 keys) := ha
  obtain ⟨d, hd⟩ : ∃ d, 1073741789 - e = d := ⟨_, rfl⟩
  have d1 : IntKind.i64.wrap (1073741789 - e) = d := by rw [hd, IntKind.wrap_i64]; omega
  rw [hd] at h2 h3
  clear ha eR
  generalize chM (rM k e s) k t = M at *
  generalize rM k e s = R at *
  generalize powM 4 s 2147483579 = A at *
  rw [hd] at b0 b1
  generalize powM k d 2147483579 = B at *
  clear hin hg h hd
  go_enter Tryd.func60, Tryd.ntmps60
  go_wp2_with (first
    | (with_reducible refine wpList_boxV (w := w) (by with_unfolding_all rfl) 57 (.tmp 1) (by with_unfolding_all rfl) (svs k e s) (by with_unfolding_all rfl) ?_; intro w1 hA1 hB1 hS1)
    | (with_reducible refine wpList_allocV (w := w1) (by with_unfolding_all rfl) 57 (by with_unfolding_all rfl) (svs 0 0 0) Tryd.infoS ?_; intro w2 hA2 hB2 hS2))
  have b02 : Below w.heap.size w w2 := hB1.trans (hB2.mono (by omega))
  rw [hS1] at hA2
  have HS1 : Hid (KpJ w w.heap.size (w.heap.size + 1) k e s (svs 0 0 0) w2.drew) := KpJ.drew (KpJ.start b02 (hA1.below hB2 (by omega)) hA2 (HK.out.below b02 h0) (by omega) (by omega))
  clear hA1 hA2 hB1 hB2 b02 HK
  go_region_held3 (fun w' => w'.cell? ⟨w.heap.size, 0, none⟩ = some (.int .i64 k) ∧ w'.cell? ⟨w.heap.size, 1, none⟩ = some (.int .i64 e) ∧ w'.cell? ⟨w.heap.size, 2, none⟩ = some (.int .i64 s) ∧ Hid (KpJ w w.heap.size (w.heap.size + 1) k e s (svs 0 0 0) w'))
    (first | exact KpJ.four HS1 | exact KpJ.four (KpJ.hid HS1 h6))
    (first
      | (go_at_call 65; with_reducible refine (h1 _).mono ?_; rintro r w3 ⟨rfl, rfl⟩)
      | (go_at_call 65; with_reducible refine (h2 _).mono ?_; rintro r w3 ⟨rfl, rfl⟩)
      | (go_at_call 71; refine (h3 _).mono ?_; rintro r w6 ⟨rfl, h6⟩))
  have HS6 : Hid (KpJ w w.heap.size (w.heap.size + 1) k e s (svs 0 0 0) w6) := KpJ.hid HS1 h6
  clear HS1 h6 h1 h2 h3
  go_wp2_with fail
  have HS7 : Hid (KpJ w w.heap.size (w.heap.size + 1) k e s (svs 0 0 0) w6.drew) := KpJ.drew HS6
  clear HS6
  refine wp_region_held_drew (S := fun w' => ∃ l : List Value, l.length = 3 ∧ KpJ w w.heap.size (w.heap.size + 1) k e s l w') (by kernel_rfl) ⟨svs 0 0 0, rfl, HS7.out⟩ (fun hHeld => ?_)
  refine wpAnyH_take (i := 0) (oi := ⟨_, _, _, _, _, _⟩) (v := .pointer (some ⟨w.heap.size, 0, none⟩)) rfl (by kernel_rfl) (by kernel_rfl) (by kernel_rfl) (fun _ _ _ h => h) (Or.inl ⟨wn rfl, fun w' hSw => ?_⟩) hHeld ?_
  · go_simp
  simp only [Act.put, List.setIfInBounds_toArray, List.set_cons_zero, List.set_cons_succ]
  refine wpAnyH_take (i := 1) (oi := ⟨_, _, _, _, _, _⟩) (v := .int .i64 k) rfl (by kernel_rfl) (by kernel_rfl) (by kernel_rfl) (fun _ _ _ h => h) (Or.inl ⟨wn rfl, fun w' hSw => ?_⟩) hHeld ?_
  · obtain ⟨l, _, hl⟩ := hSw; have c0 := hl.v.sig.1; go_simp
  simp only [Act.put, List.setIfInBounds_toArray, List.set_cons_zero, List.set_cons_succ]
  refine wpAnyH_take (i := 2) (oi := ⟨_, _, _, _, _, _⟩) (v := ChF k t) rfl (by kernel_rfl) (by kernel_rfl) (by kernel_rfl) (fun _ _ _ h => h) (Or.inl ⟨wn rfl, fun w' hSw => ?_⟩) hHeld ?_
  · go_simp
  simp only [Act.put, List.setIfInBounds_toArray, List.set_cons_zero, List.set_cons_succ]
  refine wpAnyH_take (i := 3) (oi := ⟨_, _, _, _, _, _⟩) (v := .int .i64 R) rfl (by kernel_rfl) (by kernel_rfl) (by kernel_rfl) (fun _ _ _ h => h) (Or.inl ⟨wn rfl, fun w' hSw => ?_⟩) hHeld ?_
  · go_simp
  simp only [Act.put, List.setIfInBounds_toArray, List.set_cons_zero, List.set_cons_succ]
  refine wpAnyH_take (i := 5) (oi := ⟨_, _, _, _, _, _⟩) (v := .pointer (some ⟨w.heap.size, 2, none⟩)) rfl (by kernel_rfl) (by kernel_rfl) (by kernel_rfl) (fun _ _ _ h => h) (Or.inl ⟨wn rfl, fun w' hSw => ?_⟩) hHeld ?_
  · go_simp
  simp only [Act.put, List.setIfInBounds_toArray, List.set_cons_zero, List.set_cons_succ]
  refine wpAnyH_take (i := 6) (oi := ⟨_, _, _, _, _, _⟩) (v := .int .i64 s) rfl (by kernel_rfl) (by kernel_rfl) (by kernel_rfl) (fun _ _ _ h => h) (Or.inl ⟨wn rfl, fun w' hSw => ?_⟩) hHeld ?_
  · obtain ⟨l, _, hl⟩ := hSw; have c0 := hl.v.sig.2.2; go_simp
  simp only [Act.put, List.setIfInBounds_toArray, List.set_cons_zero, List.set_cons_succ]
  refine wpAnyH_ready (rs := [4]) (by kernel_rfl) (by simp) (AllReadyH.cons (o := ⟨_, _, _, _, _, _⟩) rfl (fun K hK => ?_) AllReadyH.nil)
  rewrite [if_pos (wn rfl)]
  go_simp
  refine (hC _ HS7.out.ks HS7.out.pos).mono ?_
  rintro r w8 ⟨rfl, hB8⟩
  go_wp2_with fail
  have HS8 : Hid (KpJ w w.heap.size (w.heap.size + 1) k e s (svs 0 0 0) w8) := KpJ.hid HS7 hB8
  have hH8 : ∃ l : List Value, l.length = 3 ∧ KpJ w w.heap.size (w.heap.size + 1) k e s l w8 := ⟨svs 0 0 0, rfl, HS8.out⟩
  refine hK.out _ _ hH8 (fun _ => ?_)
  clear hK K HS7 hB8 hHeld
  refine wpAnyH_take (i := 7) (oi := ⟨_, _, _, _, _, _⟩) (v := .agg #[.int .i64 k, .int .i64 M, .int .i64 s]) rfl (by kernel_rfl) (by kernel_rfl) (by kernel_rfl) (fun _ _ _ h => h) (Or.inl ⟨wn rfl, fun w' hSw => ?_⟩) hH8 ?_
  · go_simp
  simp only [Act.put, List.setIfInBounds_toArray, List.set_cons_zero, List.set_cons_succ]
  refine wpAnyH_ready (rs := [8]) (by kernel_rfl) (by simp) (AllReadyH.cons (o := ⟨_, _, _, _, _, _⟩) rfl (fun K hK => ?_) AllReadyH.nil)
  rewrite [if_pos (wn rfl)]
  with_reducible refine wp_store_mid 57 (.tmp 4) (.tmp 23) (by with_unfolding_all rfl) (w.heap.size + 1) 0 (svs k M s).toArray (by with_unfolding_all rfl) (by with_unfolding_all rfl) (by with_unfolding_all exact HS8.out.u.ths) (by with_unfolding_all exact Tryd.sizeS) (by rw [Array.all_eq_true_iff_forall_mem]; intro v hv; exact svs_one _ _ _ v (by simpa using hv)) ?_
  dsimp only
  have hA9 : RowV (w8.setCells (w.heap.size + 1) 0 (svs k M s)) (w.heap.size + 1) (svs k M s) := HS8.out.u.put rfl
  have B9 : Below w.heap.size w (w8.setCells (w.heap.size + 1) 0 (svs k M s)) := HS8.out.below.trans (Lib.below_setCells_w (by omega) _ _ _)
  have b9 : Below (w.heap.size + 1) w8 (w8.setCells (w.heap.size + 1) 0 (svs k M s)) := Lib.below_setCells_w (Nat.le_refl _) _ _ _
  have hz9 : (w8.setCells (w.heap.size + 1) 0 (svs k M s)).heap.size = w8.heap.size := setCells_size _ _ _ _
  have hH9 : ∃ l : List Value, l.length = 3 ∧ KpJ w w.heap.size (w.heap.size + 1) k e s l (w8.setCells (w.heap.size + 1) 0 (svs k M s)) := ⟨svs k M s, rfl, B9, HS8.out.v.below b9 (by omega), hA9, HS8.out.ks.below b9 (by omega), by rw [hz9]; exact HS8.out.pos, by rw [hz9]; exact HS8.out.lt⟩
  generalize w8.setCells (w.heap.size + 1) 0 (svs k M s) = w9 at *
  refine hK.out _ _ hH9 (fun _ => ?_)
  clear hK K
  refine wpAnyH_done (by kernel_rfl) ?_ _
  go_wp2_with fail
  exact bodyPost_ret (results_V (t := 57) rfl _ (w.heap.size + 1) _ rfl hA9 Tryd.undS 3 Tryd.sizeS rfl) rfl ⟨rfl, B9⟩
end Go.Proofs.YtmahpmjkejnkfaaDoor
namespace Go.Proofs.YtmahpmjkejnkfaaDoor
open Go.RowKit
set_option linter.unusedVariables false

theorem KpJ.six {w w' : World} {g h : Nat} {k e s y : Int} {t : ByteArray} (H : Hid (KpJ w g h k e s (stv y t) w')) : w'.cell? ⟨g, 0, none⟩ = some (.int .i64 k) ∧ w'.cell? ⟨g, 1, none⟩ = some (.int .i64 e) ∧ w'.cell? ⟨g, 2, none⟩ = some (.int .i64 s) ∧ w'.cell? ⟨h, 0, none⟩ = some (.int .i64 y) ∧ w'.cell? ⟨h, 1, none⟩ = some (.string t) ∧ Hid (KpJ w g h k e s (stv y t) w') :=
  ⟨H.out.v.cell (k := 0) rfl, H.out.v.cell (k := 1) rfl, H.out.v.cell (k := 2) rfl, H.out.u.cell (k := 0) rfl, H.out.u.cell (k := 1) rfl, H⟩
set_option maxRecDepth 100000 in
set_option maxHeartbeats 1000000 in
theorem implChk (k e s : Int) (t : ByteArray) (w : World) (hk : I64 k) (ht : t.size ≤ 19980) (ha : ArrU w 0 keys) (h0 : 0 < w.heap.size) :
    Calls Tryd.prog 44 #[SVal k e s, .string t] w fun r w' => r = .returned (.bool (chkB k e s t)) ∧ Below w.heap.size w w' := by
  have hR : ∀ w0, Calls Tryd.prog 43 #[.agg #[.int .i64 k, .int .i64 e, .int .i64 s]] w0 fun r w' => r = .returned (.bool (sigB k e s)) ∧ Below w0.heap.size w0 w' := fun w0 => implSigR k e s w0 hk
  have d1 : decide (20000 < (t.size : Int)) = false := decide_eq_false (by omega)
  have HK : Hid (ArrU w 0 keys) := ha
  clear ha
  by_cases h : sigB k e s = true
  · have hmf : ∀ (fn : Fn) (first cap : Array Value) (w : World), (Instr.makeFunc fn first cap).run Tryd.prog w = .ok (.func fn first cap) w := fun _ _ _ _ => rfl
    have hC : ∀ w0 g h, Hid (KpJ w g h k e s (stv k t) w0) → Calls Tryd.prog 60 #[.func (.func 54) #[.agg #[.int .i64 k, .string t]] #[], .agg #[.int .i64 k, .int .i64 e, .int .i64 s]] w0 fun r w' => r = .returned (.agg #[.int .i64 k, .int .i64 (chM (rM k e s) k t), .int .i64 s]) ∧ Below w0.heap.size w0 w' := fun w0 _ _ H => implAgain k e s t w0 hk h ht H.out.ks H.out.pos
    have HB : Hid (chkB k e s t = (chM (rM k e s) k t == e)) := by show _ = _; unfold chkB; rw [h, Bool.true_and]
    rw [h] at hR
    generalize chM (rM k e s) k t = M at *
    clear h
    have t1 : (k == k) = true := by simp
    have t2 : (s == s) = true := by simp
    by_cases hm : M = e
    · have HT : Hid (chkB k e s t = true) := by show _ = _; rw [HB.out, hm]; simp
      subst hm
      have t3 : (M == M) = true := by simp
      clear HB
      go_enter Tryd.func44, Tryd.ntmps44
      go_wp2_with (first
        | (with_reducible refine wpList_boxV (w := w) (by with_unfolding_all rfl) 57 (.tmp 0) (by with_unfolding_all rfl) (svs k M s) (by with_unfolding_all rfl) ?_; intro w1 hA1 hB1 hS1; obtain ⟨p0, p1, p2⟩ := hA1.sig)
        | (go_at_call 43; with_reducible refine (hR w1).mono ?_; rintro r w2 ⟨rfl, hB2⟩; have V2 := hA1.below hB2 (by omega); obtain ⟨q0, q1, q2⟩ := V2.sig; have z2 := hB2.size)
        | (with_reducible refine wpList_allocV (w := w2) (by with_unfolding_all rfl) 74 (by with_unfolding_all rfl) (stv 0 ⟨#[]⟩) Tryd.infoT ?_; intro w3 hA3 hB3 hS3)
        | (with_reducible refine wpList_storeV (w := w3) (by with_unfolding_all rfl) 74 (.tmp 5) (.tmp 17) (by with_unfolding_all rfl) w2.heap.size (stv 0 ⟨#[]⟩) (stv k t) (by with_unfolding_all rfl) (by with_unfolding_all rfl) hA3 2 Tryd.sizeT (by with_unfolding_all rfl) (by with_unfolding_all rfl) (stv_one _ _) ?_; intro w4 hA4 hB4 hF4 hS4; have b24 : Below w2.heap.size w2 w4 := hB3.trans (hB4 _ (Nat.le_refl _)); have b04 : Below w.heap.size w w4 := (hB1.trans (hB2.mono (by omega))).trans (b24.mono (by omega)); have HS : Hid (KpJ w w.heap.size w2.heap.size k M s (stv k t) w4.drew) := KpJ.drew (KpJ.start b04 (V2.below b24 (by omega)) hA4 (HK.out.below b04 h0) (by omega) (by omega))))
      clear p0 p1 p2 q0 q1 q2 hA1 hA3 hA4 hB1 hB2 hB3 hB4 hF4 V2 b24 b04 HK hR
      generalize w2.heap.size = g at *
      go_region_held3 (fun w' => w'.cell? ⟨w.heap.size, 0, none⟩ = some (.int .i64 k) ∧ w'.cell? ⟨w.heap.size, 1, none⟩ = some (.int .i64 M) ∧ w'.cell? ⟨w.heap.size, 2, none⟩ = some (.int .i64 s) ∧ w'.cell? ⟨g, 0, none⟩ = some (.int .i64 k) ∧ w'.cell? ⟨g, 1, none⟩ = some (.string t) ∧ Hid (KpJ w w.heap.size g k M s (stv k t) w'))
        (first | exact KpJ.six HS | exact KpJ.six (KpJ.hid HS h6))
        (first
          | (go_at_call 60; refine (hC _ _ _ HS).mono ?_; rintro r w6 ⟨rfl, h6⟩))
      all_goals
        have B6 : Below w.heap.size w w6 := (KpJ.hid HS h6).out.below
        clear HS h6 hC
        go_wp2
        go_ret
        exact ⟨retB HT.out.symm, B6⟩
    · have HT : Hid (chkB k e s t = false) := by show _ = _; rw [HB.out]; simpa using hm
      have t3 : (e == M) = false := beq_eq_false_iff_ne.2 (fun h => hm h.symm)
      clear HB hm
      go_enter Tryd.func44, Tryd.ntmps44
      go_wp2_with (first
        | (with_reducible refine wpList_boxV (w := w) (by with_unfolding_all rfl) 57 (.tmp 0) (by with_unfolding_all rfl) (svs k e s) (by with_unfolding_all rfl) ?_; intro w1 hA1 hB1 hS1; obtain ⟨p0, p1, p2⟩ := hA1.sig)
        | (go_at_call 43; with_reducible refine (hR w1).mono ?_; rintro r w2 ⟨rfl, hB2⟩; have V2 := hA1.below hB2 (by omega); obtain ⟨q0, q1, q2⟩ := V2.sig; have z2 := hB2.size)
        | (with_reducible refine wpList_allocV (w := w2) (by with_unfolding_all rfl) 74 (by with_unfolding_all rfl) (stv 0 ⟨#[]⟩) Tryd.infoT ?_; intro w3 hA3 hB3 hS3)
        | (with_reducible refine wpList_storeV (w := w3) (by with_unfolding_all rfl) 74 (.tmp 5) (.tmp 17) (by with_unfolding_all rfl) w2.heap.size (stv 0 ⟨#[]⟩) (stv k t) (by with_unfolding_all rfl) (by with_unfolding_all rfl) hA3 2 Tryd.sizeT (by with_unfolding_all rfl) (by with_unfolding_all rfl) (stv_one _ _) ?_; intro w4 hA4 hB4 hF4 hS4; have b24 : Below w2.heap.size w2 w4 := hB3.trans (hB4 _ (Nat.le_refl _)); have b04 : Below w.heap.size w w4 := (hB1.trans (hB2.mono (by omega))).trans (b24.mono (by omega)); have HS : Hid (KpJ w w.heap.size w2.heap.size k e s (stv k t) w4.drew) := KpJ.drew (KpJ.start b04 (V2.below b24 (by omega)) hA4 (HK.out.below b04 h0) (by omega) (by omega))))
      clear p0 p1 p2 q0 q1 q2 hA1 hA3 hA4 hB1 hB2 hB3 hB4 hF4 V2 b24 b04 HK hR
      generalize w2.heap.size = g at *
      go_region_held3 (fun w' => w'.cell? ⟨w.heap.size, 0, none⟩ = some (.int .i64 k) ∧ w'.cell? ⟨w.heap.size, 1, none⟩ = some (.int .i64 e) ∧ w'.cell? ⟨w.heap.size, 2, none⟩ = some (.int .i64 s) ∧ w'.cell? ⟨g, 0, none⟩ = some (.int .i64 k) ∧ w'.cell? ⟨g, 1, none⟩ = some (.string t) ∧ Hid (KpJ w w.heap.size g k e s (stv k t) w'))
        (first | exact KpJ.six HS | exact KpJ.six (KpJ.hid HS h6))
        (first
          | (go_at_call 60; refine (hC _ _ _ HS).mono ?_; rintro r w6 ⟨rfl, h6⟩))
      all_goals
        have B6 : Below w.heap.size w w6 := (KpJ.hid HS h6).out.below
        clear HS h6 hC
        go_wp2
        go_ret
        exact ⟨retB HT.out.symm, B6⟩
  · have hf : sigB k e s = false := by simpa using h
    have HB : Hid (chkB k e s t = false) := by show _ = _; unfold chkB; rw [hf, Bool.false_and]
    rw [hf] at hR
    clear h hf
    go_enter Tryd.func44, Tryd.ntmps44
    go_wp2_with (first
      | (with_reducible refine wpList_boxV (w := w) (by with_unfolding_all rfl) 57 (.tmp 0) (by with_unfolding_all rfl) (svs k e s) (by with_unfolding_all rfl) ?_; intro w1 hA1 hB1 hS1; obtain ⟨p0, p1, p2⟩ := hA1.sig)
      | (go_at_call 43; with_reducible refine (hR w1).mono ?_; rintro r w2 ⟨rfl, hB2⟩))
    go_ret
    exact ⟨retB HB.out.symm, hB1.trans (hB2.mono (by omega))⟩

/- What a secret has signed passes. -/
theorem pass_own {x : Int} {t : ByteArray} (hx : IsSec x) : sigB (powM 4 x 2147483579) (eM x t) (sM x t) = true ∧ chkB (powM 4 x 2147483579) (eM x t) (sM x t) t = true := by
  have kb := kM_bd x t
  have eb := eM_bd x t
  have sb := sM_bd x t
  have h1 : sigB (powM 4 x 2147483579) (eM x t) (sM x t) = true := by
    unfold sigB
    rw [gr_key hx, expB_yes eb, expB_yes sb]
    rfl
  refine ⟨h1, ?_⟩
  unfold chkB
  rw [h1, Bool.true_and]
  have h2 : rM (powM 4 x 2147483579) (eM x t) (sM x t) = powM 4 (kM x t) 2147483579 := back hx (by omega) kb.2 eb.1 eb.2
  rw [h2, beq_iff_eq]
  rfl
theorem pass_zero (t : ByteArray) : chkB 0 0 0 t = false := by
  unfold chkB sigB grB
  rw [decide_eq_false (by omega)]
  rfl
end Go.Proofs.YtmahpmjkejnkfaaDoor
