/- SignText on the program's side: the one-time secret, the challenge as a method value, the answer to it. -/
import Derived.Test.YtmahpmjkejnkfaaDoorSgn
import Derived.Deep.RegionHeld3
namespace Go.Proofs.YtmahpmjkejnkfaaDoor
open Go.RowKit
set_option linter.unusedVariables false

def stv (y : Int) (t : ByteArray) : List Value := [.int .i64 y, .string t]
abbrev StVal (y : Int) (t : ByteArray) : Value := .agg (stv y t).toArray
theorem stv_one (y : Int) (t : ByteArray) : ∀ v ∈ stv y t, v.oneCell' = true := by
  intro v hv
  simp [stv] at hv
  rcases hv with h | h <;> (rw [h]; rfl)
theorem Tryd.infoT : (Tryd.prog.info? 74).map (fun i => i.zero) = some (some (.agg (stv 0 ⟨#[]⟩).toArray)) := by kernel_rfl
theorem Tryd.undT : ∃ d, Tryd.prog.underlying 74 = some d ∧ d.isRow = true := ⟨_, Tryd.underlying74, rfl⟩
theorem Tryd.sizeT : (Tryd.prog.info? 74).map (·.size) = some 2 := by kernel_rfl
abbrev ChF (y : Int) (t : ByteArray) : Value := .func (.func 54) #[StVal y t] #[]

set_option maxRecDepth 100000 in
set_option maxHeartbeats 1000000 in
theorem implOnce (x : Int) (t : ByteArray) (w : World) (hx : I64 x) (ht : t.size ≤ 19980) (ha : ArrU w 0 keys) (h0 : 0 < w.heap.size) :
    Calls Tryd.prog 55 #[.int .i64 x, .string t] w fun e w' => e = .returned (.int .i64 (kM x t)) ∧ Below w.heap.size w w' := by
  have hP : ∀ w0, Calls Tryd.prog 69 #[.int .i64 x] w0 fun e w' => e = .returned (.string (putS x)) ∧ Below w0.heap.size w0 w' := fun w0 => implPut x w0 hx
  have hN : ∀ w0, ArrU w0 0 keys → 0 < w0.heap.size → Calls Tryd.prog 68 #[.string (kT x t)] w0 fun e w' => e = .returned (.int .i64 (num7 (kT x t))) ∧ Below w0.heap.size w0 w' := fun w0 k1 k2 => implNum _ w0 (by have := kT_size x t; omega) k1 k2
  have HK : Hid (ArrU w 0 keys) := ha
  have hb := num7_bd (kT x t)
  have eK : 1 + num7 (kT x t) % 1073741788 = kM x t := rfl
  have s1 := putS_size x
  have s3 := kT_size x t
  obtain ⟨C, hCc⟩ : ∃ C, (⟨#[75]⟩ : ByteArray) ++ putS x = C := ⟨_, rfl⟩
  have hT : C ++ t = kT x t := by rw [← hCc]; rfl
  have s4 : C.size ≤ 11 := by rw [← hCc, ByteArray.size_append]; have : (⟨#[75]⟩ : ByteArray).size = 1 := rfl; omega
  generalize kM x t = K at *
  generalize num7 (kT x t) = V at *
  generalize kT x t = T at *
  generalize putS x = A at *
  clear ha
  go_enter Tryd.func55, Tryd.ntmps55
  go_wp2_with (first
    | (go_at_call 69; with_reducible refine (hP w).mono ?_; rintro e w1 ⟨rfl, hB1⟩; have z1 := hB1.size)
    | (go_at_call 68; refine (hN w1 (HK.out.below hB1 h0) (by omega)).mono ?_; rintro e w2 ⟨rfl, hB2⟩))
  go_ret
  exact ⟨rfl, hB1.trans (hB2.mono z1)⟩
set_option maxRecDepth 100000 in
set_option maxHeartbeats 1000000 in
theorem implStm (y r : Int) (t : ByteArray) (w : World) (hr : InG r) (hk : InG y) (ht : t.size ≤ 19980) (ha : ArrU w 0 keys) (h0 : 0 < w.heap.size) :
    Calls Tryd.prog 54 #[StVal y t, .int .i64 r] w fun e w' => e = .returned (.int .i64 (chM r y t)) ∧ Below w.heap.size w w' := by
  have hC : ∀ w0, ArrU w0 0 keys → 0 < w0.heap.size → Calls Tryd.prog 67 #[.int .i64 r, .int .i64 y, .string t] w0 fun e w' => e = .returned (.int .i64 (chM r y t)) ∧ Below w0.heap.size w0 w' := fun w0 k1 k2 => implChal r y t w0 hr hk ht k1 k2
  have HK : Hid (ArrU w 0 keys) := ha
  generalize chM r y t = M at *
  clear ha
  go_enter Tryd.func54, Tryd.ntmps54
  go_wp2_with (first
    | (with_reducible refine wpList_boxV (w := w) (by with_unfolding_all rfl) 74 (.tmp 0) (by with_unfolding_all rfl) (stv y t) (by with_unfolding_all rfl) ?_; intro w1 hA1 hB1 hS1; have p0 := hA1.cell (k := 0) (v := .int .i64 y) rfl; have p1 := hA1.cell (k := 1) (v := .string t) rfl)
    | (go_at_call 67; refine (hC w1 (HK.out.below hB1 h0) (by omega)).mono ?_; rintro e w2 ⟨rfl, hB2⟩))
  go_ret
  exact ⟨rfl, hB1.trans (hB2.mono (by omega))⟩
theorem mulM_sec {e x : Int} (h1 : 0 ≤ e) (h2 : e < 1073741789) (h3 : IsSec x) : mulM e x 1073741789 = e * x % 1073741789 := by
  obtain ⟨p, q, z, r, e1, e2, e3, e4, HM, _⟩ := mul_parts (a := e) (b := x) (m := 1073741789) h1 (by have := h3.1; omega) (by omega) (by omega)
  rw [HM.out, ← e4, ← e3, ← e1, ← e2, Int.emod_eq_of_lt h1 h2, Int.emod_eq_of_lt (by have := h3.1; omega) h3.2]
set_option maxRecDepth 100000 in
set_option maxHeartbeats 1000000 in
theorem implAns (y x k : Int) (t : ByteArray) (w : World) (hx : IsSec x) (hk : InG y) (k1 : 1 ≤ k) (k2 : k < 1073741789) (ht : t.size ≤ 19980) (ha : ArrU w 0 keys) (h0 : 0 < w.heap.size) :
    Calls Tryd.prog 53 #[ChF y t, .int .i64 x, .int .i64 k] w fun e w' => e = .returned (.tuple #[.int .i64 (chM (powM 4 k 2147483579) y t), .int .i64 ((k + chM (powM 4 k 2147483579) y t * x % 1073741789) % 1073741789)]) ∧ Below w.heap.size w w' := by
  have p3 : 1 ≤ powM 4 k 2147483579 := powM_pos gr_g (by omega)
  have p1 : powM 4 k 2147483579 < 2147483579 := powM_lt
  have hU : ∀ w0, Calls Tryd.prog 65 #[.int .i64 4, .int .i64 k] w0 fun e w' => e = .returned (.int .i64 (powM 4 k 2147483579)) ∧ w0 = w' := fun w0 => (implUpow 4 k w0 (i64_of (by omega) (by omega)) (i64_of (by omega) (by omega)) (by omega)).mono fun e w' h => ⟨by rw [h.1, upow_small (by omega) k2], h.2.symm⟩
  have hC : Calls Tryd.prog 54 #[StVal y t, .int .i64 (powM 4 k 2147483579)] w fun e w' => e = .returned (.int .i64 (chM (powM 4 k 2147483579) y t)) ∧ Below w.heap.size w w' := implStm y _ t w ⟨p3, p1⟩ hk ht ha h0
  have eb := chM_bd (powM 4 k 2147483579) y t
  have hM : ∀ w0, Calls Tryd.prog 66 #[.int .i64 (chM (powM 4 k 2147483579) y t), .int .i64 x, .int .i64 1073741789] w0 fun e w' => e = .returned (.int .i64 (chM (powM 4 k 2147483579) y t * x % 1073741789)) ∧ Below w0.heap.size w0 w' := fun w0 => (implMul _ x 1073741789 w0 (i64_of (by omega) (by omega)) (i64_of (by have := hx.1; omega) (by have := hx.2; omega)) (i64_of (by omega) (by omega))).mono fun e w' h => by
    obtain ⟨h1, n, h2⟩ := h
    rw [mulM_sec eb.1 eb.2 hx] at h1
    exact ⟨h1, by rw [h2]; exact belowN (Below.refl _ _) n⟩
  obtain ⟨M, hMm, m0, m1⟩ : ∃ M, chM (powM 4 k 2147483579) y t * x % 1073741789 = M ∧ 0 ≤ M ∧ M < 1073741789 := ⟨_, rfl, by omega, by omega⟩
  rw [hMm] at hM ⊢
  have HC : Hid _ := hC
  clear ha hC
  generalize chM (powM 4 k 2147483579) y t = E at *
  generalize powM 4 k 2147483579 = R at *
  go_enter Tryd.func53, Tryd.ntmps53
  go_wp2_with (first
    | (go_at_call 65; with_reducible refine (hU _).mono ?_; rintro e w' ⟨rfl, rfl⟩)
    | (go_at_call 54; refine Calls.mono HC.out ?_; rintro e w1 ⟨rfl, hB1⟩)
    | (go_at_call 66; refine (hM w1).mono ?_; rintro e w2 ⟨rfl, hB2⟩))
  exact bodyPost_ret (v := .tuple #[.int .i64 E, .int .i64 ((k + M) % 1073741789)]) (by simp [results, Tryd.results53, go_sem]) rfl ⟨rfl, hB1.trans (hB2.mono hB1.size)⟩

/- What stands while SignText works: its answer's variable, the statement's variable, the numbers of the rounds. -/
structure KpI (w : World) (g4 g5 : Nat) (y : Int) (t : ByteArray) (w' : World) : Prop where
  below : Below w.heap.size w w'
  v4 : RowV w' g4 (svs 0 0 0)
  v5 : RowV w' g5 (stv y t)
  ks : ArrU w' 0 keys
  pos : 0 < w'.heap.size
theorem KpI.hid {w w' w2 : World} {g4 g5 : Nat} {y : Int} {t : ByteArray} (h : Hid (KpI w g4 g5 y t w')) (hb : Below w'.heap.size w' w2) : Hid (KpI w g4 g5 y t w2) :=
  ⟨h.out.below.trans (hb.mono h.out.below.size), h.out.v4.below hb (h.out.v4.lt (svs_ne _ _ _)), h.out.v5.below hb (h.out.v5.lt (by simp [stv])), h.out.ks.below hb h.out.pos, Nat.lt_of_lt_of_le h.out.pos hb.size⟩
theorem KpI.three {w w' : World} {g4 g5 : Nat} {y : Int} {t : ByteArray} (h : Hid (KpI w g4 g5 y t w')) : w'.cell? ⟨g5, 0, none⟩ = some (.int .i64 y) ∧ w'.cell? ⟨g5, 1, none⟩ = some (.string t) ∧ Hid (KpI w g4 g5 y t w') :=
  ⟨h.out.v5.cell (k := 0) rfl, h.out.v5.cell (k := 1) rfl, h⟩
theorem KpI.start {w w' : World} {g4 g5 : Nat} {y : Int} {t : ByteArray} (h1 : Below w.heap.size w w') (h2 : RowV w' g4 (svs 0 0 0)) (h3 : RowV w' g5 (stv y t)) (h4 : ArrU w' 0 keys) (h5 : 0 < w'.heap.size) : Hid (KpI w g4 g5 y t w'.drew) :=
  ⟨h1.drew, h2.drew, h3.drew, h4.drew, h5⟩
set_option maxRecDepth 100000 in
set_option maxHeartbeats 2000000 in
theorem implSign (x : Int) (t : ByteArray) (w : World) (hx : I64 x) (hs : IsSec x) (ht : t.size ≤ 19980) (ha : ArrU w 0 keys) (h0 : 0 < w.heap.size) :
    Calls Tryd.prog 35 #[.int .i64 x, .string t] w fun r w' => r = .returned (SVal (powM 4 x 2147483579) (eM x t) (sM x t)) ∧ Below w.heap.size w w' := by
  have kb := kM_bd x t
  have p2 : powM 4 x 2147483579 < 2147483579 := powM_lt
  have p4 : 1 ≤ powM 4 x 2147483579 := powM_pos gr_g (by have := hs.1; omega)
  have hS : ∀ w0, Calls Tryd.prog 51 #[.int .i64 x] w0 fun e w' => e = .returned (.bool true) ∧ w0 = w' := fun w0 => (implSec x w0 hx).mono fun e w' h => ⟨by rw [h.1, secB_yes hs], h.2.symm⟩
  have hK : ∀ w0, Calls Tryd.prog 52 #[.int .i64 x] w0 fun e w' => e = .returned (.int .i64 (powM 4 x 2147483579)) ∧ w0 = w' := fun w0 => (implPub x w0 hx).mono fun e w' h => ⟨by rw [h.1, show pubM x = _ from if_pos hs], h.2.symm⟩
  have hO : ∀ w0 g4 g5 y, Hid (KpI w g4 g5 y t w0) → Calls Tryd.prog 55 #[.int .i64 x, .string t] w0 fun e w' => e = .returned (.int .i64 (kM x t)) ∧ Below w0.heap.size w0 w' := fun w0 g4 g5 y h => implOnce x t w0 hx ht h.out.ks h.out.pos
  have hA : ∀ w0 g4 g5, Hid (KpI w g4 g5 (powM 4 x 2147483579) t w0) → Calls Tryd.prog 53 #[ChF (powM 4 x 2147483579) t, .int .i64 x, .int .i64 (kM x t)] w0 fun e w' => e = .returned (.tuple #[.int .i64 (eM x t), .int .i64 (sM x t)]) ∧ Below w0.heap.size w0 w' := fun w0 g4 g5 h => implAns _ x _ t w0 hs ⟨p4, p2⟩ kb.1 kb.2 ht h.out.ks h.out.pos
  have HK : Hid (ArrU w 0 keys) := ha
  have hmf : ∀ (fn : Fn) (first cap : Array Value) (w : World), (Instr.makeFunc fn first cap).run Tryd.prog w = .ok (.func fn first cap) w := fun _ _ _ _ => rfl
  clear ha
  generalize sM x t = S at *
  generalize eM x t = E at *
  generalize powM 4 x 2147483579 = Y at *
  generalize kM x t = K at *
  go_enter Tryd.func35, Tryd.ntmps35
  go_wp2_with (first
    | (with_reducible refine wpList_allocV (w := w) (by with_unfolding_all rfl) 57 (by with_unfolding_all rfl) (svs 0 0 0) Tryd.infoS ?_; intro w1 hA1 hB1 hS1)
    | (go_at_call 51; with_reducible refine (hS _).mono ?_; rintro e w' ⟨rfl, rfl⟩)
    | (go_at_call 52; with_reducible refine (hK _).mono ?_; rintro e w' ⟨rfl, rfl⟩)
    | (with_reducible refine wpList_allocV (w := w1) (by with_unfolding_all rfl) 74 (by with_unfolding_all rfl) (stv 0 ⟨#[]⟩) Tryd.infoT ?_; intro w2 hA2 hB2 hS2)
    | (with_reducible refine wpList_storeV (w := w2) (by with_unfolding_all rfl) 74 (.tmp 5) (.tmp 20) (by with_unfolding_all rfl) w1.heap.size (stv 0 ⟨#[]⟩) (stv Y t) (by with_unfolding_all rfl) (by with_unfolding_all rfl) hA2 2 Tryd.sizeT (by with_unfolding_all rfl) (by with_unfolding_all rfl) (stv_one _ _) ?_; intro w3 hA3 hB3 hF3 hS3; have b13 : Below w1.heap.size w1 w3 := hB2.trans (hB3 _ (by omega)); have b03 : Below w.heap.size w w3 := hB1.trans (b13.mono (by omega)); rw [hS1] at hA3; have HS : Hid (KpI w w.heap.size (w.heap.size + 1) Y t w3.drew) := KpI.start b03 (hA1.below b13 (by omega)) hA3 (HK.out.below b03 h0) (by omega)))
  go_region_held3 (fun w' => w'.cell? ⟨w.heap.size + 1, 0, none⟩ = some (.int .i64 Y) ∧ w'.cell? ⟨w.heap.size + 1, 1, none⟩ = some (.string t) ∧ Hid (KpI w w.heap.size (w.heap.size + 1) Y t w'))
    (first | exact KpI.three HS | exact KpI.three (KpI.hid HS h6) | exact KpI.three (KpI.hid (KpI.hid HS h6) h7))
    (first
      | (go_at_call 55; refine (hO _ _ _ _ HS).mono ?_; rintro e w6 ⟨rfl, h6⟩)
      | (go_at_call 53; refine (hA _ _ _ (KpI.hid HS h6)).mono ?_; rintro e w7 ⟨rfl, h7⟩))
  all_goals
    have HS7 : Hid (KpI w w.heap.size (w.heap.size + 1) Y t w7) := KpI.hid (KpI.hid HS h6) h7
    obtain ⟨p0, p1, _⟩ := KpI.three HS7
    have V7 := HS7.out.v4
    have B7 : Below w.heap.size w w7 := HS7.out.below
    clear HS HS7 h6 h7 hO hA hK hS HK hA1 hA2 hA3 hB1 hB2 hB3 hF3 b13 b03
    go_wp2_with (first
      | (with_reducible refine wpList_storeV (w := w7) (by with_unfolding_all rfl) 57 (.tmp 4) (.tmp 35) (by with_unfolding_all rfl) w.heap.size (svs 0 0 0) (svs Y E S) (by with_unfolding_all rfl) (by with_unfolding_all rfl) V7 3 Tryd.sizeS (by with_unfolding_all rfl) (by with_unfolding_all rfl) (svs_one _ _ _) ?_; intro w8 hA8 hB8 hF8 hS8))
    exact bodyPost_ret (results_V (t := 57) rfl _ w.heap.size _ rfl hA8 Tryd.undS 3 Tryd.sizeS rfl) rfl ⟨rfl, B7.trans (hB8 _ (Nat.le_refl _))⟩
end Go.Proofs.YtmahpmjkejnkfaaDoor
