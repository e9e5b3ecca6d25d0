/- SigCheck on both sides, of every Sig and every text that is not too long: the same; what a secret has signed passes. -/
import Derived.Test.YtbehflckihmgbaaDoorSgnI
namespace Go.Proofs.YtbehflckihmgbaaDoor
open Go.RowKit
set_option linter.unusedVariables false

def rM (k e s : Int) : Int := powM 4 s 2147483579 * powM k (1073741789 - e) 2147483579 % 2147483579
def chkB (k e s : Int) (t : ByteArray) : Bool := sigB k e s && (chM (rM k e s) k t == e)
theorem sigB_parts {k e s : Int} (h : sigB k e s = true) : grB k = true ∧ (0 ≤ e ∧ e < 1073741789) ∧ 0 ≤ s ∧ s < 1073741789 := by
  unfold sigB expB at h
  rw [Bool.and_eq_true, Bool.and_eq_true, decide_eq_true_eq, decide_eq_true_eq] at h
  exact ⟨h.1.1, h.1.2, h.2⟩
theorem grB_in {k : Int} (h : grB k = true) : InG k := by
  unfold grB at h
  rw [Bool.and_eq_true, decide_eq_true_eq] at h
  exact ⟨by omega, h.1.2⟩
theorem prodP {a b : Int} (a0 : 0 ≤ a) (a1 : a < 2147483579) (b0 : 0 ≤ b) (b1 : b < 2147483579) : 0 ≤ a * b ∧ a * b ≤ 4611685726360436041 := by
  refine ⟨Int.mul_nonneg a0 b0, ?_⟩
  have := Int.mul_le_mul (show a ≤ 2147483579 by omega) (show b ≤ 2147483579 by omega) b0 (by omega : (0 : Int) ≤ 2147483579)
  omega
theorem wn {o : Oper} {y : Nat → Option Bool} (h : o.guard = none) : Region.wanted o y = true := by simp [Region.wanted, h]
/- What stands while a Sig is checked: the Sig's variable. -/
structure KpC (w : World) (g : Nat) (k e s : Int) (w' : World) : Prop where
  below : Below w.heap.size w w'
  v : RowV w' g (svs k e s)
theorem KpC.hid {w w' w2 : World} {g : Nat} {k e s : Int} (h : Hid (KpC w g k e s w')) (hb : Below w'.heap.size w' w2) : Hid (KpC w g k e s w2) :=
  ⟨h.out.below.trans (hb.mono h.out.below.size), h.out.v.below hb (h.out.v.lt (svs_ne _ _ _))⟩
theorem KpC.drew {w w' : World} {g : Nat} {k e s : Int} (h : Hid (KpC w g k e s w')) : Hid (KpC w g k e s w'.drew) := ⟨h.out.below.drew, h.out.v.drew⟩
theorem KpC.four {w w' : World} {g : Nat} {k e s : Int} (h : Hid (KpC w g k e s w')) : w'.cell? ⟨g, 0, none⟩ = some (.int .i64 k) ∧ w'.cell? ⟨g, 1, none⟩ = some (.int .i64 e) ∧ w'.cell? ⟨g, 2, none⟩ = some (.int .i64 s) ∧ Hid (KpC w g k e s w') :=
  ⟨h.out.v.cell (k := 0) rfl, h.out.v.cell (k := 1) rfl, h.out.v.cell (k := 2) rfl, h⟩
set_option maxRecDepth 100000 in
set_option maxHeartbeats 1000000 in
theorem specChk0 (k e s : Int) (t : ByteArray) (w : World) (hk : I64 k) (h : sigB k e s = true) (ht : t.size ≤ 19980) :
    Calls Tryd.prog 41 #[SVal k e s, .string t] w fun r w' => r = .returned (.bool (chM (rM k e s) k t == e)) ∧ Below w.heap.size w w' := by
  obtain ⟨hg, he, hs⟩ := sigB_parts h
  have hin := grB_in hg
  have h1 : ∀ w0, Calls Tryd.prog 31 #[.int .i64 4, .int .i64 s, .int .i64 2147483579] w0 fun r w' => r = .returned (.int .i64 (powM 4 s 2147483579)) ∧ w' = w0 := fun w0 => specPow0 4 s 2147483579 w0 (i64_of (by omega) (by omega)) (i64_of (by omega) (by omega)) (by omega) (by omega) (by omega) (by omega)
  have h2 : ∀ w0, Calls Tryd.prog 31 #[.int .i64 k, .int .i64 (1073741789 - e), .int .i64 2147483579] w0 fun r w' => r = .returned (.int .i64 (powM k (1073741789 - e) 2147483579)) ∧ w' = w0 := fun w0 => specPow0 k _ 2147483579 w0 hk (i64_of (by omega) (by omega)) (by have := hin.1; omega) (by omega) (by omega) (by omega)
  have a0 : 0 ≤ powM 4 s 2147483579 := powM_ge
  have a1 : powM 4 s 2147483579 < 2147483579 := powM_lt
  have b0 : 0 ≤ powM k (1073741789 - e) 2147483579 := powM_ge
  have b1 : powM k (1073741789 - e) 2147483579 < 2147483579 := powM_lt
  have r0 : 0 ≤ rM k e s ∧ rM k e s < 2147483579 := by unfold rM; omega
  have hC : ∀ w0, Calls Tryd.prog 30 #[.int .i64 (rM k e s), .int .i64 k, .string t] w0 fun r w' => r = .returned (.int .i64 (chM (rM k e s) k t)) ∧ Below w0.heap.size w0 w' := fun w0 => specChal _ _ t w0 (i64_of (by omega) (by omega)) hk (by omega)
  obtain ⟨z0, z1⟩ := prodP a0 a1 b0 b1
  have eR : powM 4 s 2147483579 * powM k (1073741789 - e) 2147483579 % 2147483579 = rM k e s := rfl
  obtain ⟨z, hz⟩ : ∃ z, powM 4 s 2147483579 * powM k (1073741789 - e) 2147483579 = z := ⟨_, rfl⟩
  rw [hz] at eR z0 z1
  generalize chM (rM k e s) k t = M at *
  generalize rM k e s = R at *
  generalize powM 4 s 2147483579 = A at *
  generalize powM k (1073741789 - e) 2147483579 = B at *
  have d3 : z.tmod 2147483579 = R := by rw [Int.tmod_eq_emod_of_nonneg z0]; exact eR
  have d2 : IntKind.i64.wrap (A * B) = z := by rw [hz, IntKind.wrap_i64]; omega
  obtain ⟨d, hd⟩ : ∃ d, 1073741789 - e = d := ⟨_, rfl⟩
  have d1 : IntKind.i64.wrap (1073741789 - e) = d := by rw [hd, IntKind.wrap_i64]; omega
  rw [hd] at h2
  clear hin hg h hz hd eR
  go_enter Tryd.func41, Tryd.ntmps41
  go_wp2_with (first
    | (with_reducible refine wpList_boxV (w := w) (by with_unfolding_all rfl) 26 (.tmp 0) (by with_unfolding_all rfl) (svs k e s) (by with_unfolding_all rfl) ?_; intro w1 hA1 hB1 hS1; obtain ⟨p0, p1, p2⟩ := hA1.sig))
  have HS : Hid (KpC w w.heap.size k e s w1) := KpC.mk hB1 hA1
  have HS1 : Hid (KpC w w.heap.size k e s w1.drew) := KpC.drew HS
  clear hA1 hB1 HS
  go_region_held3 (fun w' => w'.cell? ⟨w.heap.size, 0, none⟩ = some (.int .i64 k) ∧ w'.cell? ⟨w.heap.size, 1, none⟩ = some (.int .i64 e) ∧ w'.cell? ⟨w.heap.size, 2, none⟩ = some (.int .i64 s) ∧ Hid (KpC w w.heap.size k e s w'))
    (first | exact KpC.four HS1)
    (first
      | (go_at_call 31; with_reducible refine (h1 _).mono ?_; rintro r w2 ⟨rfl, rfl⟩)
      | (go_at_call 31; with_reducible refine (h2 _).mono ?_; rintro r w2 ⟨rfl, rfl⟩))
  clear p0 p1 p2
  generalize w1.drew = w2 at *
  go_wp2_with fail
  have HS2 : Hid (KpC w w.heap.size k e s w2.drew) := KpC.drew HS1
  clear HS1
  go_region_held3 (fun w' => w'.cell? ⟨w.heap.size, 0, none⟩ = some (.int .i64 k) ∧ w'.cell? ⟨w.heap.size, 1, none⟩ = some (.int .i64 e) ∧ w'.cell? ⟨w.heap.size, 2, none⟩ = some (.int .i64 s) ∧ Hid (KpC w w.heap.size k e s w'))
    (first | exact KpC.four HS2 | exact KpC.four (KpC.hid HS2 h6))
    (first
      | (go_at_call 30; refine (hC _).mono ?_; rintro r w6 ⟨rfl, h6⟩))
  all_goals
    have B6 : Below w.heap.size w w6 := (KpC.hid HS2 h6).out.below
    clear HS2 h6
    go_wp2
    go_ret
    exact ⟨rfl, B6⟩

set_option maxRecDepth 100000 in
set_option maxHeartbeats 1000000 in
theorem specChk (k e s : Int) (t : ByteArray) (w : World) (hk : I64 k) (ht : t.size ≤ 19980) :
    Calls Tryd.prog 15 #[SVal k e s, .string t] w fun r w' => r = .returned (.bool (chkB k e s t)) ∧ Below w.heap.size w w' := by
  have hR : ∀ w0, Calls Tryd.prog 40 #[.agg #[.int .i64 k, .int .i64 e, .int .i64 s]] w0 fun r w' => r = .returned (.bool (sigB k e s)) ∧ Below w0.heap.size w0 w' := fun w0 => specSigR k e s w0 hk
  have d1 : decide ((t.size : Int) ≤ 20000) = true := decide_eq_true (by omega)
  by_cases h : sigB k e s = true
  · have hC : ∀ w0, Calls Tryd.prog 41 #[.agg #[.int .i64 k, .int .i64 e, .int .i64 s], .string t] w0 fun r w' => r = .returned (.bool (chkB k e s t)) ∧ Below w0.heap.size w0 w' := fun w0 => by
      have := specChk0 k e s t w0 hk h ht
      unfold chkB
      rw [h, Bool.true_and]
      exact this
    rw [h] at hR
    generalize chkB k e s t = b at *
    clear h
    go_enter Tryd.func15, Tryd.ntmps15
    go_wp2_with (first
      | (with_reducible refine wpList_boxV (w := w) (by with_unfolding_all rfl) 26 (.tmp 0) (by with_unfolding_all rfl) (svs k e s) (by with_unfolding_all rfl) ?_; intro w1 hA1 hB1 hS1; obtain ⟨p0, p1, p2⟩ := hA1.sig)
      | (go_at_call 40; with_reducible refine (hR w1).mono ?_; rintro r w2 ⟨rfl, hB2⟩; have V2 := hA1.below hB2 (by omega); obtain ⟨q0, q1, q2⟩ := V2.sig; have z2 := hB2.size)
      | (go_at_call 41; with_reducible refine (hC w2).mono ?_; rintro r w3 ⟨rfl, hB3⟩))
    go_ret
    exact ⟨rfl, (hB1.trans (hB2.mono (by omega))).trans (hB3.mono (by omega))⟩
  · have hf : sigB k e s = false := by simpa using h
    have HB : Hid (chkB k e s t = false) := by show _ = _; unfold chkB; rw [hf, Bool.false_and]
    rw [hf] at hR
    clear h hf
    go_enter Tryd.func15, Tryd.ntmps15
    go_wp2_with (first
      | (with_reducible refine wpList_boxV (w := w) (by with_unfolding_all rfl) 26 (.tmp 0) (by with_unfolding_all rfl) (svs k e s) (by with_unfolding_all rfl) ?_; intro w1 hA1 hB1 hS1; obtain ⟨p0, p1, p2⟩ := hA1.sig)
      | (go_at_call 40; with_reducible refine (hR w1).mono ?_; rintro r w2 ⟨rfl, hB2⟩))
    go_ret
    exact ⟨retB HB.out.symm, hB1.trans (hB2.mono (by omega))⟩

/- What stands while the program checks: the Sig's variable, the statement's or the answer's variable, the numbers of the rounds. -/
structure KpJ (w : World) (g h : Nat) (k e s : Int) (l : List Value) (w' : World) : Prop where
  below : Below w.heap.size w w'
  v : RowV w' g (svs k e s)
  u : RowV w' h l
  ks : ArrU w' 0 keys
  pos : 0 < w'.heap.size
  lt : h < w'.heap.size
theorem KpJ.hid {w w' w2 : World} {g h : Nat} {k e s : Int} {l : List Value} (H : Hid (KpJ w g h k e s l w')) (hb : Below w'.heap.size w' w2) : Hid (KpJ w g h k e s l w2) :=
  ⟨H.out.below.trans (hb.mono H.out.below.size), H.out.v.below hb (H.out.v.lt (svs_ne _ _ _)), H.out.u.below hb H.out.lt, H.out.ks.below hb H.out.pos, Nat.lt_of_lt_of_le H.out.pos hb.size, Nat.lt_of_lt_of_le H.out.lt hb.size⟩
theorem KpJ.drew {w w' : World} {g h : Nat} {k e s : Int} {l : List Value} (H : Hid (KpJ w g h k e s l w')) : Hid (KpJ w g h k e s l w'.drew) := ⟨H.out.below.drew, H.out.v.drew, H.out.u.drew, H.out.ks.drew, H.out.pos, H.out.lt⟩
theorem KpJ.four {w w' : World} {g h : Nat} {k e s : Int} {l : List Value} (H : Hid (KpJ w g h k e s l w')) : w'.cell? ⟨g, 0, none⟩ = some (.int .i64 k) ∧ w'.cell? ⟨g, 1, none⟩ = some (.int .i64 e) ∧ w'.cell? ⟨g, 2, none⟩ = some (.int .i64 s) ∧ Hid (KpJ w g h k e s l w') :=
  ⟨H.out.v.cell (k := 0) rfl, H.out.v.cell (k := 1) rfl, H.out.v.cell (k := 2) rfl, H⟩
theorem KpJ.start {w w' : World} {g h : Nat} {k e s : Int} {l : List Value} (h1 : Below w.heap.size w w') (h2 : RowV w' g (svs k e s)) (h3 : RowV w' h l) (h4 : ArrU w' 0 keys) (h5 : 0 < w'.heap.size) (h6 : h < w'.heap.size) : Hid (KpJ w g h k e s l w') :=
  ⟨h1, h2, h3, h4, h5, h6⟩

set_option maxRecDepth 100000 in
set_option maxHeartbeats 1000000 in
theorem implAgain (k e s : Int) (t : ByteArray) (w : World) (hk : I64 k) (h : sigB k e s = true) (ht : t.size ≤ 19980) (ha : ArrU w 0 keys) (h0 : 0 < w.heap.size) :
    Calls Tryd.prog 32 #[ChF k t, SVal k e s] w fun r w' => r = .returned (SVal k (chM (rM k e s) k t) s) ∧ Below w.heap.size w w' := by
  obtain ⟨hg, he, hs⟩ := sigB_parts h
  have hin := grB_in hg
  have h1 : ∀ w0, Calls Tryd.prog 37 #[.int .i64 4, .int .i64 s] w0 fun r w' => r = .returned (.int .i64 (powM 4 s 2147483579)) ∧ w' = w0 := fun w0 => by
    have := implUpow 4 s w0 (i64_of (by omega) (by omega)) (i64_of (by omega) (by omega)) (by omega)
    rw [upow_eq gr_g (by omega)] at this
    exact this
  have h2 : ∀ w0, Calls Tryd.prog 37 #[.int .i64 k, .int .i64 (1073741789 - e)] w0 fun r w' => r = .returned (.int .i64 (powM k (1073741789 - e) 2147483579)) ∧ w' = w0 := fun w0 => by
    have := implUpow k (1073741789 - e) w0 hk (i64_of (by omega) (by omega)) (by omega)
    rw [upow_eq hg (by omega)] at this
    exact this
  have a0 : 1 ≤ powM 4 s 2147483579 := powM_pos gr_g (by omega)
  have a1 : powM 4 s 2147483579 < 2147483579 := powM_lt
  have b0 : 1 ≤ powM k (1073741789 - e) 2147483579 := powM_pos hg (by omega)
  have b1 : powM k (1073741789 - e) 2147483579 < 2147483579 := powM_lt
  have eR : gmulM (powM 4 s 2147483579) (powM k (1073741789 - e) 2147483579) = rM k e s := by
    obtain ⟨z, hz, z0, z1, HZ⟩ := mul_in a0 a1 b0 b1
    unfold gmulM
    rw [if_pos ⟨⟨a0, a1⟩, b0, b1⟩, HZ.out, ← hz]
    rfl
  have h3 : ∀ w0, Calls Tryd.prog 51 #[.int .i64 (powM 4 s 2147483579), .int .i64 (powM k (1073741789 - e) 2147483579)] w0 fun r w' => r = .returned (.int .i64 (rM k e s)) ∧ Below w0.heap.size w0 w' := fun w0 => (implGMul _ _ w0 (i64_of (by omega) (by omega)) (i64_of (by omega) (by omega))).mono fun r w' hh => by
    obtain ⟨q1, n, q2⟩ := hh
    rw [eR] at q1
    exact ⟨q1, by rw [q2]; exact belowN (Below.refl _ _) n⟩
  have r1 : rM k e s < 2147483579 := by unfold rM; omega
  have r0 : 1 ≤ rM k e s := prod_pos hg (by omega) (by omega)
  have hC : ∀ w0, ArrU w0 0 keys → 0 < w0.heap.size → Calls Tryd.prog 25 #[StVal k t, .int .i64 (rM k e s)] w0 fun r w' => r = .returned (.int .i64 (chM (rM k e s) k t)) ∧ Below w0.heap.size w0 w' := fun w0 k1 k2 => implStm k _ t w0 ⟨r0, r1⟩ hin ht k1 k2
  have HK : Hid (ArrU w 0 keys) := ha
  obtain ⟨d, hd⟩ : ∃ d, 1073741789 - e = d := ⟨_, rfl⟩
  have d1 : IntKind.i64.wrap (1073741789 - e) = d := by rw [hd, IntKind.wrap_i64]; omega
  rw [hd] at h2 h3
  clear ha eR
  generalize chM (rM k e s) k t = M at *
  generalize rM k e s = R at *
  generalize powM 4 s 2147483579 = A at *
  rw [hd] at b0 b1
  generalize powM k d 2147483579 = B at *
  clear hin hg h hd
  go_enter Tryd.func32, Tryd.ntmps32
  go_wp2_with (first
    | (with_reducible refine wpList_boxV (w := w) (by with_unfolding_all rfl) 26 (.tmp 1) (by with_unfolding_all rfl) (svs k e s) (by with_unfolding_all rfl) ?_; intro w1 hA1 hB1 hS1)
    | (with_reducible refine wpList_allocV (w := w1) (by with_unfolding_all rfl) 26 (by with_unfolding_all rfl) (svs 0 0 0) Tryd.infoS ?_; intro w2 hA2 hB2 hS2))
  have b02 : Below w.heap.size w w2 := hB1.trans (hB2.mono (by omega))
  rw [hS1] at hA2
  have HS1 : Hid (KpJ w w.heap.size (w.heap.size + 1) k e s (svs 0 0 0) w2.drew) := KpJ.drew (KpJ.start b02 (hA1.below hB2 (by omega)) hA2 (HK.out.below b02 h0) (by omega) (by omega))
  clear hA1 hA2 hB1 hB2 b02 HK
  go_region_held3 (fun w' => w'.cell? ⟨w.heap.size, 0, none⟩ = some (.int .i64 k) ∧ w'.cell? ⟨w.heap.size, 1, none⟩ = some (.int .i64 e) ∧ w'.cell? ⟨w.heap.size, 2, none⟩ = some (.int .i64 s) ∧ Hid (KpJ w w.heap.size (w.heap.size + 1) k e s (svs 0 0 0) w'))
    (first | exact KpJ.four HS1 | exact KpJ.four (KpJ.hid HS1 h6))
    (first
      | (go_at_call 37; with_reducible refine (h1 _).mono ?_; rintro r w3 ⟨rfl, rfl⟩)
      | (go_at_call 37; with_reducible refine (h2 _).mono ?_; rintro r w3 ⟨rfl, rfl⟩)
      | (go_at_call 51; refine (h3 _).mono ?_; rintro r w6 ⟨rfl, h6⟩))
  have HS6 : Hid (KpJ w w.heap.size (w.heap.size + 1) k e s (svs 0 0 0) w6) := KpJ.hid HS1 h6
  clear HS1 h6 h1 h2 h3
  go_wp2_with fail
  have HS7 : Hid (KpJ w w.heap.size (w.heap.size + 1) k e s (svs 0 0 0) w6.drew) := KpJ.drew HS6
  clear HS6
  refine wp_region_held_drew (S := fun w' => ∃ l : List Value, l.length = 3 ∧ KpJ w w.heap.size (w.heap.size + 1) k e s l w') (by kernel_rfl) ⟨svs 0 0 0, rfl, HS7.out⟩ (fun hHeld => ?_)
  refine wpAnyH_take (i := 0) (oi := ⟨_, _, _, _, _, _⟩) (v := .pointer (some ⟨w.heap.size, 0, none⟩)) rfl (by kernel_rfl) (by kernel_rfl) (by kernel_rfl) (fun _ _ _ h => h) (Or.inl ⟨wn rfl, fun w' hSw => ?_⟩) hHeld ?_
  · go_simp
  simp only [Act.put, List.setIfInBounds_toArray, List.set_cons_zero, List.set_cons_succ]
  refine wpAnyH_take (i := 1) (oi := ⟨_, _, _, _, _, _⟩) (v := .int .i64 k) rfl (by kernel_rfl) (by kernel_rfl) (by kernel_rfl) (fun _ _ _ h => h) (Or.inl ⟨wn rfl, fun w' hSw => ?_⟩) hHeld ?_
  · obtain ⟨l, _, hl⟩ := hSw; have c0 := hl.v.sig.1; go_simp
  simp only [Act.put, List.setIfInBounds_toArray, List.set_cons_zero, List.set_cons_succ]
  refine wpAnyH_take (i := 2) (oi := ⟨_, _, _, _, _, _⟩) (v := ChF k t) rfl (by kernel_rfl) (by kernel_rfl) (by kernel_rfl) (fun _ _ _ h => h) (Or.inl ⟨wn rfl, fun w' hSw => ?_⟩) hHeld ?_
  · go_simp
  simp only [Act.put, List.setIfInBounds_toArray, List.set_cons_zero, List.set_cons_succ]
  refine wpAnyH_take (i := 3) (oi := ⟨_, _, _, _, _, _⟩) (v := .int .i64 R) rfl (by kernel_rfl) (by kernel_rfl) (by kernel_rfl) (fun _ _ _ h => h) (Or.inl ⟨wn rfl, fun w' hSw => ?_⟩) hHeld ?_
  · go_simp
  simp only [Act.put, List.setIfInBounds_toArray, List.set_cons_zero, List.set_cons_succ]
  refine wpAnyH_take (i := 5) (oi := ⟨_, _, _, _, _, _⟩) (v := .pointer (some ⟨w.heap.size, 2, none⟩)) rfl (by kernel_rfl) (by kernel_rfl) (by kernel_rfl) (fun _ _ _ h => h) (Or.inl ⟨wn rfl, fun w' hSw => ?_⟩) hHeld ?_
  · go_simp
  simp only [Act.put, List.setIfInBounds_toArray, List.set_cons_zero, List.set_cons_succ]
  refine wpAnyH_take (i := 6) (oi := ⟨_, _, _, _, _, _⟩) (v := .int .i64 s) rfl (by kernel_rfl) (by kernel_rfl) (by kernel_rfl) (fun _ _ _ h => h) (Or.inl ⟨wn rfl, fun w' hSw => ?_⟩) hHeld ?_
  · obtain ⟨l, _, hl⟩ := hSw; have c0 := hl.v.sig.2.2; go_simp
  simp only [Act.put, List.setIfInBounds_toArray, List.set_cons_zero, List.set_cons_succ]
  refine wpAnyH_ready (rs := [4]) (by kernel_rfl) (by simp) (AllReadyH.cons (o := ⟨_, _, _, _, _, _⟩) rfl (fun K hK => ?_) AllReadyH.nil)
  rewrite [if_pos (wn rfl)]
  go_simp
  refine (hC _ HS7.out.ks HS7.out.pos).mono ?_
  rintro r w8 ⟨rfl, hB8⟩
  go_wp2_with fail
  have HS8 : Hid (KpJ w w.heap.size (w.heap.size + 1) k e s (svs 0 0 0) w8) := KpJ.hid HS7 hB8
  have hH8 : ∃ l : List Value, l.length = 3 ∧ KpJ w w.heap.size (w.heap.size + 1) k e s l w8 := ⟨svs 0 0 0, rfl, HS8.out⟩
  refine hK.out _ _ hH8 (fun _ => ?_)
  clear hK K HS7 hB8 hHeld
  refine wpAnyH_take (i := 7) (oi := ⟨_, _, _, _, _, _⟩) (v := .agg #[.int .i64 k, .int .i64 M, .int .i64 s]) rfl (by kernel_rfl) (by kernel_rfl) (by kernel_rfl) (fun _ _ _ h => h) (Or.inl ⟨wn rfl, fun w' hSw => ?_⟩) hH8 ?_
  · go_simp
  simp only [Act.put, List.setIfInBounds_toArray, List.set_cons_zero, List.set_cons_succ]
  refine wpAnyH_ready (rs := [8]) (by kernel_rfl) (by simp) (AllReadyH.cons (o := ⟨_, _, _, _, _, _⟩) rfl (fun K hK => ?_) AllReadyH.nil)
  rewrite [if_pos (wn rfl)]
  with_reducible refine wp_store_mid 26 (.tmp 4) (.tmp 23) (by with_unfolding_all rfl) (w.heap.size + 1) 0 (svs k M s).toArray (by with_unfolding_all rfl) (by with_unfolding_all rfl) (by with_unfolding_all exact HS8.out.u.ths) (by with_unfolding_all exact Tryd.sizeS) (by rw [Array.all_eq_true_iff_forall_mem]; intro v hv; exact svs_one _ _ _ v (by simpa using hv)) ?_
  dsimp only
  have hA9 : RowV (w8.setCells (w.heap.size + 1) 0 (svs k M s)) (w.heap.size + 1) (svs k M s) := HS8.out.u.put rfl
  have B9 : Below w.heap.size w (w8.setCells (w.heap.size + 1) 0 (svs k M s)) := HS8.out.below.trans (Lib.below_setCells_w (by omega) _ _ _)
  have b9 : Below (w.heap.size + 1) w8 (w8.setCells (w.heap.size + 1) 0 (svs k M s)) := Lib.below_setCells_w (Nat.le_refl _) _ _ _
  have hz9 : (w8.setCells (w.heap.size + 1) 0 (svs k M s)).heap.size = w8.heap.size := setCells_size _ _ _ _
  have hH9 : ∃ l : List Value, l.length = 3 ∧ KpJ w w.heap.size (w.heap.size + 1) k e s l (w8.setCells (w.heap.size + 1) 0 (svs k M s)) := ⟨svs k M s, rfl, B9, HS8.out.v.below b9 (by omega), hA9, HS8.out.ks.below b9 (by omega), by rw [hz9]; exact HS8.out.pos, by rw [hz9]; exact HS8.out.lt⟩
  generalize w8.setCells (w.heap.size + 1) 0 (svs k M s) = w9 at *
  refine hK.out _ _ hH9 (fun _ => ?_)
  clear hK K
  refine wpAnyH_done (by kernel_rfl) ?_ _
  go_wp2_with fail
  exact bodyPost_ret (results_V (t := 26) rfl _ (w.heap.size + 1) _ rfl hA9 Tryd.undS 3 Tryd.sizeS rfl) rfl ⟨rfl, B9⟩
end Go.Proofs.YtbehflckihmgbaaDoor
