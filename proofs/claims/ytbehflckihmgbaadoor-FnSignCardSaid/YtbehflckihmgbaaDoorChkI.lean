/- SigCheck on the program's side, of every Sig and every text that is not too long; what a secret has signed passes. -/
import Derived.Test.YtbehflckihmgbaaDoorChk
namespace Go.Proofs.YtbehflckihmgbaaDoor
open Go.RowKit
set_option linter.unusedVariables false

theorem KpJ.six {w w' : World} {g h : Nat} {k e s y : Int} {t : ByteArray} (H : Hid (KpJ w g h k e s (stv y t) w')) : w'.cell? ⟨g, 0, none⟩ = some (.int .i64 k) ∧ w'.cell? ⟨g, 1, none⟩ = some (.int .i64 e) ∧ w'.cell? ⟨g, 2, none⟩ = some (.int .i64 s) ∧ w'.cell? ⟨h, 0, none⟩ = some (.int .i64 y) ∧ w'.cell? ⟨h, 1, none⟩ = some (.string t) ∧ Hid (KpJ w g h k e s (stv y t) w') :=
  ⟨H.out.v.cell (k := 0) rfl, H.out.v.cell (k := 1) rfl, H.out.v.cell (k := 2) rfl, H.out.u.cell (k := 0) rfl, H.out.u.cell (k := 1) rfl, H⟩
set_option maxRecDepth 100000 in
set_option maxHeartbeats 1000000 in
theorem implChk (k e s : Int) (t : ByteArray) (w : World) (hk : I64 k) (ht : t.size ≤ 19980) (ha : ArrU w 0 keys) (h0 : 0 < w.heap.size) :
    Calls Tryd.prog 10 #[SVal k e s, .string t] w fun r w' => r = .returned (.bool (chkB k e s t)) ∧ Below w.heap.size w w' := by
  have hR : ∀ w0, Calls Tryd.prog 12 #[.agg #[.int .i64 k, .int .i64 e, .int .i64 s]] w0 fun r w' => r = .returned (.bool (sigB k e s)) ∧ Below w0.heap.size w0 w' := fun w0 => implSigR k e s w0 hk
  have d1 : decide (20000 < (t.size : Int)) = false := decide_eq_false (by omega)
  have HK : Hid (ArrU w 0 keys) := ha
  clear ha
  by_cases h : sigB k e s = true
  · have hmf : ∀ (fn : Fn) (first cap : Array Value) (w : World), (Instr.makeFunc fn first cap).run Tryd.prog w = .ok (.func fn first cap) w := fun _ _ _ _ => rfl
    have hC : ∀ w0 g h, Hid (KpJ w g h k e s (stv k t) w0) → Calls Tryd.prog 32 #[.func (.func 25) #[.agg #[.int .i64 k, .string t]] #[], .agg #[.int .i64 k, .int .i64 e, .int .i64 s]] w0 fun r w' => r = .returned (.agg #[.int .i64 k, .int .i64 (chM (rM k e s) k t), .int .i64 s]) ∧ Below w0.heap.size w0 w' := fun w0 _ _ H => implAgain k e s t w0 hk h ht H.out.ks H.out.pos
    have HB : Hid (chkB k e s t = (chM (rM k e s) k t == e)) := by show _ = _; unfold chkB; rw [h, Bool.true_and]
    rw [h] at hR
    generalize chM (rM k e s) k t = M at *
    clear h
    have t1 : (k == k) = true := by simp
    have t2 : (s == s) = true := by simp
    by_cases hm : M = e
    · have HT : Hid (chkB k e s t = true) := by show _ = _; rw [HB.out, hm]; simp
      subst hm
      have t3 : (M == M) = true := by simp
      clear HB
      go_enter Tryd.func10, Tryd.ntmps10
      go_wp2_with (first
        | (with_reducible refine wpList_boxV (w := w) (by with_unfolding_all rfl) 26 (.tmp 0) (by with_unfolding_all rfl) (svs k M s) (by with_unfolding_all rfl) ?_; intro w1 hA1 hB1 hS1; obtain ⟨p0, p1, p2⟩ := hA1.sig)
        | (go_at_call 12; with_reducible refine (hR w1).mono ?_; rintro r w2 ⟨rfl, hB2⟩; have V2 := hA1.below hB2 (by omega); obtain ⟨q0, q1, q2⟩ := V2.sig; have z2 := hB2.size)
        | (with_reducible refine wpList_allocV (w := w2) (by with_unfolding_all rfl) 43 (by with_unfolding_all rfl) (stv 0 ⟨#[]⟩) Tryd.infoT ?_; intro w3 hA3 hB3 hS3)
        | (with_reducible refine wpList_storeV (w := w3) (by with_unfolding_all rfl) 43 (.tmp 5) (.tmp 17) (by with_unfolding_all rfl) w2.heap.size (stv 0 ⟨#[]⟩) (stv k t) (by with_unfolding_all rfl) (by with_unfolding_all rfl) hA3 2 Tryd.sizeT (by with_unfolding_all rfl) (by with_unfolding_all rfl) (stv_one _ _) ?_; intro w4 hA4 hB4 hF4 hS4; have b24 : Below w2.heap.size w2 w4 := hB3.trans (hB4 _ (Nat.le_refl _)); have b04 : Below w.heap.size w w4 := (hB1.trans (hB2.mono (by omega))).trans (b24.mono (by omega)); have HS : Hid (KpJ w w.heap.size w2.heap.size k M s (stv k t) w4.drew) := KpJ.drew (KpJ.start b04 (V2.below b24 (by omega)) hA4 (HK.out.below b04 h0) (by omega) (by omega))))
      clear p0 p1 p2 q0 q1 q2 hA1 hA3 hA4 hB1 hB2 hB3 hB4 hF4 V2 b24 b04 HK hR
      generalize w2.heap.size = g at *
      go_region_held3 (fun w' => w'.cell? ⟨w.heap.size, 0, none⟩ = some (.int .i64 k) ∧ w'.cell? ⟨w.heap.size, 1, none⟩ = some (.int .i64 M) ∧ w'.cell? ⟨w.heap.size, 2, none⟩ = some (.int .i64 s) ∧ w'.cell? ⟨g, 0, none⟩ = some (.int .i64 k) ∧ w'.cell? ⟨g, 1, none⟩ = some (.string t) ∧ Hid (KpJ w w.heap.size g k M s (stv k t) w'))
        (first | exact KpJ.six HS | exact KpJ.six (KpJ.hid HS h6))
        (first
          | (go_at_call 32; refine (hC _ _ _ HS).mono ?_; rintro r w6 ⟨rfl, h6⟩))
      all_goals
        have B6 : Below w.heap.size w w6 := (KpJ.hid HS h6).out.below
        clear HS h6 hC
        go_wp2
        go_ret
        exact ⟨retB HT.out.symm, B6⟩
    · have HT : Hid (chkB k e s t = false) := by show _ = _; rw [HB.out]; simpa using hm
      have t3 : (e == M) = false := beq_eq_false_iff_ne.2 (fun h => hm h.symm)
      clear HB hm
      go_enter Tryd.func10, Tryd.ntmps10
      go_wp2_with (first
        | (with_reducible refine wpList_boxV (w := w) (by with_unfolding_all rfl) 26 (.tmp 0) (by with_unfolding_all rfl) (svs k e s) (by with_unfolding_all rfl) ?_; intro w1 hA1 hB1 hS1; obtain ⟨p0, p1, p2⟩ := hA1.sig)
        | (go_at_call 12; with_reducible refine (hR w1).mono ?_; rintro r w2 ⟨rfl, hB2⟩; have V2 := hA1.below hB2 (by omega); obtain ⟨q0, q1, q2⟩ := V2.sig; have z2 := hB2.size)
        | (with_reducible refine wpList_allocV (w := w2) (by with_unfolding_all rfl) 43 (by with_unfolding_all rfl) (stv 0 ⟨#[]⟩) Tryd.infoT ?_; intro w3 hA3 hB3 hS3)
        | (with_reducible refine wpList_storeV (w := w3) (by with_unfolding_all rfl) 43 (.tmp 5) (.tmp 17) (by with_unfolding_all rfl) w2.heap.size (stv 0 ⟨#[]⟩) (stv k t) (by with_unfolding_all rfl) (by with_unfolding_all rfl) hA3 2 Tryd.sizeT (by with_unfolding_all rfl) (by with_unfolding_all rfl) (stv_one _ _) ?_; intro w4 hA4 hB4 hF4 hS4; have b24 : Below w2.heap.size w2 w4 := hB3.trans (hB4 _ (Nat.le_refl _)); have b04 : Below w.heap.size w w4 := (hB1.trans (hB2.mono (by omega))).trans (b24.mono (by omega)); have HS : Hid (KpJ w w.heap.size w2.heap.size k e s (stv k t) w4.drew) := KpJ.drew (KpJ.start b04 (V2.below b24 (by omega)) hA4 (HK.out.below b04 h0) (by omega) (by omega))))
      clear p0 p1 p2 q0 q1 q2 hA1 hA3 hA4 hB1 hB2 hB3 hB4 hF4 V2 b24 b04 HK hR
      generalize w2.heap.size = g at *
      go_region_held3 (fun w' => w'.cell? ⟨w.heap.size, 0, none⟩ = some (.int .i64 k) ∧ w'.cell? ⟨w.heap.size, 1, none⟩ = some (.int .i64 e) ∧ w'.cell? ⟨w.heap.size, 2, none⟩ = some (.int .i64 s) ∧ w'.cell? ⟨g, 0, none⟩ = some (.int .i64 k) ∧ w'.cell? ⟨g, 1, none⟩ = some (.string t) ∧ Hid (KpJ w w.heap.size g k e s (stv k t) w'))
        (first | exact KpJ.six HS | exact KpJ.six (KpJ.hid HS h6))
        (first
          | (go_at_call 32; refine (hC _ _ _ HS).mono ?_; rintro r w6 ⟨rfl, h6⟩))
      all_goals
        have B6 : Below w.heap.size w w6 := (KpJ.hid HS h6).out.below
        clear HS h6 hC
        go_wp2
        go_ret
        exact ⟨retB HT.out.symm, B6⟩
  · have hf : sigB k e s = false := by simpa using h
    have HB : Hid (chkB k e s t = false) := by show _ = _; unfold chkB; rw [hf, Bool.false_and]
    rw [hf] at hR
    clear h hf
    go_enter Tryd.func10, Tryd.ntmps10
    go_wp2_with (first
      | (with_reducible refine wpList_boxV (w := w) (by with_unfolding_all rfl) 26 (.tmp 0) (by with_unfolding_all rfl) (svs k e s) (by with_unfolding_all rfl) ?_; intro w1 hA1 hB1 hS1; obtain ⟨p0, p1, p2⟩ := hA1.sig)
      | (go_at_call 12; with_reducible refine (hR w1).mono ?_; rintro r w2 ⟨rfl, hB2⟩))
    go_ret
    exact ⟨retB HB.out.symm, hB1.trans (hB2.mono (by omega))⟩

/- What a secret has signed passes. -/
theorem pass_own {x : Int} {t : ByteArray} (hx : IsSec x) : sigB (powM 4 x 2147483579) (eM x t) (sM x t) = true ∧ chkB (powM 4 x 2147483579) (eM x t) (sM x t) t = true := by
  have kb := kM_bd x t
  have eb := eM_bd x t
  have sb := sM_bd x t
  have h1 : sigB (powM 4 x 2147483579) (eM x t) (sM x t) = true := by
    unfold sigB
    rw [gr_key hx, expB_yes eb, expB_yes sb]
    rfl
  refine ⟨h1, ?_⟩
  unfold chkB
  rw [h1, Bool.true_and]
  have h2 : rM (powM 4 x 2147483579) (eM x t) (sM x t) = powM 4 (kM x t) 2147483579 := back hx (by omega) kb.2 eb.1 eb.2
  rw [h2, beq_iff_eq]
  rfl
theorem pass_zero (t : ByteArray) : chkB 0 0 0 t = false := by
  unfold chkB sigB grB
  rw [decide_eq_false (by omega)]
  rfl
end Go.Proofs.YtbehflckihmgbaaDoor
