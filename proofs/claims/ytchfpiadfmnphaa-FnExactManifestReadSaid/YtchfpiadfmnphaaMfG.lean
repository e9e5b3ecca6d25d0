/- Manifests that are read, in the laws' helpers: held against others, marked, found marked. -/
import Derived.Test.YtchfpiadfmnphaaMfH
import Derived.Test.YtchfpiadfmnphaaJn4
import Derived.Test.YtchfpiadfmnphaaJn6
import Derived.Test.YtchfpiadfmnphaaMfE
import Derived.Test.YtchfpiadfmnphaaTy
namespace Go.Proofs.Ytchfpiadfmnphaa
open Go.RowKit
set_option linter.unusedVariables false

/- Blocks of the rows of a manifest. -/
def ManD (a1 a2 : Option Addr) (k : Nat) : Prop := (∃ ad, a1 = some ad ∧ k = ad.block) ∨ (∃ ad, a2 = some ad ∧ k = ad.block)
theorem VR.farM {T : Nat → Prop} {w w' : World} {a : Option Addr} {L : List Value} (h : VR w a L) (hm : Mrk T w w') (hd : ∀ ad, a = some ad → ¬ T ad.block) : VR w' a L := fun hl => by
  obtain ⟨g, e, hr⟩ := h hl
  exact ⟨g, e, row_blk hr (hm.blk g (hr.lt hl) (hd _ e))⟩
theorem ManB.dom {a1 a2 : Option Addr} {lo hi : Nat} (h : ManB a1 a2 lo hi) : ∀ b, ManD a1 a2 b → lo ≤ b ∧ b < hi := fun b hb => by
  rcases hb with ⟨ad, e, rfl⟩ | ⟨ad, e, rfl⟩
  · exact h.1 ad e
  · exact h.2.1 ad e
theorem layL_flat (l : List LayV) : (layL l).flatten.length = 2 * l.length := by rw [flatS_len _ (layL_all l), layL_len, Nat.mul_comm]
theorem labL_flat (l : List LabV) : (labL l).flatten.length = 2 * l.length := by rw [flatS_len _ (labL_all l), labL_len, Nat.mul_comm]
set_option maxRecDepth 100000 in
set_option maxHeartbeats 2000000 in
theorem markMan_any (nm : ByteArray) (a1 : Option Addr) (c1 y1 : Nat) (a2 : Option Addr) (c2 y2 : Nat) (L1 L2 : List Value) (k0 : Nat) (w : World) (hL1 : L1.length = 2 * y1) (hL2 : L2.length = 2 * y2) (h1 : VR w a1 L1) (h2 : VR w a2 L2) (hap : ∀ x y, a1 = some x → a2 = some y → x.block ≠ y.block) (hb1 : ∀ ad, a1 = some ad → ad.block < w.heap.size) (hb2 : ∀ ad, a2 = some ad → ad.block < w.heap.size) (hy1 : y1 ≤ 1100000) (hy2 : y2 ≤ 1100000) (h0 : 1 ≤ k0) (hk : k0 ≤ 800000000) :
    Calls Try.prog 58 #[.agg #[.string nm, .slice a1 y1 c1, .slice a2 y2 c2], .int .i64 (k0 : Int)] w fun r w' => ∃ z : Nat, r = .returned (.int .i64 (z : Int)) ∧ (z = k0 + 2 * y1 + 2 * y2) ∧ (VR w' a1 (mkLayC k0 (2 * y1)) ∧ VR w' a2 (mkLabC (k0 + 2 * y1) (2 * y2))) ∧ Mrk (ManD a1 a2) w w' := by
  have hC1 : ∀ w0, VR w0 a1 L1 → Calls Try.prog 113 #[.slice a1 y1 c1, .int .i64 (k0 : Int)] w0 fun r w' => ∃ z : Nat, r = .returned (.int .i64 (z : Int)) ∧ (z = k0 + 2 * y1) ∧ VR w' a1 (mkLayC k0 (2 * y1)) ∧ MkW a1 w0 w' ∧ w0.heap.size ≤ w'.heap.size := fun w0 n0 => (markLayS_any a1 c1 y1 k0 L1 w0 hL1 n0 hy1 h0 (by omega)).mono fun r w' h => ⟨_, h.1, rfl, h.2⟩
  have hC2 : ∀ w0 (z1 : Nat), VR w0 a2 L2 → z1 = k0 + 2 * y1 → Calls Try.prog 114 #[.slice a2 y2 c2, .int .i64 (z1 : Int)] w0 fun r w' => ∃ z : Nat, r = .returned (.int .i64 (z : Int)) ∧ (z = k0 + 2 * y1 + 2 * y2) ∧ VR w' a2 (mkLabC (k0 + 2 * y1) (2 * y2)) ∧ MkW a2 w0 w' ∧ w0.heap.size ≤ w'.heap.size := fun w0 z1 n0 e => by subst e; exact (markLabS_any a2 c2 y2 (k0 + 2 * y1) L2 w0 hL2 n0 hy2 (by omega) (by omega)).mono fun r w' h => ⟨_, h.1, rfl, h.2⟩
  have H1 := hidP h1
  have H2 := hidP h2
  have HAp := hidP hap
  have HB1 := hidP hb1
  have HB2 := hidP hb2
  clear h1 h2 hap hb1 hb2 hL1 hL2
  go_enter Try.func58, Try.ntmps58
  go_wp2_with (first
    | ((with_reducible refine wpList_boxV (w := w) (by with_unfolding_all rfl) 31 (.tmp 0) (by with_unfolding_all rfl) [.string nm, .slice a1 y1 c1, .slice a2 y2 c2] (by with_unfolding_all rfl) ?_); intro w1 hA1 hB1 hS1; have z1 : w.heap.size < w1.heap.size := (by omega); clear hS1; have cA := hA1.cell (k := 1) rfl)
    | (go_at_call 113; (with_reducible refine (hC1 w1 (H1.out.below hB1)).mono ?_); rintro r w2 ⟨z, rfl, hz, hv2, hm2, hs2⟩; have HZ := hidP hz; clear hz; have M2 := hm2.mrk hs2 (fun ad e => Nat.lt_trans (HB1.out ad e) z1); have R2 := row_blk hA1 (hm2.far w.heap.size z1 (fun ad e => Nat.ne_of_gt (HB1.out ad e))); have cB := R2.cell (k := 2) rfl; have V2 := (H2.out.below hB1).farM M2 (fun ad e ⟨bd, e2, e3⟩ => HAp.out bd ad e2 e e3.symm); clear cA)
    | (go_at_call 114; (with_reducible refine (hC2 w2 z V2 HZ.out).mono ?_); rintro r w3 ⟨y, rfl, hz3, hv3, hm3, hs3⟩; have HY := hidP hz3; clear hz3; have M3 := hm3.mrk hs3 (fun ad e => Nat.lt_of_lt_of_le (Nat.lt_trans (HB2.out ad e) z1) hs2); have V3 := hv2.farM M3 (fun ad e ⟨bd, e2, e3⟩ => HAp.out ad bd e e2 e3); clear cB))
  go_ret
  exact ⟨y, rfl, HY.out, ⟨V3, hv3⟩, ((Mrk.of hB1).trans (M2.mono fun k hk => Or.inl hk)).trans (M3.mono fun k hk => Or.inr hk)⟩
set_option maxRecDepth 100000 in
set_option maxHeartbeats 2000000 in
theorem heldMan_any (nm : ByteArray) (a1 : Option Addr) (c1 y1 : Nat) (a2 : Option Addr) (c2 y2 : Nat) (k0 : Nat) (w : World) (h1 : VR w a1 (mkLayC k0 (2 * y1))) (h2 : VR w a2 (mkLabC (k0 + 2 * y1) (2 * y2))) (hy1 : y1 ≤ 1100000) (hy2 : y2 ≤ 1100000) (h0 : 1 ≤ k0) (hk : k0 ≤ 800000000) :
    Calls Try.prog 59 #[.agg #[.string nm, .slice a1 y1 c1, .slice a2 y2 c2], .int .i64 (k0 : Int)] w fun r w' => ∃ z : Nat, r = .returned (.int .i64 (z : Int)) ∧ (z = k0 + 2 * y1 + 2 * y2) ∧ Below w.heap.size w w' := by
  have hC1 : ∀ w0, (VR w0 a1 (mkLayC k0 (2 * y1))) → Calls Try.prog 115 #[.slice a1 y1 c1, .int .i64 (k0 : Int)] w0 fun r w' => ∃ (z1 : Nat), r = .returned (.int .i64 (z1 : Int)) ∧ (z1 = k0 + 2 * y1) ∧ Below w0.heap.size w0 w' := fun w0 n0 => (heldLayS_any a1 c1 y1 k0 w0 n0 hy1 h0 (by omega)).mono fun r w' h => ⟨_, h.1, rfl, h.2⟩
  have hC2 : ∀ w0 (z1 : Nat), (VR w0 a2 (mkLabC (k0 + 2 * y1) (2 * y2))) → (z1 = k0 + 2 * y1) → Calls Try.prog 116 #[.slice a2 y2 c2, .int .i64 (z1 : Int)] w0 fun r w' => ∃ (z2 : Nat), r = .returned (.int .i64 (z2 : Int)) ∧ (z2 = k0 + 2 * y1 + 2 * y2) ∧ Below w0.heap.size w0 w' := fun w0 z1 n0 n1 => by subst n1; exact (heldLabS_any a2 c2 y2 (k0 + 2 * y1) w0 n0 hy2 (by omega) (by omega)).mono fun r w' h => ⟨_, h.1, rfl, h.2⟩
  have HS0 : Hid (Sta [] w [] [⟨fun k => k < w.heap.size, fun w' => VR w' a1 (mkLayC k0 (2 * y1)) ∧ VR w' a2 (mkLabC (k0 + 2 * y1) (2 * y2))⟩] w) := Sta.arg (fun w' => VR w' a1 (mkLayC k0 (2 * y1)) ∧ VR w' a2 (mkLabC (k0 + 2 * y1) (2 * y2))) (fun w' hb => ⟨h1.below hb, h2.below hb⟩)
  clear h1 h2
  go_enter Try.func59, Try.ntmps59
  go_wp2_with (first
    | ((with_reducible refine wpList_boxV (w := w) (by with_unfolding_all rfl) 31 (.tmp 0) (by with_unfolding_all rfl) [.string nm, .slice a1 y1 c1, .slice a2 y2 c2] (by with_unfolding_all rfl) ?_); intro w1 hA1 hB1 hS1; clear hS1; have HS1 := Sta.new HS0 hA1 hB1 (by simp); clear hA1 hB1; have cHS1_0_1 : w1.cell? ⟨w.heap.size, 1, none⟩ = some (.slice a1 y1 c1) := Sta.c (i := 0) HS1 rfl rfl)
    | (go_at_call 115; have n2_0 : VR w1 a1 (mkLayC k0 (2 * y1)) := (Sta.t (i := 0) HS1 rfl :).1; (with_reducible refine (hC1 w1 n2_0).mono ?_); rintro r w2 ⟨z1, rfl, z1f, hB2⟩; have Hz1f := hidP z1f; clear z1f; have HS2 := Sta.call HS1 hB2; clear hB2; have q1 : ¬ ((z1 : Int) < 0) := (by omega); clear cHS1_0_1; have cHS2_0_2 : w2.cell? ⟨w.heap.size, 2, none⟩ = some (.slice a2 y2 c2) := Sta.c (i := 0) HS2 rfl rfl)
    | (go_at_call 116; have n3_0 : VR w2 a2 (mkLabC (k0 + 2 * y1) (2 * y2)) := (Sta.t (i := 0) HS2 rfl :).2; (with_reducible refine (hC2 w2 z1 n3_0 Hz1f.out).mono ?_); rintro r w3 ⟨z2, rfl, z2f, hB3⟩; have Hz2f := hidP z2f; clear z2f; have HS3 := Sta.call HS2 hB3; clear hB3; have q2 : ¬ ((z2 : Int) < 0) := (by omega); clear cHS2_0_2))
  go_ret
  exact ⟨_, rfl, Hz2f.out, Sta.fin HS3⟩
set_option maxRecDepth 100000 in
set_option maxHeartbeats 2000000 in
theorem eqMo_any (nm : ByteArray) (ls : List LayV) (bs : List LabV) (a1 : Option Addr) (c1 : Nat) (a2 : Option Addr) (c2 : Nat) (c : Int) (b1 : Option Addr) (d1 : Nat) (b2 : Option Addr) (d2 : Nat) (w : World) (h1 : LayAt w a1 ls ∧ LabAt w a2 bs) (h2 : LayAt w b1 ls ∧ LabAt w b2 bs) (h3 : ls.length ≤ 10 ∧ bs.length ≤ 10) :
    Calls Try.prog 19 #[.agg #[.string nm, .slice a1 ls.length c1, .slice a2 bs.length c2, .int .i64 c], .agg #[.string nm, .slice b1 ls.length d1, .slice b2 bs.length d2, .int .i64 c]] w fun r w' => r = .returned (.bool true) ∧ Below w.heap.size w w' := by
  have hcc : (c != c) = false := by simp
  have hC1 : ∀ w0, (LayAt w0 a1 ls ∧ LabAt w0 a2 bs) → (LayAt w0 b1 ls ∧ LabAt w0 b2 bs) → Calls Try.prog 14 #[.agg #[.string nm, .slice a1 ls.length c1, .slice a2 bs.length c2], .agg #[.string nm, .slice b1 ls.length d1, .slice b2 bs.length d2]] w0 fun r w' => r = .returned (.bool true) ∧ Below w0.heap.size w0 w' := fun w0 n0 n1 => eqMan nm a1 b1 c1 d1 ls.length ls a2 b2 c2 d2 bs.length bs w0 rfl n0.1 n1.1 (by unfold maxLen; omega) rfl n0.2 n1.2 (by unfold maxLen; omega)
  have HS0 : Hid (Sta [] w [] [⟨fun k => k < w.heap.size, fun w' => (LayAt w' a1 ls ∧ LabAt w' a2 bs) ∧ LayAt w' b1 ls ∧ LabAt w' b2 bs⟩] w) := Sta.arg (fun w' => (LayAt w' a1 ls ∧ LabAt w' a2 bs) ∧ LayAt w' b1 ls ∧ LabAt w' b2 bs) (fun w' hb => ⟨⟨h1.1.below hb, h1.2.below hb⟩, h2.1.below hb, h2.2.below hb⟩)
  clear h1 h2
  go_enter Try.func19, Try.ntmps19
  go_wp2_with (first
    | ((with_reducible refine wpList_boxV (w := w) (by with_unfolding_all rfl) 37 (.tmp 0) (by with_unfolding_all rfl) [.string nm, .slice a1 ls.length c1, .slice a2 bs.length c2, .int .i64 c] (by with_unfolding_all rfl) ?_); intro w1 hA1 hB1 hS1; clear hS1; have HS1 := Sta.new HS0 hA1 hB1 (by simp); clear hA1 hB1)
    | ((with_reducible refine wpList_boxV (w := w1) (by with_unfolding_all rfl) 37 (.tmp 1) (by with_unfolding_all rfl) [.string nm, .slice b1 ls.length d1, .slice b2 bs.length d2, .int .i64 c] (by with_unfolding_all rfl) ?_); intro w2 hA2 hB2 hS2; clear hS2; have HS2 := Sta.new HS1 hA2 hB2 (by simp); clear hA2 hB2)
    | ((with_reducible refine wpList_ldS (w := w2) (by with_unfolding_all rfl) 31 (.tmp 5) (by with_unfolding_all rfl) w.heap.size 0 [.string nm, .slice a1 ls.length c1, .slice a2 bs.length c2, .int .i64 c] [.string nm, .slice a1 ls.length c1, .slice a2 bs.length c2] (by with_unfolding_all rfl) (Sta.r (i := 1) HS2 (by with_unfolding_all rfl)) Try.uT_implManifest 3 Try.sT_implManifest (by with_unfolding_all rfl) (by with_unfolding_all rfl) ?_))
    | ((with_reducible refine wpList_ldS (w := w2) (by with_unfolding_all rfl) 31 (.tmp 7) (by with_unfolding_all rfl) w1.heap.size 0 [.string nm, .slice b1 ls.length d1, .slice b2 bs.length d2, .int .i64 c] [.string nm, .slice b1 ls.length d1, .slice b2 bs.length d2] (by with_unfolding_all rfl) (Sta.r (i := 0) HS2 (by with_unfolding_all rfl)) Try.uT_implManifest 3 Try.sT_implManifest (by with_unfolding_all rfl) (by with_unfolding_all rfl) ?_))
    | (go_at_call 14; have n3_0 : LayAt w2 a1 ls ∧ LabAt w2 a2 bs := (Sta.t (i := 0) HS2 rfl :).1; have n3_1 : LayAt w2 b1 ls ∧ LabAt w2 b2 bs := (Sta.t (i := 0) HS2 rfl :).2; (with_reducible refine (hC1 w2 n3_0 n3_1).mono ?_); rintro r w3 ⟨rfl, hB3⟩; have HS3 := Sta.call HS2 hB3; clear hB3; have cHS3_1_3 : w3.cell? ⟨w.heap.size, 3, none⟩ = some (.int .i64 c) := Sta.c (i := 1) HS3 rfl rfl; have cHS3_0_3 : w3.cell? ⟨w1.heap.size, 3, none⟩ = some (.int .i64 c) := Sta.c (i := 0) HS3 rfl rfl))
  go_ret
  exact ⟨rfl, Sta.fin HS3⟩
set_option maxRecDepth 100000 in
set_option maxHeartbeats 2000000 in
theorem markMo_any (nm : ByteArray) (ls : List LayV) (bs : List LabV) (a1 : Option Addr) (c1 : Nat) (a2 : Option Addr) (c2 : Nat) (c : Int) (k0 : Nat) (L1 L2 : List Value) (w : World) (hL1 : L1.length = 2 * ls.length) (hL2 : L2.length = 2 * bs.length) (h1 : VR w a1 L1) (h2 : VR w a2 L2) (hap : ∀ x y, a1 = some x → a2 = some y → x.block ≠ y.block) (hb1 : ∀ ad, a1 = some ad → ad.block < w.heap.size) (hb2 : ∀ ad, a2 = some ad → ad.block < w.heap.size) (hy : ls.length ≤ 10 ∧ bs.length ≤ 10) (h0 : 1 ≤ k0) (hk : k0 ≤ 800000000) :
    Calls Try.prog 20 #[.agg #[.string nm, .slice a1 ls.length c1, .slice a2 bs.length c2, .int .i64 c], .int .i64 (k0 : Int)] w fun r w' => ∃ z : Nat, r = .returned (.int .i64 (z : Int)) ∧ (z = k0 + 2 * ls.length + 2 * bs.length) ∧ (VR w' a1 (mkLayC k0 (2 * ls.length)) ∧ VR w' a2 (mkLabC (k0 + 2 * ls.length) (2 * bs.length))) ∧ Mrk (ManD a1 a2) w w' := by
  have hC : ∀ w0, VR w0 a1 L1 → VR w0 a2 L2 → w.heap.size ≤ w0.heap.size → Calls Try.prog 58 #[.agg #[.string nm, .slice a1 ls.length c1, .slice a2 bs.length c2], .int .i64 (k0 : Int)] w0 fun r w' => ∃ z : Nat, r = .returned (.int .i64 (z : Int)) ∧ (z = k0 + 2 * ls.length + 2 * bs.length) ∧ (VR w' a1 (mkLayC k0 (2 * ls.length)) ∧ VR w' a2 (mkLabC (k0 + 2 * ls.length) (2 * bs.length))) ∧ Mrk (ManD a1 a2) w0 w' := fun w0 n0 n1 hs => markMan_any nm a1 c1 ls.length a2 c2 bs.length L1 L2 k0 w0 hL1 hL2 n0 n1 hap (fun ad e => Nat.lt_of_lt_of_le (hb1 ad e) hs) (fun ad e => Nat.lt_of_lt_of_le (hb2 ad e) hs) (by omega) (by omega) h0 hk
  have H1 := hidP h1
  have H2 := hidP h2
  clear h1 h2 hap hb1 hb2 hL1 hL2
  go_enter Try.func20, Try.ntmps20
  go_wp2_with (first
    | ((with_reducible refine wpList_boxV (w := w) (by with_unfolding_all rfl) 37 (.tmp 0) (by with_unfolding_all rfl) [.string nm, .slice a1 ls.length c1, .slice a2 bs.length c2, .int .i64 c] (by with_unfolding_all rfl) ?_); intro w1 hA1 hB1 hS1; have z1 : w.heap.size < w1.heap.size := (by omega); clear hS1; have p0 := hA1.cell (k := 0) rfl; have p1 := hA1.cell (k := 1) rfl; have p2 := hA1.cell (k := 2) rfl)
    | ((with_reducible refine wpList_ldS (w := w1) (by with_unfolding_all rfl) 31 (.tmp 5) (by with_unfolding_all rfl) w.heap.size 0 [.string nm, .slice a1 ls.length c1, .slice a2 bs.length c2, .int .i64 c] [.string nm, .slice a1 ls.length c1, .slice a2 bs.length c2] (by with_unfolding_all rfl) hA1 Try.uT_implManifest 3 Try.sT_implManifest (by with_unfolding_all rfl) (by with_unfolding_all rfl) ?_))
    | (go_at_call 58; (with_reducible refine (hC w1 (H1.out.below hB1) (H2.out.below hB1) (Nat.le_of_lt z1)).mono ?_); rintro r w2 ⟨z, rfl, hz, hv2, hm2⟩; have HZ := hidP hz; clear hz))
  go_ret
  exact ⟨z, rfl, HZ.out, hv2, (Mrk.of hB1).trans hm2⟩
set_option maxRecDepth 100000 in
set_option maxHeartbeats 2000000 in
theorem heldMo_any (nm : ByteArray) (ls : List LayV) (bs : List LabV) (a1 : Option Addr) (c1 : Nat) (a2 : Option Addr) (c2 : Nat) (c : Int) (k0 : Nat) (w : World) (h1 : VR w a1 (mkLayC k0 (2 * ls.length)) ∧ VR w a2 (mkLabC (k0 + 2 * ls.length) (2 * bs.length))) (hy : ls.length ≤ 10 ∧ bs.length ≤ 10) (h0 : 1 ≤ k0) (hk : k0 ≤ 800000000) :
    Calls Try.prog 21 #[.agg #[.string nm, .slice a1 ls.length c1, .slice a2 bs.length c2, .int .i64 c], .int .i64 (k0 : Int)] w fun r w' => ∃ z : Nat, r = .returned (.int .i64 (z : Int)) ∧ (z = k0 + 2 * ls.length + 2 * bs.length) ∧ Below w.heap.size w w' := by
  have hC1 : ∀ w0, (VR w0 a1 (mkLayC k0 (2 * ls.length)) ∧ VR w0 a2 (mkLabC (k0 + 2 * ls.length) (2 * bs.length))) → Calls Try.prog 59 #[.agg #[.string nm, .slice a1 ls.length c1, .slice a2 bs.length c2], .int .i64 (k0 : Int)] w0 fun r w' => ∃ (z1 : Nat), r = .returned (.int .i64 (z1 : Int)) ∧ (z1 = k0 + 2 * ls.length + 2 * bs.length) ∧ Below w0.heap.size w0 w' := fun w0 n0 => heldMan_any nm a1 c1 ls.length a2 c2 bs.length k0 w0 n0.1 n0.2 (by omega) (by omega) h0 hk
  have HS0 : Hid (Sta [] w [] [⟨fun k => k < w.heap.size, fun w' => VR w' a1 (mkLayC k0 (2 * ls.length)) ∧ VR w' a2 (mkLabC (k0 + 2 * ls.length) (2 * bs.length))⟩] w) := Sta.arg (fun w' => VR w' a1 (mkLayC k0 (2 * ls.length)) ∧ VR w' a2 (mkLabC (k0 + 2 * ls.length) (2 * bs.length))) (fun w' hb => ⟨h1.1.below hb, h1.2.below hb⟩)
  clear h1
  go_enter Try.func21, Try.ntmps21
  go_wp2_with (first
    | ((with_reducible refine wpList_boxV (w := w) (by with_unfolding_all rfl) 37 (.tmp 0) (by with_unfolding_all rfl) [.string nm, .slice a1 ls.length c1, .slice a2 bs.length c2, .int .i64 c] (by with_unfolding_all rfl) ?_); intro w1 hA1 hB1 hS1; clear hS1; have HS1 := Sta.new HS0 hA1 hB1 (by simp); clear hA1 hB1)
    | ((with_reducible refine wpList_ldS (w := w1) (by with_unfolding_all rfl) 31 (.tmp 5) (by with_unfolding_all rfl) w.heap.size 0 [.string nm, .slice a1 ls.length c1, .slice a2 bs.length c2, .int .i64 c] [.string nm, .slice a1 ls.length c1, .slice a2 bs.length c2] (by with_unfolding_all rfl) (Sta.r (i := 0) HS1 (by with_unfolding_all rfl)) Try.uT_implManifest 3 Try.sT_implManifest (by with_unfolding_all rfl) (by with_unfolding_all rfl) ?_))
    | (go_at_call 59; have n2_0 : VR w1 a1 (mkLayC k0 (2 * ls.length)) ∧ VR w1 a2 (mkLabC (k0 + 2 * ls.length) (2 * bs.length)) := (Sta.t (i := 0) HS1 rfl :); (with_reducible refine (hC1 w1 n2_0).mono ?_); rintro r w2 ⟨z1, rfl, z1f, hB2⟩; have Hz1f := hidP z1f; clear z1f; have HS2 := Sta.call HS1 hB2; clear hB2; have q1 : ¬ ((z1 : Int) < 0) := (by omega)))
  go_ret
  exact ⟨_, rfl, Hz1f.out, Sta.fin HS2⟩
end Go.Proofs.Ytchfpiadfmnphaa
