/- The program's turnRight and takeRound. -/
import Derived.Test.YtchfpiadfmnphaaDoorArrU
namespace Go.Proofs.YtchfpiadfmnphaaDoor
open Go.RowKit
set_option linter.unusedVariables false
attribute [local go_sem] U_xor U_or U_and U_add U_shr U_shl U_not U_store U_one'
attribute [local go_sem ↓] Go.wp_at_zero Go.wp_at_succ U_cells

theorem turnI_any (x : UInt32) (k : Int) (w : World) (h0 : 0 < k) (h1 : k < 32) :
    Calls Tryd.prog 129 #[U x, .int .u64 k] w fun e w' => e = .returned (U (rot x k)) ∧ w' = w := by
  have e : IntKind.u64.wrap (32 - k) = 32 - k := by simp [IntKind.wrap, IntKind.signed, IntKind.bits]; omega
  have a0 : 0 ≤ k := by omega
  obtain ⟨m, hm⟩ : ∃ m, 32 - k = m := ⟨_, rfl⟩
  have HM : Hid (32 - k = m) := hm
  rw [hm] at e
  have b0 : 0 ≤ m := by omega
  have b1 : m < 32 := by omega
  go_enter Tryd.func129, Tryd.ntmps129
  go_wp2
  go_ret
  refine ⟨?_, rfl⟩
  rw [← HM.out]
  rfl

def rndx (r : R8) (x : UInt32) : R8 :=
  let t1 := r.h + (rot r.e 6 ^^^ rot r.e 11 ^^^ rot r.e 25) + (r.e &&& r.f ^^^ ~~~r.e &&& r.g) + x
  let t2 := (rot r.a 2 ^^^ rot r.a 13 ^^^ rot r.a 22) + (r.a &&& r.b ^^^ r.a &&& r.c ^^^ r.b &&& r.c)
  ⟨t1 + t2, r.a, r.b, r.c, r.d + t1, r.e, r.f, r.g⟩
theorem rnd_x (r : R8) (k w : UInt32) : rndx r (k + w) = rnd r k w := by
  unfold rndx rnd
  simp only [UInt32.add_assoc]
theorem ArrU.c8 {w : World} {g : Nat} {r : R8} (h : ArrU w g r.list) : w.cell? ⟨g, 0, none⟩ = some (U r.a) ∧ w.cell? ⟨g, 1, none⟩ = some (U r.b) ∧ w.cell? ⟨g, 2, none⟩ = some (U r.c) ∧ w.cell? ⟨g, 3, none⟩ = some (U r.d) ∧
    w.cell? ⟨g, 4, none⟩ = some (U r.e) ∧ w.cell? ⟨g, 5, none⟩ = some (U r.f) ∧ w.cell? ⟨g, 6, none⟩ = some (U r.g) ∧ w.cell? ⟨g, 7, none⟩ = some (U r.h) := by
  have hl : r.list.length = 8 := rfl
  exact ⟨h.cell (k := 0) (by omega), h.cell (k := 1) (by omega), h.cell (k := 2) (by omega), h.cell (k := 3) (by omega), h.cell (k := 4) (by omega), h.cell (k := 5) (by omega), h.cell (k := 6) (by omega), h.cell (k := 7) (by omega)⟩
theorem Tryd.infoA8 : (Tryd.prog.info? 128).map (fun i => i.zero) = some (some (aggU (List.replicate 8 0))) := by kernel_rfl
theorem Tryd.sizeA8 : (Tryd.prog.info? 128).map (·.size) = some 8 := by kernel_rfl
theorem Tryd.undA8 : Tryd.prog.underlying 128 = some (.array 8 127) := by kernel_rfl
theorem Tryd.built8 (a b c d e f g h : UInt32) : Tryd.prog.built 128 [(0, U a), (1, U b), (2, U c), (3, U d), (4, U e), (5, U f), (6, U g), (7, U h)] = some #[U a, U b, U c, U d, U e, U f, U g, U h] := by
  obtain ⟨i0, hi, hz0, hz1, hz2⟩ := info_parts Tryd.infoU32
  cases hq : Tryd.prog.info? 128 with
  | none => have := Tryd.infoA8; simp [hq] at this
  | some it =>
    have hz : it.zero = some (aggU (List.replicate 8 0)) := by have := Tryd.infoA8; simpa [hq] using this
    simp only [Program.built, hq, Tryd.undA8, hz, hi, hz1]
    exact fill8 a b c d e f g h _ rfl
theorem wpList_agg8 {ops : Array Oper} {rest : List Oper} {o : Oper} {a : Act} {w : World} {Q : Exit → Act → World → Prop} (hg : o.guard = none) (x0 x1 x2 x3 x4 x5 x6 x7 : Operand)
    (ho : o.op = .build 128 #[(0, x0), (1, x1), (2, x2), (3, x3), (4, x4), (5, x5), (6, x6), (7, x7)]) (r : R8)
    (e0 : a.eval x0 = U r.a) (e1 : a.eval x1 = U r.b) (e2 : a.eval x2 = U r.c) (e3 : a.eval x3 = U r.d) (e4 : a.eval x4 = U r.e) (e5 : a.eval x5 = U r.f) (e6 : a.eval x6 = U r.g) (e7 : a.eval x7 = U r.h)
    (h : wpList Tryd.prog ops Q rest (a.put o.dst (aggU r.list)) w) : wpList Tryd.prog ops Q (o :: rest) a w := by
  refine wpList_plain hg fun K hK => ?_
  have := run_build (P := Tryd.prog) w 128 #[(0, U r.a), (1, U r.b), (2, U r.c), (3, U r.d), (4, U r.e), (5, U r.f), (6, U r.g), (7, U r.h)] _ (Tryd.built8 r.a r.b r.c r.d r.e r.f r.g r.h)
  unfold Oper.wp execOp
  simp only [ho, Sem.run_bind, List.map_toArray, List.map, e0, e1, e2, e3, e4, e5, e6, e7, this, Result.andThen_ok]
  exact hK _ _ h

set_option maxRecDepth 100000 in
set_option maxHeartbeats 1000000 in
theorem round_any (r : R8) (x : UInt32) (w : World) :
    Calls Tryd.prog 118 #[aggU r.list, U x] w fun e w' => e = .returned (aggU (rndx r x).list) ∧ Below w.heap.size w w' := by
  go_enter Tryd.func118, Tryd.ntmps118
  go_wp2_with (first
    | (refine wpList_boxU rfl _ _ (by rfl) r.list (by rfl) ?_; intro w1 hA1 hB1 hS1)
    | (refine wpList_allocU rfl _ (by rfl) 8 Tryd.infoA8 ?_; intro w2 hA2 hB2 hS2))
  have HW1 := hA1.below (hB2.mono (Nat.le_refl _)) (by omega)
  obtain ⟨c0, c1, c2, c3, c4, c5, c6, c7⟩ := HW1.c8
  have HA2 : Hid (ArrU w2 w1.heap.size (List.replicate 8 0)) := hA2
  have HB2 : Hid (Below w.heap.size w w2) := hB1.trans (hB2.mono (by omega))
  have HS1 : Hid (w1.heap.size = w.heap.size + 1) := hS1
  obtain ⟨a, b, c, d, e, f, g, h⟩ := r
  dsimp only at c0 c1 c2 c3 c4 c5 c6 c7
  clear hA1 hA2 hB1 hB2 HW1 hS1 hS2
  go_quiet (fail)
  go_wp2_with fail
  go_quiet (fail)
  clear c0 c1 c2 c3 c4 c5 c6 c7
  go_wp2_with (first
    | (go_at_call 129; refine (turnI_any _ _ _ (by omega) (by omega)).mono ?_; rintro e w' ⟨rfl, rfl⟩)
    | (refine wpList_agg8 rfl _ _ _ _ _ _ _ _ (by rfl) (rndx ⟨a, b, c, d, e, f, g, h⟩ x) (by rfl) (by rfl) (by rfl) (by rfl) (by rfl) (by rfl) (by rfl) (by rfl) ?_)
    | (refine wpList_storeU rfl _ _ _ (by rfl) w1.heap.size (List.replicate 8 0) (rndx ⟨a, b, c, d, e, f, g, h⟩ x).list (by rfl) (by rfl) (HA2.out.drewN _) Tryd.sizeA8 (by rfl) ?_; intro w3 hA3 hB3 _))
  refine bodyPost_ret (results_U (t := 128) rfl _ w1.heap.size _ rfl hA3 8 127 Tryd.undA8 Tryd.sizeA8 rfl) rfl ⟨rfl, ?_⟩
  have := HS1.out
  exact (belN HB2.out _).trans (hB3 _ (by omega))
end Go.Proofs.YtchfpiadfmnphaaDoor
