/- The program's padding: what stands behind a text of a size. -/
import Derived.Test.YtchfpiadfmnphaaDoorJn4
import Derived.OwnWalk
import Derived.WalkLawsBesides
import Derived.Deep.DrawnRows
namespace Go.Proofs.YtchfpiadfmnphaaDoor
open Go.RowKit
set_option linter.unusedVariables false
attribute [local go_sem ↓] Go.wp_at_zero Go.wp_at_succ

def padN (n : Nat) : Nat := (119 - n % 64) % 64
def beq8 (m i : Nat) : UInt8 := UInt8.ofNat (m / 2 ^ (8 * (7 - i)) % 256)
def bes (m k : Nat) : List UInt8 := (List.range k).map (beq8 m)
theorem bes_succ (m k : Nat) : bes m (k + 1) = bes m k ++ [beq8 m k] := by unfold bes; rw [List.range_succ, List.map_append]; rfl
def padH (n : Nat) : List UInt8 := 128 :: List.replicate (padN n) 0
def padL (n : Nat) : List UInt8 := padH n ++ bes (8 * n) 8
theorem made_zero8 (n : Nat) : (madeCells #[Value.int .u8 0] n).toList = bvs (List.replicate n 0) := by
  apply List.ext_getElem
  · simp [madeCells, bvs]
  · intro i h1 h2
    simp [madeCells, bvs, BV, Nat.mod_one]
/- A row made with room behind it. -/
theorem wpList_make_cap {P : Program} (w : World) {ops : Array Oper} {rest : List Oper} {o : Oper} {a : Act} {Q : Exit → Act → World → Prop}
    (hg : o.guard = none) (l c : Operand) (t : TypeId) (hop : o.op = Op.makeSlice t l c) (e : TypeId) (h1 : P.underlying t = some (.slice e)) (hinfo : (P.info? e).map (fun i => (i.zero, i.size, i.bytes)) = some (some (.int .u8 0), 1, 1))
    (kl kc : IntKind) (n m : Nat) (hl : a.eval l = .int kl (n : Int)) (hc : a.eval c = .int kc (m : Int)) (hnm : n ≤ m) (hm : m ≤ 1000000)
    (hK : ∀ w', w'.ownsRow w.heap.size e 1 (.slice (some ⟨w.heap.size, 0, none⟩) n m) n (bvs (List.replicate n 0)) → Below w.heap.size w w' → wpList P ops Q rest (a.put o.dst (.slice (some ⟨w.heap.size, 0, none⟩) n m)) w') :
    wpList P ops Q (o :: rest) a w := by
  obtain ⟨i0, hi, hz0, hz1, hz2⟩ := info_parts hinfo
  refine wpList_plain hg fun K hK' => ?_
  have hr := run_make (P := P) w t e i0 (.int .u8 0) h1 hi hz0 kl kc n m (by omega) (by omega) (by rw [hz2]; omega) (by omega)
  simp only [Int.toNat_natCast, hz1, Nat.mul_one] at hr
  unfold Oper.wp
  simp only [execOp, hop, hl, hc, Sem.run_bind, hr, Result.andThen_ok]
  refine hK' _ _ (hK _ ⟨by rw [bvs_length]; simp, .inr ⟨w.heap.size, m, madeCells #[.int .u8 0] m, rfl, Nat.le_refl _, heap_alloc_new w _, hnm, by unfold maxLen; omega, by simp [madeCells], ?_⟩⟩ ((Below.refl _ _).alloc (Nat.le_refl _) _))
  rw [made_zero8, Nat.mul_one, bvs, ← List.map_take, List.take_replicate, Nat.min_eq_left hnm]
  rfl

set_option maxRecDepth 100000 in
set_option maxHeartbeats 1000000 in
theorem pad_any (n : Nat) (w : World) (hn : n ≤ 1099511627776) :
    Calls Tryd.prog 89 #[.int .i64 (n : Int)] w fun e w' => e = .returned (.string ⟨(padL n).toArray⟩) ∧ Below w.heap.size w w' := by
  obtain ⟨zc, hzc⟩ : ∃ zc, padN n = zc := ⟨_, rfl⟩
  have hzl : zc < 64 := by rw [← hzc, padN]; exact Nat.mod_lt _ (by omega)
  have e1 : (n : Int).tmod 64 = ((n % 64 : Nat) : Int) := by rw [Int.tmod_eq_emod_of_nonneg (by omega)]; omega
  have HP : Hid (padH n = 128 :: List.replicate zc 0) := by show padH n = _; rw [padH, hzc]
  have e2 : ((119 : Int) - ((n % 64 : Nat) : Int)).tmod 64 = (zc : Int) := by rw [← hzc, padN, Int.tmod_eq_emod_of_nonneg (by omega)]; omega
  obtain ⟨r, hr⟩ : ∃ r, n % 64 = r := ⟨_, rfl⟩
  rw [hr] at e1 e2
  have hrl : r < 64 := by omega
  have e3 : IntKind.i64.wrap (119 - (r : Int)) = 119 - r := by simp [IntKind.wrap, IntKind.signed, IntKind.bits]; omega
  have e4 : IntKind.i64.wrap (1 + (zc : Int)) = ((1 + zc : Nat) : Int) := by simp [IntKind.wrap, IntKind.signed, IntKind.bits]; omega
  have e4' : (1 + (zc : Int)) = ((1 + zc : Nat) : Int) := by omega
  have e5 : IntKind.i64.wrap (((1 + zc : Nat) : Int) + 8) = ((1 + zc + 8 : Nat) : Int) := by simp [IntKind.wrap, IntKind.signed, IntKind.bits]; omega
  have e5' : (((1 + zc : Nat) : Int) + 8) = ((1 + zc + 8 : Nat) : Int) := by omega
  have e6 : IntKind.u64.wrap (n : Int) = (n : Int) := by simp [IntKind.wrap, IntKind.signed, IntKind.bits]; omega
  have e7 : IntKind.u64.wrap (8 * (n : Int)) = ((8 * n : Nat) : Int) := by simp [IntKind.wrap, IntKind.signed, IntKind.bits]; omega
  obtain ⟨L, hL⟩ : ∃ L, 1 + zc = L := ⟨_, rfl⟩
  obtain ⟨C, hC⟩ : ∃ C, L + 8 = C := ⟨_, rfl⟩
  obtain ⟨M, hM⟩ : ∃ M, 8 * n = M := ⟨_, rfl⟩
  rw [hL] at e4 e4' e5 e5'
  rw [hC] at e5 e5'
  rw [hM] at e7
  have HM : Hid (8 * n = M) := hM
  have HLz : Hid (L = zc + 1) := by show L = _; omega
  have hLb : L ≤ 64 := by omega
  have HC : Hid (∀ w1 : World, w1.ownsRow w.heap.size 5 1 (.slice (some ⟨w.heap.size, 0, none⟩) L C) L (bvs (List.replicate L 0)) → w1.cell? ⟨w.heap.size, 0, none⟩ = some (.int .u8 0)) := fun w1 h => by
    rw [h.cellAt 0 (by omega), HLz.out]
    rfl
  clear hr hzc hM
  go_enter Tryd.func89, Tryd.ntmps89
  go_wp2_with (first
    | (at_make; refine wpList_make_cap w rfl _ _ 80 rfl 5 Tryd.underlying80 Tryd.infoU8 _ _ L C rfl rfl (by omega) (by omega) ?_; intro w1 hO1 hB1; have c0 := HC.out w1 hO1; have f0 := hO1.frozenAt 0))
  have HO : Hid ((w1.setCell ⟨w.heap.size, 0, none⟩ (.int .u8 128)).ownsRow w.heap.size 5 1 (.slice (some ⟨w.heap.size, 0, none⟩) L C) (L + 0) (bvs (padH n ++ bes M 0))) := by
    have h := hO1.stored 0 (.int .u8 128)
    have e : (bvs (List.replicate L 0)).set 0 (.int .u8 128) = bvs (padH n ++ bes M 0) := by rw [HP.out, HLz.out]; simp [bvs, bes, List.replicate_succ, BV]
    rw [e] at h
    exact h.1
  have HB : Hid (Below w.heap.size w (w1.setCell ⟨w.heap.size, 0, none⟩ (.int .u8 128))) := hB1.setCell (Nat.le_refl _) _
  clear hO1 hB1 c0 f0 HC e1 e2 e3 e4 e4' e5 e5' e6 e7
  go_loopw [4, 22] (fun v i wr => ∃ k : Nat, i = .int .i64 (k : Int) ∧ k ≤ 8 ∧ wr.ownsRow w.heap.size 5 1 v (L + k) (bvs (padH n ++ bes M k)) ∧ Below w.heap.size w wr)
    (fun _ i _ => 8 - (intOf i).toNat)
  case atStart => exact ⟨0, rfl, Nat.zero_le _, HO.out, HB.out⟩
  case round =>
    clear HO HB
    obtain ⟨k, rfl, hk, hO, hBr⟩ := hrel
    have hzr := hBr.size
    by_cases hlt : k < 8
    · as_aux_lemma =>
      obtain ⟨s, hs⟩ : ∃ s : Nat, 8 * (7 - k) = s := ⟨_, rfl⟩
      have e1 : IntKind.i64.wrap (7 - (k : Int)) = 7 - k := by simp [IntKind.wrap, IntKind.signed, IntKind.bits]; omega
      have e2 : IntKind.i64.wrap (8 * (7 - (k : Int))) = (s : Int) := by simp [IntKind.wrap, IntKind.signed, IntKind.bits]; omega
      have e2' : 8 * (7 - (k : Int)) = (s : Int) := by omega
      have hsl : (s : Int) ≤ 64 := by omega
      have hs0 : (0 : Int) ≤ s := by omega
      obtain ⟨d, hd⟩ : ∃ d : Nat, M / 2 ^ s = d := ⟨_, rfl⟩
      have e3 : (M : Int) / 2 ^ s = (d : Int) := by rw [← hd]; norm_cast
      have HX : Hid (BV (beq8 M k) = .int .u8 ((d % 256 : Nat) : Int)) := by
        show BV (beq8 M k) = _
        rw [beq8, hs, hd]
        exact BV_ofNat _ (Nat.mod_lt _ (by omega))
      have e4 : IntKind.u8.wrap (d : Int) = ((d % 256 : Nat) : Int) := by simp [IntKind.wrap, IntKind.signed, IntKind.bits]
      obtain ⟨x, hx⟩ : ∃ x, d % 256 = x := ⟨_, rfl⟩
      rw [hx] at HX e4
      have HBS : Hid (True → bes M (k + 1) = bes M k ++ [beq8 M k]) := fun _ => bes_succ M k
      have lk : (k : Int) < 8 := by omega
      have l0 : (0 : Int) ≤ k := by omega
      clear hs hd hx
      go_wp2_with (first
        | (at_builtin; refine wpList_append_byte rfl _ _ 80 rfl w.heap.size 5 Tryd.underlying80 Tryd.infoU8 u4 (padH n ++ bes M k) (L + k) rfl hO (beq8 M k) _ HX.out 1 rfl (by omega) hzr ?_; intro v9 w9 hO9 hB9))
      go_roundw
      case rel => exact ⟨k + 1, by go_num, hlt, by rw [HBS.out trivial, ← List.append_assoc]; exact hO9, hBr.trans hB9⟩
      case measure => simp [intOf]; omega
    · as_aux_lemma =>
      obtain rfl : k = 8 := by omega
      have hconv := run_conv_own 80 Tryd.underlying80 Tryd.underlying5 hO 9 Tryd.underlying9
      have HF : Hid (True → padH n ++ bes M 8 = padL n) := fun _ => by rw [padL, HM.out]
      clear hO
      go_wp2
      go_ret
      exact ⟨by rw [← HF.out trivial]; rfl, hBr⟩
end Go.Proofs.YtchfpiadfmnphaaDoor
