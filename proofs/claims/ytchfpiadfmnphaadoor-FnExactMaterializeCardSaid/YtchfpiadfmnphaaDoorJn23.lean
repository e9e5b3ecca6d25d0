/- Arrays of numbers of 32 bits that lie in a block of their own, as wholes; what the operations on them do. The program's turnRight and takeRound. The program's spreadBlock. The program's takeBlock. The program's takeBlocks: what stands behind the whole blocks of a text, and what is left of it. The program's wordsOf and stateOf. The program's stateOf. The specification's l02End, out of what l02More answers. -/
import Derived.Test.YtchfpiadfmnphaaDoorBlk
import Derived.Deep.MidRow
import Derived.Great.Ranges
import Derived.Lib.EndianMore
import Derived.Test.YtchfpiadfmnphaaDoorJn10
import Derived.Test.YtchfpiadfmnphaaDoorPad
namespace Go.Proofs.YtchfpiadfmnphaaDoor
open Go.RowKit
set_option linter.unusedVariables false

theorem belN {B : Nat} {a w : World} (h : Below B a w) (n : Nat) : Below B a (w.drewN n) := ⟨h.os, h.tape, h.output, h.size, h.block⟩
structure ArrU (w : World) (g : Nat) (l : List UInt32) : Prop where
  rng : w.rangeAt g 0 (us l)
  ths : w.there g 0 l.length
def aggU (l : List UInt32) : Value := .agg (us l).toArray
theorem us_one (l : List UInt32) : (us l).toArray.all (·.oneCell') = true := by
  rw [Array.all_eq_true_iff_forall_mem]
  intro v hv
  simp [us] at hv
  obtain ⟨x, _, rfl⟩ := hv
  rfl
theorem ArrU.of_block {w : World} {g : Nat} {l : List UInt32} {t : TypeId} (h : w.heap[g]? = some (.cells (us l).toArray t (0, 0))) : ArrU w g l := by
  refine ⟨fun j v hv => ?_, fun j hj => ⟨?_, ?_⟩⟩
  · simpa [World.cell?, h] using hv
  · simp [World.cell?, h, us, hj]
  · simp [World.frozen?, h]
theorem ArrU.new (w : World) (l : List UInt32) (t : TypeId) : ArrU (w.alloc (.cells (us l).toArray t)) w.heap.size l := ArrU.of_block (heap_alloc_new w _)
theorem ArrU.cell {w : World} {g : Nat} {l : List UInt32} (h : ArrU w g l) {k : Nat} (hk : k < l.length) : w.cell? ⟨g, k, none⟩ = some (U l[k]) := by
  have := h.rng k (U l[k]) (us_get hk)
  rw [Nat.zero_add] at this
  exact this
theorem ArrU.frozen {w : World} {g : Nat} {l : List UInt32} (h : ArrU w g l) {k : Nat} (hk : k < l.length) : w.frozen? ⟨g, k, none⟩ = false := by
  have := (h.ths k hk).2
  rw [Nat.zero_add] at this
  exact this
theorem ArrU.below {w w' : World} {g B : Nat} {l : List UInt32} (h : ArrU w g l) (hb : Below B w w') (hB : g < B) : ArrU w' g l :=
  ⟨fun j v hv => (hb.cell (p := ⟨g, 0 + j, none⟩) hB).trans (h.rng j v hv), fun j hj => by
    rw [hb.cell (p := ⟨g, 0 + j, none⟩) hB, hb.frozen (p := ⟨g, 0 + j, none⟩) hB]
    exact h.ths j hj⟩
theorem ArrU.drewN {w : World} {g : Nat} {l : List UInt32} (h : ArrU w g l) (n : Nat) : ArrU (w.drewN n) g l := ⟨h.rng, h.ths⟩
theorem ArrU.drew {w : World} {g : Nat} {l : List UInt32} (h : ArrU w g l) : ArrU w.drew g l := ⟨h.rng, h.ths⟩
theorem ArrU.lt {w : World} {g : Nat} {l : List UInt32} (h : ArrU w g l) (hl : 0 < l.length) : g < w.heap.size := cell_lt (h.cell hl)
theorem ArrU.put {w : World} {g : Nat} {l l' : List UInt32} (h : ArrU w g l) (hl : l'.length = l.length) : ArrU (w.setCells g 0 (us l')) g l' :=
  ⟨World.rangeAt_setCells_same w g 0 (us l') (by rw [us_length, hl]; exact h.ths), by rw [hl]; exact World.there_setCells h.ths g 0 (us l')⟩
theorem ArrU.set {w : World} {g k : Nat} {l l' : List UInt32} {x : UInt32} (h : ArrU w g l) (hk : k < l.length) (hl : l' = l.set k x) : ArrU (w.setCell ⟨g, k, none⟩ (U x)) g l' := by
  subst hl
  have hs := h.cell hk
  refine ⟨fun j v hv => ?_, fun j hj => ⟨?_, ?_⟩⟩
  · rw [Nat.zero_add]
    by_cases hjk : j = k
    · subst hjk
      rw [us_get (by simpa using hk)] at hv
      rw [World.cell?_setCell_same w _ _ hs]
      simpa using hv
    · rw [World.cell?_setCell_other w _ _ _ (by intro e; injection e with _ e _; exact hjk e.symm)]
      have := h.rng j v (by rw [← hv]; simp [us, show ¬ k = j from fun e => hjk e.symm])
      rw [Nat.zero_add] at this
      exact this
  · rw [Nat.zero_add]
    by_cases hjk : j = k
    · subst hjk
      rw [World.cell?_setCell_same w _ _ hs]; rfl
    · rw [World.cell?_setCell_other w _ _ _ (by intro e; injection e with _ e _; exact hjk e.symm)]
      rw [h.cell (by simpa using hj)]; rfl
  · rw [World.frozen?_setCell]
    exact (h.ths j (by simpa using hj)).2

/- A variable that holds an array: made of a value, made of zeros; read, written as a whole. -/
theorem wpList_boxU {P : Program} {ops : Array Oper} {rest : List Oper} {o : Oper} {a : Act} {w : World} {Q : Exit → Act → World → Prop} (hg : o.guard = none) (t : TypeId) (x : Operand) (ho : o.op = .box t x) (l : List UInt32) (hx : a.eval x = aggU l)
    (h : ∀ w', ArrU w' w.heap.size l → Below w.heap.size w w' → w'.heap.size = w.heap.size + 1 → wpList P ops Q rest (a.put o.dst (.pointer (some ⟨w.heap.size, 0, none⟩))) w') : wpList P ops Q (o :: rest) a w :=
  Great.wpList_boxTo hg t x ho o.dst rfl w.heap.size rfl (us l).toArray (by rw [hx]; rfl)
    (h _ (ArrU.new w l t) ((Below.refl _ _).alloc (Nat.le_refl _) _) (Array.size_push _))
theorem wpList_allocU {P : Program} {ops : Array Oper} {rest : List Oper} {o : Oper} {a : Act} {w : World} {Q : Exit → Act → World → Prop} (hg : o.guard = none) (t : TypeId) (ho : o.op = .alloc t) (n : Nat)
    (hi : (P.info? t).map (fun i => i.zero) = some (some (aggU (List.replicate n 0))))
    (h : ∀ w', ArrU w' w.heap.size (List.replicate n 0) → Below w.heap.size w w' → w'.heap.size = w.heap.size + 1 → wpList P ops Q rest (a.put o.dst (.pointer (some ⟨w.heap.size, 0, none⟩))) w') : wpList P ops Q (o :: rest) a w := by
  refine wpList_plain hg fun K hK => ?_
  cases hq : P.info? t with
  | none => simp [hq] at hi
  | some i =>
    have hz : i.zero = some (aggU (List.replicate n 0)) := by simpa [hq] using hi
    unfold Oper.wp execOp
    simp only [ho, Sem.run_bind, Instr.alloc, zeroValue, run_typeInfo w hq, hz, newVar, newRow, run_newObj_alloc, Sem.run_pure, Result.andThen_ok]
    exact hK _ _ (h _ (ArrU.new w _ t) ((Below.refl _ _).alloc (Nat.le_refl _) _) (Array.size_push _))
theorem wpList_loadU {P : Program} {ops : Array Oper} {rest : List Oper} {o : Oper} {a : Act} {w : World} {Q : Exit → Act → World → Prop} (hg : o.guard = none) (t : TypeId) (x : Operand) (ho : o.op = .load t x) (g : Nat) (l : List UInt32)
    (hx : a.eval x = .pointer (some ⟨g, 0, none⟩)) (hl : ArrU w g l) (n : Nat) (e : TypeId) (hu : P.underlying t = some (.array n e)) (hi : (P.info? t).map (·.size) = some n) (hn : l.length = n)
    (h : wpList P ops Q rest (a.put o.dst (aggU l)) w) : wpList P ops Q (o :: rest) a w :=
  wpList_load_mid hg t x ho g 0 hx (us l) _ hl.rng hu rfl (by rw [us_length, hn]; exact hi) h
theorem wpList_storeU {P : Program} {ops : Array Oper} {rest : List Oper} {o : Oper} {a : Act} {w : World} {Q : Exit → Act → World → Prop} (hg : o.guard = none) (t : TypeId) (x y : Operand) (ho : o.op = .store t x y) (g : Nat) (l l' : List UInt32)
    (hx : a.eval x = .pointer (some ⟨g, 0, none⟩)) (hy : a.eval y = aggU l') (hl : ArrU w g l) (hi : (P.info? t).map (·.size) = some l.length) (hn : l'.length = l.length)
    (h : ∀ w', ArrU w' g l' → (∀ B, B ≤ g → Below B w w') → (∀ g2 l2, g2 ≠ g → ArrU w g2 l2 → ArrU w' g2 l2) → wpList P ops Q rest (a.put o.dst undef) w') : wpList P ops Q (o :: rest) a w := by
  refine wpList_store_mid hg t x y ho g 0 (us l').toArray hx hy (by simp only [List.size_toArray, us_length, hn]; exact hl.ths) (by simp only [List.size_toArray, us_length, hn]; exact hi) (us_one l') ?_
  refine h _ (hl.put hn) (fun B hB => Lib.below_setCells_w hB _ _ _) (fun g2 l2 hne h2 => ⟨World.rangeAt_setCells_apart h2.rng g 0 _ (.inl hne), World.there_setCells h2.ths g 0 _⟩)
theorem results_U {P : Program} {fn : Func} {a : Tmp} {t : TypeId} {w : World} (h : fn.results = #[.cell a t]) (tmps : Array Value) (g : Nat) (l : List UInt32) (hx : tmps.getD a undef = .pointer (some ⟨g, 0, none⟩))
    (hl : ArrU w g l) (n : Nat) (e : TypeId) (hu : P.underlying t = some (.array n e)) (hi : (P.info? t).map (·.size) = some n) (hn : l.length = n) : (results fn tmps).run P w = .ok (aggU l) w := by
  have := run_loadVar_mid (P := P) w g 0 t (us l) _ hl.rng hu rfl (by rw [us_length, hn]; exact hi)
  rw [Array.getD_eq_getD_getElem?] at hx
  simp [results, h, hx, asAddr, this, aggU]
end Go.Proofs.YtchfpiadfmnphaaDoor
namespace Go.Proofs.YtchfpiadfmnphaaDoor
open Go.RowKit
set_option linter.unusedVariables false
attribute [local go_sem] U_xor U_or U_and U_add U_shr U_shl U_not U_store U_one'
attribute [local go_sem ↓] Go.wp_at_zero Go.wp_at_succ U_cells

theorem turnI_any (x : UInt32) (k : Int) (w : World) (h0 : 0 < k) (h1 : k < 32) :
    Calls Tryd.prog 129 #[U x, .int .u64 k] w fun e w' => e = .returned (U (rot x k)) ∧ w' = w := by
  have e : IntKind.u64.wrap (32 - k) = 32 - k := by simp [IntKind.wrap, IntKind.signed, IntKind.bits]; omega
  have a0 : 0 ≤ k := by omega
  obtain ⟨m, hm⟩ : ∃ m, 32 - k = m := ⟨_, rfl⟩
  have HM : Hid (32 - k = m) := hm
  rw [hm] at e
  have b0 : 0 ≤ m := by omega
  have b1 : m < 32 := by omega
  go_enter Tryd.func129, Tryd.ntmps129
  go_wp2
  go_ret
  refine ⟨?_, rfl⟩
  rw [← HM.out]
  rfl

def rndx (r : R8) (x : UInt32) : R8 :=
  let t1 := r.h + (rot r.e 6 ^^^ rot r.e 11 ^^^ rot r.e 25) + (r.e &&& r.f ^^^ ~~~r.e &&& r.g) + x
  let t2 := (rot r.a 2 ^^^ rot r.a 13 ^^^ rot r.a 22) + (r.a &&& r.b ^^^ r.a &&& r.c ^^^ r.b &&& r.c)
  ⟨t1 + t2, r.a, r.b, r.c, r.d + t1, r.e, r.f, r.g⟩
theorem rnd_x (r : R8) (k w : UInt32) : rndx r (k + w) = rnd r k w := by
  unfold rndx rnd
  simp only [UInt32.add_assoc]
theorem ArrU.c8 {w : World} {g : Nat} {r : R8} (h : ArrU w g r.list) : w.cell? ⟨g, 0, none⟩ = some (U r.a) ∧ w.cell? ⟨g, 1, none⟩ = some (U r.b) ∧ w.cell? ⟨g, 2, none⟩ = some (U r.c) ∧ w.cell? ⟨g, 3, none⟩ = some (U r.d) ∧
    w.cell? ⟨g, 4, none⟩ = some (U r.e) ∧ w.cell? ⟨g, 5, none⟩ = some (U r.f) ∧ w.cell? ⟨g, 6, none⟩ = some (U r.g) ∧ w.cell? ⟨g, 7, none⟩ = some (U r.h) := by
  have hl : r.list.length = 8 := rfl
  exact ⟨h.cell (k := 0) (by omega), h.cell (k := 1) (by omega), h.cell (k := 2) (by omega), h.cell (k := 3) (by omega), h.cell (k := 4) (by omega), h.cell (k := 5) (by omega), h.cell (k := 6) (by omega), h.cell (k := 7) (by omega)⟩
theorem Tryd.infoA8 : (Tryd.prog.info? 128).map (fun i => i.zero) = some (some (aggU (List.replicate 8 0))) := by kernel_rfl
theorem Tryd.sizeA8 : (Tryd.prog.info? 128).map (·.size) = some 8 := by kernel_rfl
theorem Tryd.undA8 : Tryd.prog.underlying 128 = some (.array 8 127) := by kernel_rfl
theorem Tryd.built8 (a b c d e f g h : UInt32) : Tryd.prog.built 128 [(0, U a), (1, U b), (2, U c), (3, U d), (4, U e), (5, U f), (6, U g), (7, U h)] = some #[U a, U b, U c, U d, U e, U f, U g, U h] := by
  obtain ⟨i0, hi, hz0, hz1, hz2⟩ := info_parts Tryd.infoU32
  cases hq : Tryd.prog.info? 128 with
  | none => have := Tryd.infoA8; simp [hq] at this
  | some it =>
    have hz : it.zero = some (aggU (List.replicate 8 0)) := by have := Tryd.infoA8; simpa [hq] using this
    simp only [Program.built, hq, Tryd.undA8, hz, hi, hz1]
    exact fill8 a b c d e f g h _ rfl
theorem wpList_agg8 {ops : Array Oper} {rest : List Oper} {o : Oper} {a : Act} {w : World} {Q : Exit → Act → World → Prop} (hg : o.guard = none) (x0 x1 x2 x3 x4 x5 x6 x7 : Operand)
    (ho : o.op = .build 128 #[(0, x0), (1, x1), (2, x2), (3, x3), (4, x4), (5, x5), (6, x6), (7, x7)]) (r : R8)
    (e0 : a.eval x0 = U r.a) (e1 : a.eval x1 = U r.b) (e2 : a.eval x2 = U r.c) (e3 : a.eval x3 = U r.d) (e4 : a.eval x4 = U r.e) (e5 : a.eval x5 = U r.f) (e6 : a.eval x6 = U r.g) (e7 : a.eval x7 = U r.h)
    (h : wpList Tryd.prog ops Q rest (a.put o.dst (aggU r.list)) w) : wpList Tryd.prog ops Q (o :: rest) a w := by
  refine wpList_plain hg fun K hK => ?_
  have := run_build (P := Tryd.prog) w 128 #[(0, U r.a), (1, U r.b), (2, U r.c), (3, U r.d), (4, U r.e), (5, U r.f), (6, U r.g), (7, U r.h)] _ (Tryd.built8 r.a r.b r.c r.d r.e r.f r.g r.h)
  unfold Oper.wp execOp
  simp only [ho, Sem.run_bind, List.map_toArray, List.map, e0, e1, e2, e3, e4, e5, e6, e7, this, Result.andThen_ok]
  exact hK _ _ h

set_option maxRecDepth 100000 in
set_option maxHeartbeats 1000000 in
theorem round_any (r : R8) (x : UInt32) (w : World) :
    Calls Tryd.prog 118 #[aggU r.list, U x] w fun e w' => e = .returned (aggU (rndx r x).list) ∧ Below w.heap.size w w' := by
  go_enter Tryd.func118, Tryd.ntmps118
  go_wp2_with (first
    | (refine wpList_boxU rfl _ _ (by rfl) r.list (by rfl) ?_; intro w1 hA1 hB1 hS1)
    | (refine wpList_allocU rfl _ (by rfl) 8 Tryd.infoA8 ?_; intro w2 hA2 hB2 hS2))
  have HW1 := hA1.below (hB2.mono (Nat.le_refl _)) (by omega)
  obtain ⟨c0, c1, c2, c3, c4, c5, c6, c7⟩ := HW1.c8
  have HA2 : Hid (ArrU w2 w1.heap.size (List.replicate 8 0)) := hA2
  have HB2 : Hid (Below w.heap.size w w2) := hB1.trans (hB2.mono (by omega))
  have HS1 : Hid (w1.heap.size = w.heap.size + 1) := hS1
  obtain ⟨a, b, c, d, e, f, g, h⟩ := r
  dsimp only at c0 c1 c2 c3 c4 c5 c6 c7
  clear hA1 hA2 hB1 hB2 HW1 hS1 hS2
  go_quiet (fail)
  go_wp2_with fail
  go_quiet (fail)
  clear c0 c1 c2 c3 c4 c5 c6 c7
  go_wp2_with (first
    | (go_at_call 129; refine (turnI_any _ _ _ (by omega) (by omega)).mono ?_; rintro e w' ⟨rfl, rfl⟩)
    | (refine wpList_agg8 rfl _ _ _ _ _ _ _ _ (by rfl) (rndx ⟨a, b, c, d, e, f, g, h⟩ x) (by rfl) (by rfl) (by rfl) (by rfl) (by rfl) (by rfl) (by rfl) (by rfl) ?_)
    | (refine wpList_storeU rfl _ _ _ (by rfl) w1.heap.size (List.replicate 8 0) (rndx ⟨a, b, c, d, e, f, g, h⟩ x).list (by rfl) (by rfl) (HA2.out.drewN _) Tryd.sizeA8 (by rfl) ?_; intro w3 hA3 hB3 _))
  refine bodyPost_ret (results_U (t := 128) rfl _ w1.heap.size _ rfl hA3 8 127 Tryd.undA8 Tryd.sizeA8 rfl) rfl ⟨rfl, ?_⟩
  have := HS1.out
  exact (belN HB2.out _).trans (hB3 _ (by omega))
end Go.Proofs.YtchfpiadfmnphaaDoor
namespace Go.Proofs.YtchfpiadfmnphaaDoor
open Go.RowKit
set_option linter.unusedVariables false
attribute [local go_sem] U_xor U_or U_and U_add U_shr U_shl U_not U_store U_one'
attribute [local go_sem ↓] Go.wp_at_zero Go.wp_at_succ U_cells

theorem Tryd.infoA64 : (Tryd.prog.info? 166).map (fun i => i.zero) = some (some (aggU (List.replicate 64 0))) := by kernel_rfl
theorem Tryd.sizeA64 : (Tryd.prog.info? 166).map (·.size) = some 64 := by kernel_rfl
theorem Tryd.undA64 : Tryd.prog.underlying 166 = some (.array 64 127) := by kernel_rfl
theorem ArrU.cellD {w : World} {g : Nat} {l r : List UInt32} (h : ArrU w g (l ++ r)) {k : Nat} (hk : k < l.length) : w.cell? ⟨g, k, none⟩ = some (U (l.getD k 0)) := by
  rw [h.cell (k := k) (by simp; omega), List.getElem_append_left hk]
  simp [hk]

set_option maxRecDepth 100000 in
set_option maxHeartbeats 4000000 in
theorem spread_any (s : ByteArray) (w : World) (hs : s.size = 64) :
    Calls Tryd.prog 117 #[.string s] w fun e w' => e = .returned (aggU (sch s 48)) ∧ Below w.heap.size w w' := by
  go_enter Tryd.func117, Tryd.ntmps117
  go_wp2_with (first
    | (refine wpList_allocU (w := w) rfl _ (by rfl) 64 Tryd.infoA64 ?_; intro w1 hA1 hB1 hS1)
    | (refine wpList_allocU rfl _ (by rfl) 64 Tryd.infoA64 ?_; intro w2 hA2 hB2 hS2))
  have HA1 : Hid (ArrU w2 w.heap.size (List.replicate 64 0)) := hA1.below hB2 (by omega)
  have HB2 : Hid (Below w.heap.size w w2) := hB1.trans (hB2.mono (by omega))
  have HS2 : Hid (w2.heap.size = w.heap.size + 2) := by show _ = _; omega
  have HA2 : Hid (ArrU w2 (w.heap.size + 1) (words s 0 ++ List.replicate (64 - 0) 0)) := by rw [← hS1]; exact hA2
  clear hA1 hA2 hB1 hB2 hS1 hS2
  obtain ⟨g, hg⟩ : ∃ g, w.heap.size + 1 = g := ⟨_, rfl⟩
  rw [hg] at HA2 ⊢
  go_loopw [8] (fun i wr => ∃ (k : Nat), i = .int .i64 k ∧ k ≤ 16 ∧ ArrU wr g (words s k ++ List.replicate (64 - k) 0) ∧ Below g w2 wr)
    (fun i _ => 16 - (intOf i).toNat)
  case atStart => exact ⟨0, rfl, Nat.zero_le _, HA2.out, Below.refl _ _⟩
  case round =>
   as_aux_lemma =>
    obtain ⟨k, rfl, hk, hrow, hnx⟩ := hrel
    have HRow : Hid (ArrU wr g (words s k ++ List.replicate (64 - k) 0)) := hrow
    clear hrow HA2
    by_cases hlt : k < 16
    · as_aux_lemma =>
      obtain ⟨z0, a0, b0, x0, r0⟩ := run_byte (P := Tryd.prog) 9 0 0 s (4 * k) Tryd.underlying9 (by omega)
      obtain ⟨z1, a1, b1, x1, r1⟩ := run_byte (P := Tryd.prog) 9 0 0 s (4 * k + 1) Tryd.underlying9 (by omega)
      obtain ⟨z2, a2, b2, x2, r2⟩ := run_byte (P := Tryd.prog) 9 0 0 s (4 * k + 2) Tryd.underlying9 (by omega)
      obtain ⟨z3, a3, b3, x3, r3⟩ := run_byte (P := Tryd.prog) 9 0 0 s (4 * k + 3) Tryd.underlying9 (by omega)
      have q0 := fun w0 => U_of_u8 (P := Tryd.prog) w0 5 127 z0 a0 b0 Tryd.underlying5 Tryd.underlying127
      have q1 := fun w0 => U_of_u8 (P := Tryd.prog) w0 5 127 z1 a1 b1 Tryd.underlying5 Tryd.underlying127
      have q2 := fun w0 => U_of_u8 (P := Tryd.prog) w0 5 127 z2 a2 b2 Tryd.underlying5 Tryd.underlying127
      have q3 := fun w0 => U_of_u8 (P := Tryd.prog) w0 5 127 z3 a3 b3 Tryd.underlying5 Tryd.underlying127
      rw [x0] at q0
      rw [x1] at q1
      rw [x2] at q2
      rw [x3] at q3
      clear x0 x1 x2 x3
      obtain ⟨m, hm⟩ : ∃ m : Nat, m = 4 * k := ⟨_, rfl⟩
      rw [← hm] at r0 r1 r2 r3
      have e0 : IntKind.i64.wrap (4 * (k : Int)) = (m : Int) := by rw [hm]; simp [IntKind.wrap, IntKind.signed, IntKind.bits]; omega
      have e1 : IntKind.i64.wrap ((m : Int) + 1) = ((m + 1 : Nat) : Int) := by simp [IntKind.wrap, IntKind.signed, IntKind.bits]; omega
      have e2 : IntKind.i64.wrap ((m : Int) + 2) = ((m + 2 : Nat) : Int) := by simp [IntKind.wrap, IntKind.signed, IntKind.bits]; omega
      have e3 : IntKind.i64.wrap ((m : Int) + 3) = ((m + 3 : Nat) : Int) := by simp [IntKind.wrap, IntKind.signed, IntKind.bits]; omega
      obtain ⟨m1, hm1⟩ : ∃ m1 : Nat, m1 = m + 1 := ⟨_, rfl⟩
      obtain ⟨m2, hm2⟩ : ∃ m1 : Nat, m1 = m + 2 := ⟨_, rfl⟩
      obtain ⟨m3, hm3⟩ : ∃ m1 : Nat, m1 = m + 3 := ⟨_, rfl⟩
      rw [← hm1] at r1 e1
      rw [← hm2] at r2 e2
      rw [← hm3] at r3 e3
      have HM : Hid (m = 4 * k) := hm
      have HM1 : Hid (m1 = m + 1) := hm1
      have HM2 : Hid (m2 = m + 2) := hm2
      have HM3 : Hid (m3 = m + 3) := hm3
      clear hm hm1 hm2 hm3
      have hc : wr.cell? ⟨g, k, none⟩ = some (U 0) := (HRow.out.cell (k := k) (by simp [words]; omega)).trans (by simp [words])
      have hfz := HRow.out.frozen (k := k) (by simp [words]; omega)
      have hcl : ∀ x : UInt32, (U x).cells = #[U x] := fun _ => rfl
      unfold Value.cells at hcl
      have k0 : (0 : Int) ≤ (k : Int) := by omega
      have k1 : (k : Int) < 64 := by omega
      go_wp2_with fail
      go_region
      clear r0 r1 r2 r3 q0 q1 q2 q3 e0 e1 e2 e3 hc hfz hcl
      have HRow2 : Hid (ArrU (wr.setCell ⟨g, k, none⟩ (U (wordAt s k))).drew g (words s (k + 1) ++ List.replicate (64 - (k + 1)) 0)) :=
        (HRow.out.set (k := k) (by simp [words]; omega) (by rw [words_succ]; exact set_next (words_length s k) (by omega))).drew
      have HB3 : Hid (Below g w2 (wr.setCell ⟨g, k, none⟩ (U (wordAt s k))).drew) := (hnx.setCell (Nat.le_refl _) _).drew
      have HE : Hid (U (wordAt s k) = U (sl (b32 s (4 * k)) 24 ||| sl (b32 s (4 * k + 1)) 16 ||| sl (b32 s (4 * k + 2)) 8 ||| b32 s (4 * k + 3))) := rfl
      rw [← HE.out]
      generalize (wr.setCell ⟨g, k, none⟩ (U (wordAt s k))).drew = w3 at *
      generalize U (wordAt s k) = uu at *
      go_wp2
      go_roundw
      case rel => exact ⟨k + 1, by go_num, hlt, HRow2.out, HB3.out⟩
      case measure => simp [intOf]; omega
    · as_aux_lemma =>
      obtain rfl : k = 16 := by omega
      have HR2 : Hid (ArrU wr g (sch s 0 ++ List.replicate (64 - (16 + 0)) 0)) := HRow.out
      have HB3 : Hid (Below g w2 wr) := hnx
      clear HRow hnx
      rw [show ((16 : Nat) : Int) = 16 from rfl]
      go_wp2_with fail
      go_loopw [5, 6, 7] (fun i _ _ wr => ∃ (n : Nat), i = .int .i64 ((16 + n : Nat) : Int) ∧ n ≤ 48 ∧ ArrU wr g (sch s n ++ List.replicate (64 - (16 + n)) 0) ∧ Below g w2 wr)
        (fun i _ _ _ => 64 - (intOf i).toNat)
      case atStart => exact ⟨0, rfl, Nat.zero_le _, HR2.out, HB3.out⟩
      case round =>
       as_aux_lemma =>
        clear HR2 HB3
        obtain ⟨n, rfl, hn, hrow, hnx⟩ := hrel
        have hlen := sch_length s n
        obtain ⟨k, hkn⟩ : ∃ k : Nat, 16 + n = k := ⟨_, rfl⟩
        rw [hkn] at hrow hlen ⊢
        have HRow : Hid (ArrU wr g (sch s n ++ List.replicate (64 - k) 0)) := hrow
        have HKN : Hid (16 + n = k) := hkn
        by_cases hlt : k < 64
        · as_aux_lemma =>
          have d15 := HRow.out.cellD (k := k - 15) (by omega)
          have d2 := HRow.out.cellD (k := k - 2) (by omega)
          have d16 := HRow.out.cellD (k := k - 16) (by omega)
          have d7 := HRow.out.cellD (k := k - 7) (by omega)
          have hc : wr.cell? ⟨g, k, none⟩ = some (U 0) := (HRow.out.cell (k := k) (by simp; omega)).trans (by rw [List.getElem_append_right (by omega)]; simp)
          have hfz := HRow.out.frozen (k := k) (by simp; omega)
          have HX : Hid (nxt (sch s n) = (sch s n).getD (k - 16) 0 + (rot ((sch s n).getD (k - 15) 0) 7 ^^^ rot ((sch s n).getD (k - 15) 0) 18 ^^^ sr ((sch s n).getD (k - 15) 0) 3) + (sch s n).getD (k - 7) 0 + (rot ((sch s n).getD (k - 2) 0) 17 ^^^ rot ((sch s n).getD (k - 2) 0) 19 ^^^ sr ((sch s n).getD (k - 2) 0) 10)) := by
            show nxt (sch s n) = _
            unfold nxt
            rw [hlen]
          obtain ⟨m15, f15⟩ : ∃ m : Nat, k - 15 = m := ⟨_, rfl⟩
          obtain ⟨m2, f2⟩ : ∃ m : Nat, k - 2 = m := ⟨_, rfl⟩
          obtain ⟨m16, f16⟩ : ∃ m : Nat, k - 16 = m := ⟨_, rfl⟩
          obtain ⟨m7, f7⟩ : ∃ m : Nat, k - 7 = m := ⟨_, rfl⟩
          rw [f15] at d15 HX
          rw [f2] at d2 HX
          rw [f16] at d16 HX
          rw [f7] at d7 HX
          have e15 : (k : Int) - 15 = (m15 : Int) := by omega
          have e2 : (k : Int) - 2 = (m2 : Int) := by omega
          have e16 : IntKind.i64.wrap ((k : Int) - 16) = (m16 : Int) := by simp [IntKind.wrap, IntKind.signed, IntKind.bits]; omega
          have e7 : IntKind.i64.wrap ((k : Int) - 7) = (m7 : Int) := by simp [IntKind.wrap, IntKind.signed, IntKind.bits]; omega
          have l15 : (m15 : Int) < 64 := by omega
          have l2 : (m2 : Int) < 64 := by omega
          have l16 : (m16 : Int) < 64 := by omega
          have l7 : (m7 : Int) < 64 := by omega
          have lk : (k : Int) < 64 := by omega
          have w15 : IntKind.i64.wrap (m15 : Int) = (m15 : Int) := by simp [IntKind.wrap, IntKind.signed, IntKind.bits]; omega
          have w2' : IntKind.i64.wrap (m2 : Int) = (m2 : Int) := by simp [IntKind.wrap, IntKind.signed, IntKind.bits]; omega
          have HSX : Hid (∀ wx : World, ArrU wx g (sch s n ++ List.replicate (64 - k) 0) → ArrU (wx.setCell ⟨g, k, none⟩ (U (nxt (sch s n)))).drew g (sch s (n + 1) ++ List.replicate (64 - (k + 1)) 0)) := fun wx h =>
            (h.set (k := k) (by simp; omega) (by rw [sch]; exact set_next hlen hlt)).drew
          generalize nxt (sch s n) = nx at *
          generalize (sch s n).getD m15 0 = x at *
          generalize (sch s n).getD m2 0 = y at *
          generalize (sch s n).getD m16 0 = v16 at *
          generalize (sch s n).getD m7 0 = v7 at *
          have hcl : ∀ x : UInt32, (U x).cells = #[U x] := fun _ => rfl
          unfold Value.cells at hcl
          have HNE : Hid (m16 ≠ k ∧ m7 ≠ k) := ⟨by omega, by omega⟩
          clear f15 f2 f16 f7 hkn hlen HRow
          have HP : Hid (ArrU wr g (sch s n ++ List.replicate (64 - k) 0) ∧ Below g w2 wr) := ⟨hrow, hnx⟩
          clear hrow hnx
          go_wp2_with fail
          go_quiet (first | (go_at_call 129; exact Calls.quiet_of_same (turnI_any _ _ _ (by omega) (by omega))))
          have HP1 : Hid (ArrU (wr.drewN nq) g (sch s n ++ List.replicate (64 - k) 0) ∧ Below g w2 (wr.drewN nq)) := ⟨HP.out.1.drewN _, belN HP.out.2 _⟩
          have d2n : (wr.drewN nq).cell? ⟨g, m2, none⟩ = some (U y) := d2
          have d16n : (wr.drewN nq).cell? ⟨g, m16, none⟩ = some (U v16) := d16
          have d7n : (wr.drewN nq).cell? ⟨g, m7, none⟩ = some (U v7) := d7
          have hcn : (wr.drewN nq).cell? ⟨g, k, none⟩ = some (U 0) := hc
          have hfn : (wr.drewN nq).frozen? ⟨g, k, none⟩ = false := hfz
          clear HP d2 d16 d7 hc hfz d15
          generalize wr.drewN nq = wa at *
          go_wp2_with fail
          go_quiet (first | (go_at_call 129; exact Calls.quiet_of_same (turnI_any _ _ _ (by omega) (by omega))))
          have HP2 : Hid (ArrU (wa.drewN nq) g (sch s n ++ List.replicate (64 - k) 0) ∧ Below g w2 (wa.drewN nq)) := ⟨HP1.out.1.drewN _, belN HP1.out.2 _⟩
          have d16 : (wa.drewN nq).cell? ⟨g, m16, none⟩ = some (U v16) := d16n
          have d7 : (wa.drewN nq).cell? ⟨g, m7, none⟩ = some (U v7) := d7n
          have hc : (wa.drewN nq).cell? ⟨g, k, none⟩ = some (U 0) := hcn
          have hfz : (wa.drewN nq).frozen? ⟨g, k, none⟩ = false := hfn
          clear HP1 d2n d16n d7n hcn hfn
          generalize wa.drewN nq = wb at *
          have HRow2 : Hid (ArrU (wb.setCell ⟨g, k, none⟩ (U nx)).drew g (sch s (n + 1) ++ List.replicate (64 - (k + 1)) 0)) := HSX.out _ HP2.out.1
          have HB2 : Hid (Below g w2 (wb.setCell ⟨g, k, none⟩ (U nx)).drew) := (HP2.out.2.setCell (Nat.le_refl _) _).drew
          have K16 : Hid (∀ v, (wb.setCell ⟨g, k, none⟩ v).drew.cell? ⟨g, m16, none⟩ = some (U v16)) := fun v => (cell_other HNE.out.1).trans d16
          have K7 : Hid (∀ v, (wb.setCell ⟨g, k, none⟩ v).drew.cell? ⟨g, m7, none⟩ = some (U v7)) := fun v => (cell_other HNE.out.2).trans d7
          go_wp2_with fail
          go_region_held3 (fun w' => w'.cell? ⟨g, m16, none⟩ = some (U v16) ∧ w'.cell? ⟨g, m7, none⟩ = some (U v7)) (first | exact ⟨d16, d7⟩ | exact ⟨K16.out _, K7.out _⟩) (first | fail)
          rw [← HX.out]
          generalize (wb.setCell ⟨g, k, none⟩ (U nx)).drew = w3 at *
          clear hc hfz d16 d7 hcl e15 e2 e16 e7 K16 K7 HX w15 w2'
          go_wp2
          go_roundw
          case rel => exact ⟨n + 1, by have := HKN.out; go_num, by have := HKN.out; omega, by rw [show 16 + (n + 1) = k + 1 by have := HKN.out; omega]; exact HRow2.out, HB2.out⟩
          case measure => simp [intOf]; omega
        · as_aux_lemma =>
          obtain rfl : n = 48 := by have := HKN.out; omega
          obtain rfl : k = 64 := by have := HKN.out; omega
          have HR3 : ArrU wr g (sch s 48) := by have := HRow.out; rw [Nat.sub_self, List.replicate_zero, List.append_nil] at this; exact this
          have hl48 : (sch s 48).length = 64 := sch_length s 48
          have HA3 := HA1.out.below hnx (by omega)
          have HBW := HB2.out.trans (hnx.mono (by omega))
          clear HRow hrow hnx HA1 HB2 HS2
          obtain ⟨l, hl⟩ : ∃ l, sch s 48 = l := ⟨_, rfl⟩
          have HL : Hid (sch s 48 = l) := hl
          rw [hl] at HR3 hl48
          clear hl hlen
          go_wp2_with (first
            | (refine wpList_loadU rfl _ _ (by rfl) g l (by rfl) HR3 64 127 Tryd.undA64 Tryd.sizeA64 hl48 ?_)
            | (refine wpList_storeU rfl _ _ _ (by rfl) w.heap.size (List.replicate 64 0) l (by rfl) (by rfl) HA3 (by rw [List.length_replicate]; exact Tryd.sizeA64) (by rw [List.length_replicate]; exact hl48) ?_; intro w5 hA5 hB5 _))
          refine bodyPost_ret (results_U (t := 166) rfl _ w.heap.size _ rfl hA5 64 127 Tryd.undA64 Tryd.sizeA64 hl48) rfl ⟨by rw [HL.out], ?_⟩
          exact HBW.trans (hB5 _ (Nat.le_refl _))
end Go.Proofs.YtchfpiadfmnphaaDoor
namespace Go.Proofs.YtchfpiadfmnphaaDoor
open Go.RowKit
set_option linter.unusedVariables false
attribute [local go_sem] U_xor U_or U_and U_add U_shr U_shl U_not U_store U_one'
attribute [local go_sem ↓] Go.wp_at_zero Go.wp_at_succ U_cells

theorem ArrU.far {w : World} {g b k : Nat} {l : List UInt32} {v : Value} (h : ArrU w g l) (hne : g ≠ b) : ArrU (w.setCell ⟨b, k, none⟩ v).drew g l := by
  have hc : ∀ j, (w.setCell ⟨b, k, none⟩ v).drew.cell? ⟨g, 0 + j, none⟩ = w.cell? ⟨g, 0 + j, none⟩ := fun j => by
    show (w.setCell ⟨b, k, none⟩ v).cell? _ = _
    exact World.cell?_setCell_other w _ _ v (by intro e; injection e with e _ _; exact hne e.symm)
  refine ⟨fun j u hu => (hc j).trans (h.rng j u hu), fun j hj => ⟨by rw [hc j]; exact (h.ths j hj).1, ?_⟩⟩
  show (w.setCell ⟨b, k, none⟩ v).frozen? _ = _
  rw [World.frozen?_setCell]
  exact (h.ths j hj).2
theorem wanted_none {o : Oper} {y : Nat → Option Bool} (h : o.guard = none) : Region.wanted o y = true := by simp [Region.wanted, h]
theorem mix_set (r q : R8) {k : Nat} (hk : k < 8) : outs r q (k + 1) ++ r.list.drop (k + 1) = (outs r q k ++ r.list.drop k).set k (r.at k + q.at k) := by
  match k, hk with
  | 0, _ => rfl
  | 1, _ => rfl
  | 2, _ => rfl
  | 3, _ => rfl
  | 4, _ => rfl
  | 5, _ => rfl
  | 6, _ => rfl
  | 7, _ => rfl
theorem mix_get (r q : R8) {k : Nat} (hk : k < 8) : (outs r q k ++ r.list.drop k)[k]? = some (r.at k) := by
  match k, hk with
  | 0, _ => rfl
  | 1, _ => rfl
  | 2, _ => rfl
  | 3, _ => rfl
  | 4, _ => rfl
  | 5, _ => rfl
  | 6, _ => rfl
  | 7, _ => rfl
theorem mix_len (r q : R8) {k : Nat} (hk : k ≤ 8) : (outs r q k ++ r.list.drop k).length = 8 := by
  simp [outs, R8.list]; omega
theorem ArrU.cellQ {w : World} {g k : Nat} {l : List UInt32} {x : UInt32} (h : ArrU w g l) (hx : l[k]? = some x) : w.cell? ⟨g, k, none⟩ = some (U x) := by
  obtain ⟨hk, he⟩ := List.getElem?_eq_some_iff.1 hx
  rw [h.cell hk, he]
theorem list_get (r : R8) {k : Nat} (hk : k < 8) : r.list[k]? = some (r.at k) := mix_get r r hk ▸ (by
  match k, hk with
  | 0, _ => rfl
  | 1, _ => rfl
  | 2, _ => rfl
  | 3, _ => rfl
  | 4, _ => rfl
  | 5, _ => rfl
  | 6, _ => rfl
  | 7, _ => rfl)

set_option maxRecDepth 100000 in
set_option maxHeartbeats 1000000 in
theorem blockI_any (r : R8) (s : ByteArray) (w : World) (hs : s.size = 64) (hK : ArrU w 0 keys) (hg0 : 0 < w.heap.size) :
    Calls Tryd.prog 107 #[aggU r.list, .string s] w fun e w' => e = .returned (aggU (blk r s).list) ∧ Below w.heap.size w w' := by
  have HK : Hid (ArrU w 0 keys) := hK
  clear hK
  obtain ⟨l, hl⟩ : ∃ l, sch s 48 = l := ⟨_, rfl⟩
  have hl48 : l.length = 64 := by rw [← hl]; exact sch_length s 48
  have hspr : ∀ w0 : World, Calls Tryd.prog 117 #[.string s] w0 fun e w' => e = .returned (aggU l) ∧ Below w0.heap.size w0 w' := fun w0 => by rw [← hl]; exact spread_any s w0 hs
  have HL : Hid (True → sch s 48 = l) := fun _ => hl
  clear hl
  go_enter Tryd.func107, Tryd.ntmps107
  go_wp2_with (first
    | (with_reducible refine wpList_boxU (w := w) (by with_unfolding_all rfl) 128 (.tmp 0) (by with_unfolding_all rfl) r.list (by with_unfolding_all rfl) ?_; intro w1 hA1 hB1 hS1)
    | (with_reducible refine wpList_allocU (w := w1) (by with_unfolding_all rfl) 128 (by with_unfolding_all rfl) 8 Tryd.infoA8 ?_; intro w2 hA2 hB2 hS2)
    | (go_at_call 117; refine (hspr _).mono ?_; rintro e w3 ⟨rfl, hB3⟩)
    | (with_reducible refine wpList_allocU (w := w3) (by with_unfolding_all rfl) 166 (by with_unfolding_all rfl) 64 Tryd.infoA64 ?_; intro w4 hA4 hB4 hS4)
    | (with_reducible refine wpList_storeU (w := w4) (by with_unfolding_all rfl) 166 (.tmp 5) (.tmp 10) (by with_unfolding_all rfl) w3.heap.size (List.replicate 64 0) l (by with_unfolding_all rfl) (by with_unfolding_all rfl) hA4 (by rw [List.length_replicate]; exact Tryd.sizeA64) (by rw [List.length_replicate]; exact hl48) ?_; intro w5 hA5 hB5 _; have HW5 : ArrU w5 w.heap.size r.list := (((hA1.below hB2 (by omega)).below hB3 (by omega)).below (hB4.trans (hB5 _ (Nat.le_refl _))) (by have := hB3.size; omega)))
    | (with_reducible refine wpList_loadU (w := w5) (by with_unfolding_all rfl) 128 (.tmp 2) (by with_unfolding_all rfl) w.heap.size r.list (by with_unfolding_all rfl) HW5 8 127 Tryd.undA8 Tryd.sizeA8 (by with_unfolding_all rfl) ?_)
    | (with_reducible refine wpList_allocU (w := w5) (by with_unfolding_all rfl) 128 (by with_unfolding_all rfl) 8 Tryd.infoA8 ?_; intro w6 hA6 hB6 hS6)
    | (with_reducible refine wpList_storeU (w := w6) (by with_unfolding_all rfl) 128 (.tmp 6) (.tmp 11) (by with_unfolding_all rfl) w5.heap.size (List.replicate 8 0) r.list (by with_unfolding_all rfl) (by with_unfolding_all rfl) hA6 (by rw [List.length_replicate]; exact Tryd.sizeA8) (by with_unfolding_all rfl) ?_; intro w7 hA7 hB7 _))
  have hz3 := hB3.size
  have hB57 : Below w5.heap.size w5 w7 := hB6.trans (hB7 _ (Nat.le_refl _))
  have hB47 : Below w3.heap.size w3 w5 := hB4.trans (hB5 _ (Nat.le_refl _))
  have hz5 := hB47.size
  have HW7 : Hid (ArrU w7 w.heap.size r.list) := HW5.below hB57 (by omega)
  have HB7 : Hid (Below w.heap.size w w7) := ((hB1.trans (hB2.mono (by omega))).trans ((hB3.mono (by omega)).trans (hB47.mono (by omega)))).trans (hB57.mono (by omega))
  have HS7 : Hid (ArrU w7 w3.heap.size l) := hA5.below hB57 (by have := (hB5 _ (Nat.le_refl _)).size; omega)
  have HR7 : Hid (ArrU w7 (w.heap.size + 1) (List.replicate 8 0)) := by rw [← hS1]; exact ((hA2.below hB3 (by omega)).below hB47 (by omega)).below hB57 (by omega)
  have HT7 : Hid (ArrU w7 w5.heap.size (rnds s r 0).list) := hA7
  have HK7 : Hid (ArrU w7 0 keys) := HK.out.below HB7.out hg0
  have HD : Hid (w.heap.size + 1 < w3.heap.size ∧ w3.heap.size < w5.heap.size) := ⟨by omega, by have := (hB5 _ (Nat.le_refl _)).size; omega⟩
  have HRN : Hid (∀ n, n < 64 → rnds s r (n + 1) = rndx (rnds s r n) (keys.getD n 0 + l.getD n 0)) := fun n _ => by rw [rnds, rnd_x, HL.out trivial]
  clear hA1 hA2 hB1 hB2 hS1 hS2 hB3 hA4 hB4 hS4 hA5 hB5 HW5 hA6 hB6 hS6 hA7 hB7 hB57 hB47 hz3 hz5 hspr HL HK
  generalize w3.heap.size = gs at *
  generalize w5.heap.size = gt at *
  go_loopw [12] (fun i wr => ∃ (n : Nat), i = .int .i64 (n : Int) ∧ n ≤ 64 ∧ ArrU wr gt (rnds s r n).list ∧ Below gt w7 wr)
    (fun i _ => 64 - (intOf i).toNat)
  case atStart => exact ⟨0, rfl, Nat.zero_le _, HT7.out, Below.refl _ _⟩
  case round =>
   as_aux_lemma =>
    clear HT7
    obtain ⟨n, rfl, hn, hT, hnx⟩ := hrel
    have HT : Hid (ArrU wr gt (rnds s r n).list) := hT
    clear hT
    by_cases hlt : n < 64
    · as_aux_lemma =>
      have hd := HD.out
      have dk := (HK7.out.below hnx (by omega)).cell (k := n) (by rw [keys_length]; exact hlt)
      have dw := (HS7.out.below hnx (by omega)).cell (k := n) (by omega)
      have HE : Hid (True → keys.getD n 0 = keys[n]'(by rw [keys_length]; exact hlt) ∧ l.getD n 0 = l[n]'(by omega)) := fun _ => ⟨by simp [keys_length, hlt], by simp [hl48, hlt]⟩
      have HRN' : Hid (True → rnds s r (n + 1) = rndx (rnds s r n) (keys.getD n 0 + l.getD n 0)) := fun _ => HRN.out n hlt
      generalize keys[n]'(by rw [keys_length]; exact hlt) = kk at *
      generalize l[n]'(by omega) = ww at *
      generalize rnds s r n = q at *
      have ln : (n : Int) < 64 := by omega
      have l0 : (0 : Int) ≤ n := by omega
      clear HK7 HS7 HRN hd
      go_wp2_with fail
      refine wp_region_held_drew (S := fun w' => w'.cell? ⟨0, n, none⟩ = some (U kk) ∧ w'.cell? ⟨gs, n, none⟩ = some (U ww)) (by kernel_rfl) ⟨dk, dw⟩ (fun hHeld => ?_)
      refine wpAnyH_take (i := 1) (oi := ⟨_, _, _, _, _, _⟩) (v := .int .i64 (n : Int)) rfl (by kernel_rfl) (by kernel_rfl) (by kernel_rfl) (fun _ _ _ h => h) (Or.inl ⟨wanted_none rfl, fun w' hSw => ?_⟩) hHeld ?_
      · obtain ⟨hk', hw'⟩ := hSw
        go_simp
      simp only [Act.put, List.setIfInBounds_toArray, List.set_cons_zero, List.set_cons_succ]
      refine wpAnyH_take (i := 2) (oi := ⟨_, _, _, _, _, _⟩) (v := .pointer (some ⟨0, n, none⟩)) rfl (by kernel_rfl) (by kernel_rfl) (by kernel_rfl) (fun _ _ _ h => h) (Or.inl ⟨wanted_none rfl, fun w' hSw => ?_⟩) hHeld ?_
      · obtain ⟨hk', hw'⟩ := hSw
        go_simp
      simp only [Act.put, List.setIfInBounds_toArray, List.set_cons_zero, List.set_cons_succ]
      refine wpAnyH_take (i := 3) (oi := ⟨_, _, _, _, _, _⟩) (v := U kk) rfl (by kernel_rfl) (by kernel_rfl) (by kernel_rfl) (fun _ _ _ h => h) (Or.inl ⟨wanted_none rfl, fun w' hSw => ?_⟩) hHeld ?_
      · obtain ⟨hk', hw'⟩ := hSw
        go_simp
      simp only [Act.put, List.setIfInBounds_toArray, List.set_cons_zero, List.set_cons_succ]
      refine wpAnyH_take (i := 4) (oi := ⟨_, _, _, _, _, _⟩) (v := .int .i64 (n : Int)) rfl (by kernel_rfl) (by kernel_rfl) (by kernel_rfl) (fun _ _ _ h => h) (Or.inl ⟨wanted_none rfl, fun w' hSw => ?_⟩) hHeld ?_
      · obtain ⟨hk', hw'⟩ := hSw
        go_simp
      simp only [Act.put, List.setIfInBounds_toArray, List.set_cons_zero, List.set_cons_succ]
      refine wpAnyH_take (i := 5) (oi := ⟨_, _, _, _, _, _⟩) (v := .pointer (some ⟨gs, n, none⟩)) rfl (by kernel_rfl) (by kernel_rfl) (by kernel_rfl) (fun _ _ _ h => h) (Or.inl ⟨wanted_none rfl, fun w' hSw => ?_⟩) hHeld ?_
      · obtain ⟨hk', hw'⟩ := hSw
        go_simp
      simp only [Act.put, List.setIfInBounds_toArray, List.set_cons_zero, List.set_cons_succ]
      refine wpAnyH_take (i := 6) (oi := ⟨_, _, _, _, _, _⟩) (v := U ww) rfl (by kernel_rfl) (by kernel_rfl) (by kernel_rfl) (fun _ _ _ h => h) (Or.inl ⟨wanted_none rfl, fun w' hSw => ?_⟩) hHeld ?_
      · obtain ⟨hk', hw'⟩ := hSw
        go_simp
      simp only [Act.put, List.setIfInBounds_toArray, List.set_cons_zero, List.set_cons_succ]
      refine wpAnyH_take (i := 7) (oi := ⟨_, _, _, _, _, _⟩) (v := U (kk + ww)) rfl (by kernel_rfl) (by kernel_rfl) (by kernel_rfl) (fun _ _ _ h => h) (Or.inl ⟨wanted_none rfl, fun w' hSw => ?_⟩) hHeld ?_
      · obtain ⟨hk', hw'⟩ := hSw
        go_simp
      simp only [Act.put, List.setIfInBounds_toArray, List.set_cons_zero, List.set_cons_succ]
      refine wpAnyH_ready (rs := [0]) (by kernel_rfl) (by simp) (AllReadyH.cons (o := ⟨_, _, _, _, _, _⟩) rfl (fun K hK => ?_) AllReadyH.nil)
      rewrite [if_pos (wanted_none rfl)]
      with_reducible refine wp_load_mid 128 (.tmp 6) (by with_unfolding_all rfl) gt 0 (by with_unfolding_all rfl) (us q.list) (.array 8 127) HT.out.drew.rng Tryd.undA8 (by with_unfolding_all rfl) (by with_unfolding_all exact Tryd.sizeA8) ?_
      refine hK.out _ _ hHeld (fun hHeld => ?_)
      clear hK K
      simp only [Act.put, List.setIfInBounds_toArray, List.set_cons_zero, List.set_cons_succ]
      refine wpAnyH_ready (rs := [8]) (by kernel_rfl) (by simp) (AllReadyH.cons (o := ⟨_, _, _, _, _, _⟩) rfl (fun K hK => ?_) AllReadyH.nil)
      rewrite [if_pos (wanted_none rfl)]
      go_simp
      refine (round_any q (kk + ww) _).mono ?_
      rintro e w3 ⟨rfl, hB3⟩
      go_wp2_with fail
      have hzz := hnx.size
      have hd := HD.out
      have HH : w3.cell? ⟨0, n, none⟩ = some (U kk) ∧ w3.cell? ⟨gs, n, none⟩ = some (U ww) := ⟨(hB3.cell (p := ⟨0, n, none⟩) (cell_lt hHeld.1)).trans hHeld.1, (hB3.cell (p := ⟨gs, n, none⟩) (cell_lt hHeld.2)).trans hHeld.2⟩
      refine hK.out _ _ HH (fun hHeld2 => ?_)
      clear hK K
      have HT3 : ArrU w3 gt q.list := HT.out.drew.below hB3 (HT.out.lt (by show 0 < 8; omega))
      refine wpAnyH_ready (rs := [9]) (by kernel_rfl) (by simp) (AllReadyH.cons (o := ⟨_, _, _, _, _, _⟩) rfl (fun K hK => ?_) AllReadyH.nil)
      rewrite [if_pos (wanted_none rfl)]
      with_reducible refine wp_store_mid 128 (.tmp 6) (.tmp 23) (by with_unfolding_all rfl) gt 0 (us (rndx q (kk + ww)).list).toArray (by with_unfolding_all rfl) (by with_unfolding_all rfl) (by with_unfolding_all exact HT3.ths) (by with_unfolding_all exact Tryd.sizeA8) (us_one _) ?_
      have HB4 : Below gt wr (w3.setCells gt 0 (us (rndx q (kk + ww)).list)) := ((Below.refl _ wr).drew.trans (hB3.mono (by have := HT.out.lt (by show 0 < 8; omega); exact Nat.le_of_lt this))).trans (Lib.below_setCells_w (Nat.le_refl _) _ _ _)
      have HT4 : Hid (ArrU (w3.setCells gt 0 (us (rndx q (kk + ww)).list)) gt (rndx q (kk + ww)).list) := HT3.put rfl
      have HB5 : Hid (Below gt w7 (w3.setCells gt 0 (us (rndx q (kk + ww)).list))) := hnx.trans HB4
      have HH4 : (w3.setCells gt 0 (us (rndx q (kk + ww)).list)).cell? ⟨0, n, none⟩ = some (U kk) ∧ (w3.setCells gt 0 (us (rndx q (kk + ww)).list)).cell? ⟨gs, n, none⟩ = some (U ww) := ⟨(HB4.cell (p := ⟨0, n, none⟩) (by show 0 < gt; omega)).trans dk, (HB4.cell (p := ⟨gs, n, none⟩) (by show gs < gt; omega)).trans dw⟩
      dsimp only
      generalize w3.setCells gt 0 (us (rndx q (kk + ww)).list) = w4 at *
      refine hK.out _ _ HH4 (fun hHeld3 => ?_)
      clear hK K
      refine wpAnyH_done (by kernel_rfl) ?_ _
      clear HH4 HT3 HB4 HH hHeld hHeld2 hHeld3 dk dw hB3
      go_wp2
      go_roundw
      case rel => exact ⟨n + 1, by go_num, hlt, by rw [HRN'.out trivial, (HE.out trivial).1, (HE.out trivial).2]; exact HT4.out, HB5.out⟩
      case measure => simp [intOf]; omega
    · as_aux_lemma =>
      obtain rfl : n = 64 := by omega
      have hd := HD.out
      obtain ⟨q, hq⟩ : ∃ q, rnds s r 64 = q := ⟨_, rfl⟩
      rw [hq] at HT
      have HQ : Hid (True → blk r s = r.add q) := fun _ => by rw [blk, hq]
      have HW8 : Hid (ArrU wr w.heap.size (outs r q 0 ++ r.list.drop 0)) := HW7.out.below hnx (by omega)
      have HR8 : Hid (ArrU wr (w.heap.size + 1) (List.replicate 8 0)) := HR7.out.below hnx (by omega)
      have HB8 : Hid (Below w.heap.size w wr) := HB7.out.trans (hnx.mono (by omega))
      have hne : w.heap.size ≠ gt ∧ w.heap.size ≠ w.heap.size + 1 := ⟨by omega, by omega⟩
      have HNE : Hid (gt ≠ w.heap.size) := fun e => hne.1 e.symm
      clear HRN HK7 HS7 HW7 HR7 HB7 hnx hq hne hd HD hlt hn
      rw [show ((64 : Nat) : Int) = 64 from rfl]
      go_wp2_with fail
      go_loopw [25] (fun i wr => ∃ (k : Nat), i = .int .i64 (k : Int) ∧ k ≤ 8 ∧ ArrU wr w.heap.size (outs r q k ++ r.list.drop k) ∧ ArrU wr gt q.list ∧ ArrU wr (w.heap.size + 1) (List.replicate 8 0) ∧ Below w.heap.size w wr)
        (fun i _ => 8 - (intOf i).toNat)
      case atStart => exact ⟨0, rfl, Nat.zero_le _, HW8.out, HT.out, HR8.out, HB8.out⟩
      case round =>
       as_aux_lemma =>
        clear HT HW8 HR8 HB8
        obtain ⟨k, rfl, hk, hW, hT, hR, hB⟩ := hrel
        have H8 : Hid (ArrU wr w.heap.size (outs r q k ++ r.list.drop k) ∧ ArrU wr gt q.list ∧ ArrU wr (w.heap.size + 1) (List.replicate 8 0) ∧ Below w.heap.size w wr) := ⟨hW, hT, hR, hB⟩
        by_cases hlt : k < 8
        · as_aux_lemma =>
          have c1 := hW.cellQ (mix_get r q hlt)
          have c2 := hT.cellQ (list_get q hlt)
          have hfz := hW.frozen (k := k) (by rw [mix_len r q hk]; exact hlt)
          have HS : Hid (True → outs r q (k + 1) ++ r.list.drop (k + 1) = (outs r q k ++ r.list.drop k).set k (r.at k + q.at k)) := fun _ => mix_set r q hlt
          have HLn : Hid (k < (outs r q k ++ r.list.drop k).length) := by show _ < _; rw [mix_len r q hk]; exact hlt
          generalize r.at k = x at *
          generalize q.at k = y at *
          have hcl : ∀ x : UInt32, (U x).cells = #[U x] := fun _ => rfl
          unfold Value.cells at hcl
          have lk : (k : Int) < 8 := by omega
          have l0 : (0 : Int) ≤ k := by omega
          clear hW hT hR hB
          go_wp2_with fail
          go_region
          have H9 : Hid (ArrU (wr.setCell ⟨w.heap.size, k, none⟩ (U (x + y))).drew w.heap.size (outs r q (k + 1) ++ r.list.drop (k + 1)) ∧ ArrU (wr.setCell ⟨w.heap.size, k, none⟩ (U (x + y))).drew gt q.list ∧ ArrU (wr.setCell ⟨w.heap.size, k, none⟩ (U (x + y))).drew (w.heap.size + 1) (List.replicate 8 0) ∧ Below w.heap.size w (wr.setCell ⟨w.heap.size, k, none⟩ (U (x + y))).drew) :=
            ⟨(H8.out.1.set (k := k) HLn.out (HS.out trivial)).drew, H8.out.2.1.far HNE.out, H8.out.2.2.1.far (by omega), (H8.out.2.2.2.setCell (Nat.le_refl _) _).drew⟩
          generalize (wr.setCell ⟨w.heap.size, k, none⟩ (U (x + y))).drew = w9 at *
          clear c1 c2 hfz hcl H8
          go_wp2
          go_roundw
          case rel => exact ⟨k + 1, by go_num, hlt, H9.out.1, H9.out.2.1, H9.out.2.2.1, H9.out.2.2.2⟩
          case measure => simp [intOf]; omega
        · as_aux_lemma =>
          obtain rfl : k = 8 := by omega
          have hW' : ArrU wr w.heap.size (r.add q).list := hW
          clear hW hT H8
          go_wp2_with (first
            | (with_reducible refine wpList_loadU (by with_unfolding_all rfl) 128 (.tmp 2) (by with_unfolding_all rfl) w.heap.size (r.add q).list (by with_unfolding_all rfl) hW' 8 127 Tryd.undA8 Tryd.sizeA8 (by with_unfolding_all rfl) ?_)
            | (with_reducible refine wpList_storeU (by with_unfolding_all rfl) 128 (.tmp 4) (.tmp 37) (by with_unfolding_all rfl) (w.heap.size + 1) (List.replicate 8 0) (r.add q).list (by with_unfolding_all rfl) (by with_unfolding_all rfl) hR (by rw [List.length_replicate]; exact Tryd.sizeA8) (by with_unfolding_all rfl) ?_; intro wz hAz hBz _))
          refine bodyPost_ret (results_U (t := 128) rfl _ (w.heap.size + 1) _ rfl hAz 8 127 Tryd.undA8 Tryd.sizeA8 rfl) rfl ⟨by rw [HQ.out trivial], ?_⟩
          exact hB.trans (hBz _ (by omega))
end Go.Proofs.YtchfpiadfmnphaaDoor
namespace Go.Proofs.YtchfpiadfmnphaaDoor
open Go.RowKit
set_option linter.unusedVariables false
attribute [local go_sem ↓] Go.wp_at_zero Go.wp_at_succ

def stN (r : R8) (t : ByteArray) : Nat → R8
  | 0 => r
  | n + 1 => blk (stN r t n) (t.extract (64 * n) (64 * n + 64))
theorem stN_succ (r : R8) (t : ByteArray) (n : Nat) : stN r t (n + 1) = blk (stN r t n) (t.extract (64 * n) (64 * n + 64)) := by rw [stN]
def left (t : ByteArray) (n : Nat) : ByteArray := t.extract (64 * n) t.size
theorem left_zero (t : ByteArray) : left t 0 = t := by
  unfold left
  rw [Nat.mul_zero]
  exact ByteArray.extract_zero_size
theorem left_size (t : ByteArray) (n : Nat) : (left t n).size = t.size - 64 * n := by
  unfold left
  rw [ByteArray.size_extract, Nat.min_self]
theorem left_block (t : ByteArray) (n : Nat) (h : 64 ≤ (left t n).size) : (left t n).extract 0 64 = t.extract (64 * n) (64 * n + 64) := by
  have hs := left_size t n
  unfold left
  rw [ByteArray.extract_extract]
  congr 1
  omega
theorem left_next (t : ByteArray) (n : Nat) (h : 64 ≤ (left t n).size) : (left t n).extract 64 (left t n).size = left t (n + 1) := by
  have hs := left_size t n
  rw [hs]
  unfold left
  rw [ByteArray.extract_extract]
  congr 1
  · omega
theorem results_U2 {P : Program} {fn : Func} {a b : Tmp} {t : TypeId} {w : World} (h : fn.results = #[.cell a t, .tmp b]) (tmps : Array Value) (g : Nat) (l : List UInt32) (v : Value) (hx : tmps.getD a undef = .pointer (some ⟨g, 0, none⟩)) (hv : tmps.getD b undef = v)
    (hl : ArrU w g l) (n : Nat) (e : TypeId) (hu : P.underlying t = some (.array n e)) (hi : (P.info? t).map (·.size) = some n) (hn : l.length = n) : (results fn tmps).run P w = .ok (.tuple #[aggU l, v]) w := by
  have := run_loadVar_mid (P := P) w g 0 t (us l) _ hl.rng hu rfl (by rw [us_length, hn]; exact hi)
  rw [Array.getD_eq_getD_getElem?] at hx hv
  simp [results, h, hx, hv, asAddr, this, aggU]

set_option maxRecDepth 100000 in
set_option maxHeartbeats 1000000 in
theorem blocks_any (r : R8) (t : ByteArray) (w : World) (ht : t.size ≤ 1000000000) (hK : ArrU w 0 keys) (hg0 : 0 < w.heap.size) :
    Calls Tryd.prog 87 #[aggU r.list, .string t] w fun e w' => e = .returned (.tuple #[aggU (stN r t (t.size / 64)).list, .string (left t (t.size / 64))]) ∧ Below w.heap.size w w' := by
  have HK : Hid (ArrU w 0 keys) := hK
  have H0 : Hid (left t 0 = t) := left_zero t
  clear hK
  go_enter Tryd.func87, Tryd.ntmps87
  go_wp2_with (first
    | (with_reducible refine wpList_boxU (w := w) (by with_unfolding_all rfl) 128 (.tmp 0) (by with_unfolding_all rfl) r.list (by with_unfolding_all rfl) ?_; intro w1 hA1 hB1 hS1)
    | (with_reducible refine wpList_allocU (w := w1) (by with_unfolding_all rfl) 128 (by with_unfolding_all rfl) 8 Tryd.infoA8 ?_; intro w2 hA2 hB2 hS2))
  have HW : Hid (ArrU w2 w.heap.size (stN r t 0).list ∧ ArrU w2 (w.heap.size + 1) (List.replicate 8 0) ∧ Below w.heap.size w w2) := ⟨hA1.below hB2 (by omega), by rw [← hS1]; exact hA2, hB1.trans (hB2.mono (by omega))⟩
  clear hA1 hA2 hB1 hB2
  go_loopw [1] (fun v wr => ∃ (n : Nat) (u : ByteArray), v = .string u ∧ left t n = u ∧ 64 * n ≤ t.size ∧ ArrU wr w.heap.size (stN r t n).list ∧ ArrU wr (w.heap.size + 1) (List.replicate 8 0) ∧ Below w.heap.size w wr ∧ w2.heap.size ≤ wr.heap.size)
    (fun v _ => match v with | .string s => s.size | _ => 0)
  case atStart => exact ⟨0, t, rfl, H0.out, by omega, HW.out.1, HW.out.2.1, HW.out.2.2, Nat.le_refl _⟩
  case round =>
    clear HW
    obtain ⟨n, u, rfl, hu, hn, hA, hR, hB, hz⟩ := hrel
    have H8 : Hid (ArrU wr w.heap.size (stN r t n).list ∧ ArrU wr (w.heap.size + 1) (List.replicate 8 0) ∧ Below w.heap.size w wr) := ⟨hA, hR, hB⟩
    have hls := left_size t n
    have HB1 : Hid (64 ≤ (left t n).size → (left t n).extract 0 64 = t.extract (64 * n) (64 * n + 64)) := left_block t n
    have HB2 : Hid (64 ≤ (left t n).size → (left t n).extract 64 (left t n).size = left t (n + 1)) := left_next t n
    have HST : Hid (True → stN r t (n + 1) = blk (stN r t n) (t.extract (64 * n) (64 * n + 64))) := fun _ => stN_succ r t n
    rw [hu] at hls HB1 HB2
    have HU : Hid (True → left t n = u) := fun _ => hu
    clear hu
    by_cases hlt : 64 ≤ u.size
    · as_aux_lemma =>
      have hb1 := HB1.out hlt
      have hb2 := HB2.out hlt
      obtain ⟨v, hv⟩ : ∃ v, t.extract (64 * n) (64 * n + 64) = v := ⟨_, rfl⟩
      have hvs : v.size = 64 := by rw [← hv, ← hb1, ByteArray.size_extract]; omega
      obtain ⟨q, hq⟩ : ∃ q, stN r t n = q := ⟨_, rfl⟩
      obtain ⟨q2, hq2⟩ : ∃ q2, blk q v = q2 := ⟨_, rfl⟩
      have HQ : Hid (True → stN r t (n + 1) = q2) := fun _ => by rw [HST.out trivial, hq, hv, hq2]
      obtain ⟨u2, hu2⟩ : ∃ u2, left t (n + 1) = u2 := ⟨_, rfl⟩
      have HU2 : Hid (True → left t (n + 1) = u2) := fun _ => hu2
      have HS2 : Hid (True → u2.size < u.size ∧ 64 * (n + 1) ≤ t.size) := fun _ => ⟨by have := left_size t (n + 1); rw [hu2] at this; omega, by omega⟩
      rw [hv] at hb1
      rw [hu2] at hb2
      have hbk : ∀ w0 : World, ArrU w0 0 keys → 0 < w0.heap.size → Calls Tryd.prog 107 #[aggU q.list, .string v] w0 fun e w' => e = .returned (aggU q2.list) ∧ Below w0.heap.size w0 w' := fun w0 h1 h2 => by rw [← hq2]; exact blockI_any q v w0 hvs h1 h2
      rw [hq] at hA
      have hAq : ArrU wr w.heap.size q.list := hA
      have l64 : (64 : Int) ≤ (u.size : Int) := by omega
      clear HB1 HB2 HST HU hA hv hq hq2 hu2 hls H0
      go_wp2_with fail
      have hKr : ArrU wr 0 keys := HK.out.below H8.out.2.2 hg0
      refine wp_region_held_drew (S := fun _ => True) (by kernel_rfl) trivial (fun hHeld => ?_)
      refine wpAnyH_take (i := 1) (oi := ⟨_, _, _, _, _, _⟩) (v := .string u) rfl (by kernel_rfl) (by kernel_rfl) (by kernel_rfl) (fun _ _ _ h => h) (Or.inl ⟨wanted_none rfl, fun w' hSw => ?_⟩) trivial ?_
      · go_simp
      simp only [Act.put, List.setIfInBounds_toArray, List.set_cons_zero, List.set_cons_succ]
      refine wpAnyH_take (i := 2) (oi := ⟨_, _, _, _, _, _⟩) (v := .string v) rfl (by kernel_rfl) (by kernel_rfl) (by kernel_rfl) (fun _ _ _ h => h) (Or.inl ⟨wanted_none rfl, fun w' hSw => ?_⟩) trivial ?_
      · go_simp
      simp only [Act.put, List.setIfInBounds_toArray, List.set_cons_zero, List.set_cons_succ]
      refine wpAnyH_ready (rs := [0]) (by kernel_rfl) (by simp) (AllReadyH.cons (o := ⟨_, _, _, _, _, _⟩) rfl (fun K hK => ?_) AllReadyH.nil)
      rewrite [if_pos (wanted_none rfl)]
      with_reducible refine wp_load_mid 128 (.tmp 2) (by with_unfolding_all rfl) w.heap.size 0 (by with_unfolding_all rfl) (us q.list) (.array 8 127) hAq.drew.rng Tryd.undA8 (by with_unfolding_all rfl) (by with_unfolding_all exact Tryd.sizeA8) ?_
      refine hK.out _ _ trivial (fun hHeld => ?_)
      clear hK K
      simp only [Act.put, List.setIfInBounds_toArray, List.set_cons_zero, List.set_cons_succ]
      refine wpAnyH_ready (rs := [3]) (by kernel_rfl) (by simp) (AllReadyH.cons (o := ⟨_, _, _, _, _, _⟩) rfl (fun K hK => ?_) AllReadyH.nil)
      rewrite [if_pos (wanted_none rfl)]
      go_simp
      refine (hbk wr.drew hKr.drew (Nat.lt_of_lt_of_le hg0 H8.out.2.2.size)).mono ?_
      rintro e w3 ⟨rfl, hB3⟩
      go_wp2_with fail
      refine hK.out _ _ trivial (fun _ => ?_)
      clear hK K
      have HT3 : ArrU w3 w.heap.size q.list := hAq.drew.below hB3 (hAq.lt (by show 0 < 8; omega))
      have HR3 : ArrU w3 (w.heap.size + 1) (List.replicate 8 0) := H8.out.2.1.drew.below hB3 (H8.out.2.1.lt (by decide))
      have hB4 : Below w.heap.size w w3 := (H8.out.2.2.drew).trans (hB3.mono H8.out.2.2.size)
      have hz3 : wr.heap.size ≤ w3.heap.size := hB3.size
      refine wpAnyH_ready (rs := [4]) (by kernel_rfl) (by simp) (AllReadyH.cons (o := ⟨_, _, _, _, _, _⟩) rfl (fun K hK => ?_) AllReadyH.nil)
      rewrite [if_pos (wanted_none rfl)]
      with_reducible refine wp_store_mid 128 (.tmp 2) (.tmp 12) (by with_unfolding_all rfl) w.heap.size 0 (us q2.list).toArray (by with_unfolding_all rfl) (by with_unfolding_all rfl) (by with_unfolding_all exact HT3.ths) (by with_unfolding_all exact Tryd.sizeA8) (us_one _) ?_
      have H9 : Hid (ArrU (w3.setCells w.heap.size 0 (us q2.list)) w.heap.size q2.list ∧ ArrU (w3.setCells w.heap.size 0 (us q2.list)) (w.heap.size + 1) (List.replicate 8 0) ∧ Below w.heap.size w (w3.setCells w.heap.size 0 (us q2.list)) ∧ w2.heap.size ≤ (w3.setCells w.heap.size 0 (us q2.list)).heap.size) :=
        ⟨HT3.put rfl, ⟨World.rangeAt_setCells_apart HR3.rng w.heap.size 0 _ (.inl (by omega)), World.there_setCells HR3.ths w.heap.size 0 _⟩, hB4.trans (Lib.below_setCells_w (Nat.le_refl _) _ _ _), by rw [setCells_size]; omega⟩
      dsimp only
      generalize w3.setCells w.heap.size 0 (us q2.list) = w4 at *
      refine hK.out _ _ trivial (fun _ => ?_)
      clear hK K
      refine wpAnyH_done (by kernel_rfl) ?_ _
      clear HT3 HR3 hB4 hB3 hz3 hKr hAq hbk H8 hR hB hz hHeld
      go_wp2
      go_roundw
      case rel => exact ⟨n + 1, u2, rfl, HU2.out trivial, (HS2.out trivial).2, by rw [HQ.out trivial]; exact H9.out.1, H9.out.2.1, H9.out.2.2.1, H9.out.2.2.2⟩
      case measure => exact (HS2.out trivial).1
    · as_aux_lemma =>
      have hfin : n = t.size / 64 := by omega
      have HF : Hid (True → stN r t (t.size / 64) = stN r t n ∧ left t (t.size / 64) = u) := fun _ => by rw [← hfin]; exact ⟨rfl, HU.out trivial⟩
      obtain ⟨q, hq⟩ : ∃ q, stN r t n = q := ⟨_, rfl⟩
      have HQ : Hid (True → stN r t n = q) := fun _ => hq
      rw [hq] at hA
      clear HB1 HB2 HST HU H8 hq hls hfin H0
      go_wp2_with (first
        | (with_reducible refine wpList_loadU (w := wr) (by with_unfolding_all rfl) 128 (.tmp 2) (by with_unfolding_all rfl) w.heap.size q.list (by with_unfolding_all rfl) hA 8 127 Tryd.undA8 Tryd.sizeA8 (by with_unfolding_all rfl) ?_)
        | (with_reducible refine wpList_storeU (w := wr) (by with_unfolding_all rfl) 128 (.tmp 4) (.tmp 15) (by with_unfolding_all rfl) (w.heap.size + 1) (List.replicate 8 0) q.list (by with_unfolding_all rfl) (by with_unfolding_all rfl) hR (by rw [List.length_replicate]; exact Tryd.sizeA8) (by with_unfolding_all rfl) ?_; intro w5 hA5 hB5 _))
      refine bodyPost_ret (results_U2 (t := 128) rfl _ (w.heap.size + 1) q.list (.string u) rfl rfl hA5 8 127 Tryd.undA8 Tryd.sizeA8 rfl) rfl ⟨by rw [(HF.out trivial).1, (HF.out trivial).2, HQ.out trivial], ?_⟩
      exact hB.trans (hB5 _ (by omega))
end Go.Proofs.YtchfpiadfmnphaaDoor
namespace Go.Proofs.YtchfpiadfmnphaaDoor
open Go.RowKit
set_option linter.unusedVariables false
attribute [local go_sem] U_xor U_or U_and U_add U_shr U_shl U_not U_store U_one'
attribute [local go_sem ↓] Go.wp_at_zero Go.wp_at_succ U_cells

def R8.ints (r : R8) : List Int := r.list.map fun x => (x.toNat : Int)
theorem ints_length (r : R8) : r.ints.length = 8 := rfl
theorem ints_get (r : R8) {k : Nat} (hk : k < r.ints.length) : r.ints[k] = ((r.at k).toNat : Int) := by
  have hk8 : k < 8 := hk
  have h := list_get r hk8
  have : r.ints[k]? = some ((r.at k).toNat : Int) := by rw [R8.ints, List.getElem?_map, h]; rfl
  rw [List.getElem?_eq_getElem hk] at this
  injection this
def pre (r : R8) (k : Nat) : List UInt32 := r.list.take k ++ List.replicate (8 - k) 0
theorem pre_set (r : R8) {k : Nat} (hk : k < 8) : pre r (k + 1) = (pre r k).set k (r.at k) := by
  match k, hk with
  | 0, _ => rfl
  | 1, _ => rfl
  | 2, _ => rfl
  | 3, _ => rfl
  | 4, _ => rfl
  | 5, _ => rfl
  | 6, _ => rfl
  | 7, _ => rfl
theorem pre_length (r : R8) {k : Nat} (hk : k ≤ 8) : (pre r k).length = 8 := by
  simp [pre, R8.list]; omega

set_option maxRecDepth 100000 in
set_option maxHeartbeats 1000000 in
theorem wordsOf_any (g c : Nat) (r : R8) (s : ByteArray) (z : Int) (w : World) (h : IAt w (some ⟨g, 0, none⟩) r.ints) :
    Calls Tryd.prog 88 #[HVal (some ⟨g, 0, none⟩) 8 c s z] w fun e w' => e = .returned (aggU r.list) ∧ Below w.heap.size w w' := by
  have HI : Hid (IAt w (some ⟨g, 0, none⟩) r.ints) := h
  clear h
  go_enter Tryd.func88, Tryd.ntmps88
  go_wp2_with (first
    | (with_reducible refine wpList_boxV (w := w) (by with_unfolding_all rfl) 77 (.tmp 0) (by with_unfolding_all rfl) (hvs (some ⟨g, 0, none⟩) 8 c s z) (by with_unfolding_all rfl) ?_; intro w1 hA1 hB1 hS1)
    | (with_reducible refine wpList_allocU (w := w1) (by with_unfolding_all rfl) 128 (by with_unfolding_all rfl) 8 Tryd.infoA8 ?_; intro w2 hA2 hB2 hS2)
    | (with_reducible refine wpList_allocU (w := w2) (by with_unfolding_all rfl) 128 (by with_unfolding_all rfl) 8 Tryd.infoA8 ?_; intro w3 hA3 hB3 hS3))
  have hz2 : w2.heap.size = w.heap.size + 1 + 1 := by omega
  have HW : Hid (RowV w3 w.heap.size (hvs (some ⟨g, 0, none⟩) 8 c s z) ∧ ArrU w3 (w.heap.size + 1) (List.replicate 8 0) ∧ ArrU w3 (w.heap.size + 1 + 1) (pre r 0) ∧ Below w.heap.size w w3) :=
    ⟨(hA1.below hB2 (by omega)).below hB3 (by omega), by rw [← hS1]; exact hA2.below hB3 (by omega), by rw [← hz2]; exact hA3, (hB1.trans (hB2.mono (by omega))).trans (hB3.mono (by omega))⟩
  clear hA1 hA2 hA3 hB1 hB2 hB3 hz2
  go_loopw [5] (fun i wr => ∃ k : Nat, i = .int .i64 (k : Int) ∧ k ≤ 8 ∧ RowV wr w.heap.size (hvs (some ⟨g, 0, none⟩) 8 c s z) ∧ ArrU wr (w.heap.size + 1) (List.replicate 8 0) ∧ ArrU wr (w.heap.size + 1 + 1) (pre r k) ∧ Below w.heap.size w wr)
    (fun i _ => 8 - (intOf i).toNat)
  case atStart => exact ⟨0, rfl, Nat.zero_le _, HW.out.1, HW.out.2.1, HW.out.2.2.1, HW.out.2.2.2⟩
  case round =>
    clear HW
    obtain ⟨k, rfl, hk, hV, hR, hT, hB⟩ := hrel
    have H8 : Hid (RowV wr w.heap.size (hvs (some ⟨g, 0, none⟩) 8 c s z) ∧ ArrU wr (w.heap.size + 1) (List.replicate 8 0) ∧ ArrU wr (w.heap.size + 1 + 1) (pre r k) ∧ Below w.heap.size w wr) := ⟨hV, hR, hT, hB⟩
    by_cases hlt : k < 8
    · as_aux_lemma =>
      have p0 := hV.cell (k := 0) rfl
      obtain ⟨g', hg', hc⟩ := (HI.out.below hB) (by intro e; have := congrArg List.length e; rw [ints_length] at this; simp at this)
      injection hg' with hg'
      injection hg' with hg'
      subst hg'
      have d := (hc k (by rw [ints_length]; exact hlt)).1
      rw [ints_get] at d
      have t0 := hT.cell (k := k) (by rw [pre_length r hk]; exact hlt)
      have tf := hT.frozen (k := k) (by rw [pre_length r hk]; exact hlt)
      obtain ⟨y0, hy0⟩ : ∃ y, (pre r k)[k]'(by rw [pre_length r hk]; exact hlt) = y := ⟨_, rfl⟩
      rw [hy0] at t0
      obtain ⟨x, hx⟩ : ∃ x, r.at k = x := ⟨_, rfl⟩
      rw [hx] at d
      have HS : Hid (True → pre r (k + 1) = (pre r k).set k x) := fun _ => by rw [pre_set r hlt, hx]
      have HLn : Hid (k < (pre r k).length) := by show _ < _; rw [pre_length r hk]; exact hlt
      have c1 := fun (w0 : World) => U_of_i64 (P := Tryd.prog) w0 2 127 x Tryd.underlying2 Tryd.underlying127
      obtain ⟨m, hm⟩ : ∃ m : Int, (x.toNat : Int) = m := ⟨_, rfl⟩
      rw [hm] at d c1
      have hcl : ∀ x : UInt32, (U x).cells = #[U x] := fun _ => rfl
      unfold Value.cells at hcl
      have H9 : Hid (RowV (wr.setCell ⟨w.heap.size + 1 + 1, k, none⟩ (U x)).drew w.heap.size (hvs (some ⟨g, 0, none⟩) 8 c s z) ∧ ArrU (wr.setCell ⟨w.heap.size + 1 + 1, k, none⟩ (U x)).drew (w.heap.size + 1) (List.replicate 8 0) ∧ ArrU (wr.setCell ⟨w.heap.size + 1 + 1, k, none⟩ (U x)).drew (w.heap.size + 1 + 1) (pre r (k + 1)) ∧ Below w.heap.size w (wr.setCell ⟨w.heap.size + 1 + 1, k, none⟩ (U x))) :=
        ⟨(H8.out.1.same fun j => ⟨World.cell?_setCell_other wr _ _ _ (by intro e; injection e with e _ _; omega), World.frozen?_setCell ..⟩).drew, H8.out.2.1.far (by omega), (H8.out.2.2.1.set (k := k) HLn.out (HS.out trivial)).drew, H8.out.2.2.2.setCell (by show w.heap.size ≤ w.heap.size + 1 + 1; omega) _⟩
      have lk : (k : Int) < 8 := by omega
      have l0 : (0 : Int) ≤ k := by omega
      clear hc hV hR hT hB hy0 hx hm H8 HI
      go_wp2
      go_roundw
      case rel => exact ⟨k + 1, by go_num, hlt, ⟨H9.out.1.rng, H9.out.1.ths⟩, ⟨H9.out.2.1.rng, H9.out.2.1.ths⟩, ⟨H9.out.2.2.1.rng, H9.out.2.2.1.ths⟩, H9.out.2.2.2⟩
      case measure => simp [intOf]; omega
    · as_aux_lemma =>
      obtain rfl : k = 8 := by omega
      have hT' : ArrU wr (w.heap.size + 1 + 1) r.list := hT
      clear hT H8
      go_wp2_with (first
        | (with_reducible refine wpList_loadU (w := wr) (by with_unfolding_all rfl) 128 (.tmp 3) (by with_unfolding_all rfl) (w.heap.size + 1 + 1) r.list (by with_unfolding_all rfl) hT' 8 127 Tryd.undA8 Tryd.sizeA8 (by with_unfolding_all rfl) ?_)
        | (with_reducible refine wpList_storeU (w := wr) (by with_unfolding_all rfl) 128 (.tmp 2) (.tmp 17) (by with_unfolding_all rfl) (w.heap.size + 1) (List.replicate 8 0) r.list (by with_unfolding_all rfl) (by with_unfolding_all rfl) hR (by rw [List.length_replicate]; exact Tryd.sizeA8) (by with_unfolding_all rfl) ?_; intro w5 hA5 hB5 _))
      refine bodyPost_ret (results_U (t := 128) rfl _ (w.heap.size + 1) _ rfl hA5 8 127 Tryd.undA8 Tryd.sizeA8 rfl) rfl ⟨rfl, ?_⟩
      exact hB.trans (hB5 _ (by omega))
end Go.Proofs.YtchfpiadfmnphaaDoor
namespace Go.Proofs.YtchfpiadfmnphaaDoor
open Go.RowKit
set_option linter.unusedVariables false
attribute [local go_sem ↓] Go.wp_at_zero Go.wp_at_succ U_cells

theorem idx8 (r : R8) {k : Nat} (hk : k < 8) (w : World) : (Instr.index 128 (aggU r.list) (.int .i64 (k : Int))).run Tryd.prog w = .ok (U (r.at k)) w := by
  rcases (show k = 0 ∨ k = 1 ∨ k = 2 ∨ k = 3 ∨ k = 4 ∨ k = 5 ∨ k = 6 ∨ k = 7 by omega) with rfl | rfl | rfl | rfl | rfl | rfl | rfl | rfl <;> kernel_rfl
theorem is_take (r : R8) {k : Nat} (hk : k < 8) : r.list.take (k + 1) = r.list.take k ++ [r.at k] := by
  have h := list_get r hk
  obtain ⟨h1, h2⟩ := List.getElem?_eq_some_iff.1 h
  rw [List.take_succ_eq_append_getElem h1, h2]
theorem wpList_append_i64 {P : Program} {wr : World} {ops : Array Oper} {rest : List Oper} {o : Oper} {a : Act} {Q : Exit → Act → World → Prop} (hgd : o.guard = none) (s x : Operand) (t : TypeId)
    (ho : o.op = .call { callee := .builtin .append, args := #[s, x], argTypes := #[t, t] })
    (base : Nat) (e : TypeId) (ht : P.underlying t = some (.slice e)) (hinfo : (P.info? e).map (fun i => (i.zero, i.size, i.bytes)) = some (some (.int .i64 0), 1, 8))
    (v : Value) (l : List UInt32) (n : Nat) (hs : a.eval s = v) (hown : wr.ownsRow base e 1 v n (is l)) (y : UInt32) (z : Int) (hz : (y.toNat : Int) = z) (c : Nat) (hx : a.eval x = .slice (some ⟨wr.heap.size, 0, none⟩) 1 c) (hn : n ≤ 1000000000) (hbase : base ≤ wr.heap.size)
    (h : ∀ g cap w', w'.ownsRow base e 1 (.slice (some ⟨g, 0, none⟩) (n + 1) cap) (n + 1) (is (l ++ [y])) → Below base wr w' → wpList P ops Q rest (a.put o.dst (.slice (some ⟨g, 0, none⟩) (n + 1) cap)) w') :
    wpList P ops Q (o :: rest) a (wr.alloc (.cells #[.int .i64 z] e)) := by
  obtain ⟨i0, hi, hz0, hz1, hz2⟩ := info_parts hinfo
  subst hz
  refine wpList_append_lies (wr.alloc (.cells #[.int .i64 (y.toNat : Int)] e)) hgd s x t ho base e i0 (.int .i64 0) 1 8 ht hi hz0 hz1 hz2 rfl (by decide) v n (is l) hs (hown.alloc _) ⟨wr.heap.size, 0, none⟩ 1 c (is [y]) hx rfl
    (World.news_of_block (heap_alloc_new wr _)) (by intro u hu; unfold is at hu; obtain ⟨b, _, rfl⟩ := List.mem_map.1 hu; rfl) (by omega) (by unfold maxLen; omega) (by omega) (by rw [size_alloc]; omega) _ rfl ?_
  intro g cap w' h1 h2 _ _
  refine h g cap w' (by simpa [is] using h1) ?_
  exact ((Below.refl base wr).alloc hbase _).grown h2 (by rw [size_alloc]; omega) (fun k hk => (hown.lt k hk).1)
theorem ints_of {w : World} {base e g cap : Nat} {r : R8} (h : w.ownsRow base e 1 (.slice (some ⟨g, 0, none⟩) 8 cap) 8 (is r.list)) : IAt w (some ⟨g, 0, none⟩) r.ints := fun _ => by
  refine ⟨g, rfl, fun k hk => ?_⟩
  have hk8 : k < 8 := hk
  refine ⟨?_, h.frozenAt k⟩
  rw [h.cellAt k (by omega), ints_get, is, List.getElem?_map, list_get r hk8]
  rfl

set_option maxRecDepth 100000 in
set_option maxHeartbeats 1000000 in
theorem stateOf_any (r : R8) (w : World) :
    Calls Tryd.prog 91 #[aggU r.list] w fun e w' => ∃ g c, e = .returned (.slice (some ⟨g, 0, none⟩) 8 c) ∧ w.heap.size ≤ g ∧ g < w'.heap.size ∧ IAt w' (some ⟨g, 0, none⟩) r.ints ∧ Below w.heap.size w w' := by
  obtain ⟨i0, hi, hz0, hz1, hz2⟩ := info_parts Tryd.infoI64
  go_enter Tryd.func91, Tryd.ntmps91
  go_wp2_with (first
    | (with_reducible refine wpList_boxU (w := w) (by with_unfolding_all rfl) 128 (.tmp 0) (by with_unfolding_all rfl) r.list (by with_unfolding_all rfl) ?_; intro w1 hA1 hB1 hS1)
    | (at_make; refine wpList_make_own w1 rfl _ _ 75 rfl w1.heap.size 2 i0 (.int .i64 0) 1 Tryd.underlying75 hi hz0 hz1 _ _ _ 8 rfl rfl (by omega) (by rw [hz2]; omega) (by unfold maxLen; omega) (Nat.le_refl _) ?_; intro w2 hO2 hG2; have hB2 : Below w1.heap.size w1 w2 := (Below.refl _ _).grown hG2 (Nat.le_refl _) (fun _ h => by cases h); have hA2 := hA1.below hB2 (by omega))
    | (with_reducible refine wpList_loadU (w := w2) (by with_unfolding_all rfl) 128 (.tmp 1) (by with_unfolding_all rfl) w.heap.size r.list (by with_unfolding_all rfl) hA2 8 127 Tryd.undA8 Tryd.sizeA8 (by with_unfolding_all rfl) ?_))
  have HO : Hid (w2.ownsRow (w.heap.size + 1) 2 1 (.slice (some ⟨w.heap.size + 1, 0, none⟩) 0 8) 0 (is (r.list.take 0))) := by rw [← hS1]; exact hO2
  have HB : Hid (Below w.heap.size w w2) := hB1.trans (hB2.mono (by omega))
  have HB2 : Hid (w.heap.size + 1 ≤ w2.heap.size) := by have := hB2.size; show _ ≤ _; omega
  clear hO2 hG2 hA2 hA1 hB1 hB2 hi hz0 hz1 hz2
  go_loopw [3, 8] (fun v i wr => ∃ k : Nat, i = .int .i64 (k : Int) ∧ k ≤ 8 ∧ wr.ownsRow (w.heap.size + 1) 2 1 v k (is (r.list.take k)) ∧ Below (w.heap.size + 1) w2 wr)
    (fun _ i _ => 8 - (intOf i).toNat)
  case atStart => exact ⟨0, rfl, Nat.zero_le _, HO.out, Below.refl _ _⟩
  case round =>
    clear HO
    obtain ⟨k, rfl, hk, hO, hBr⟩ := hrel
    have hbz := HB2.out
    have hzr := hBr.size
    by_cases hlt : k < 8
    · as_aux_lemma =>
      have hix := idx8 r hlt
      have HT : Hid (True → r.list.take (k + 1) = r.list.take k ++ [r.at k]) := fun _ => is_take r hlt
      obtain ⟨x, hx⟩ : ∃ x, r.at k = x := ⟨_, rfl⟩
      rw [hx] at hix HT
      have c2 := fun (w0 : World) => U_to_i64 (P := Tryd.prog) w0 127 2 x Tryd.underlying127 Tryd.underlying2
      obtain ⟨z, hz⟩ : ∃ z : Int, (x.toNat : Int) = z := ⟨_, rfl⟩
      rw [hz] at c2
      have HZ : Hid ((x.toNat : Int) = z) := hz
      have lk : (k : Int) < 8 := by omega
      have l0 : (0 : Int) ≤ k := by omega
      clear hx hz
      generalize aggU r.list = ag at *
      go_wp2_with (first
        | (at_builtin; refine wpList_append_i64 rfl _ _ 75 rfl (w.heap.size + 1) 2 Tryd.underlying75 Tryd.infoI64 u3 (r.list.take k) k rfl hO x z HZ.out 1 rfl (by omega) (by omega) ?_; intro g2 cap2 w9 hO9 hB9))
      go_roundw
      case rel => exact ⟨k + 1, by go_num, hlt, by rw [HT.out trivial]; exact hO9, hBr.trans hB9⟩
      case measure => simp [intOf]; omega
    · as_aux_lemma =>
      obtain rfl : k = 8 := by omega
      obtain ⟨g2, cap2, rfl, hg2, hgl⟩ : ∃ g2 cap2, u3 = .slice (some ⟨g2, 0, none⟩) 8 cap2 ∧ w.heap.size + 1 ≤ g2 ∧ g2 < wr.heap.size := by
        rcases hO.2 with ⟨_, h0⟩ | ⟨g2, cap, cur, hv, hbg, _⟩
        · omega
        · refine ⟨g2, cap, hv, hbg, ?_⟩
          subst hv
          exact (hO.lt g2 rfl).2
      have HF : Hid (IAt wr (some ⟨g2, 0, none⟩) r.ints) := ints_of (base := w.heap.size + 1) (e := 2) hO
      clear hO
      go_wp2
      go_ret
      exact ⟨g2, cap2, rfl, by omega, hgl, HF.out, HB.out.trans (hBr.mono (by omega))⟩
end Go.Proofs.YtchfpiadfmnphaaDoor
namespace Go.Proofs.YtchfpiadfmnphaaDoor
open Go.RowKit
set_option linter.unusedVariables false
attribute [local go_sem ↓] Go.wp_at_zero Go.wp_at_succ

def lenOf : Value → Nat
  | .slice _ n _ => n
  | _ => 0
def More : Prop := ∀ (g c : Nat) (r : R8) (s t : ByteArray) (z : Nat) (w : World), IAt w (some ⟨g, 0, none⟩) r.ints → s.size ≤ 64 → t.size ≤ 1048576 → z ≤ 1099511627776 →
    Calls Tryd.prog 48 #[HVal (some ⟨g, 0, none⟩) 8 c s (z : Int), .string t] w fun e w' => ∃ g2 c2, e = .returned (HVal (some ⟨g2, 0, none⟩) 8 c2 (left (s ++ t) ((s ++ t).size / 64)) ((z + t.size : Nat) : Int)) ∧ w.heap.size ≤ g2 ∧ g2 < w'.heap.size ∧ StAt w' g2 (stN r (s ++ t) ((s ++ t).size / 64)) ∧ Below w.heap.size w w'
theorem pad_stop (n j : Nat) (hj : j ≤ padN n) : ((n + (1 + j)) % 64 = 56) ↔ j = padN n := by
  unfold padN at *
  omega
theorem own_len {w : World} {base e n : Nat} {v : Value} {xs : List Value} (h : w.ownsRow base e 1 v n xs) (hn : 0 < n) : lenOf v = n := by
  rcases h.2 with ⟨_, h0⟩ | ⟨g3, cap, cur, hv, _⟩
  · omega
  · rw [hv]; rfl
theorem own_form {w : World} {base e n : Nat} {v : Value} {xs : List Value} (h : w.ownsRow base e 1 v n xs) (hn : 0 < n) : ∃ g c, v = .slice (some ⟨g, 0, none⟩) n c := by
  rcases h.2 with ⟨_, h0⟩ | ⟨g3, cap, cur, hv, _⟩
  · omega
  · exact ⟨g3, cap, hv⟩
def dig4 (x : UInt32) : List UInt8 := [UInt8.ofNat (x.toNat / 2 ^ 24 % 256), UInt8.ofNat (x.toNat / 2 ^ 16 % 256), UInt8.ofNat (x.toNat / 2 ^ 8 % 256), UInt8.ofNat (x.toNat % 256)]
def digs8 (r : R8) (k : Nat) : List UInt8 := (r.list.take k).flatMap dig4
theorem digs8_succ (r : R8) {k : Nat} (hk : k < 8) : digs8 r (k + 1) = digs8 r k ++ dig4 (r.at k) := by
  unfold digs8; rw [is_take r hk, List.flatMap_append]; simp
theorem wpList_append_bytes {P : Program} {wr : World} {ops : Array Oper} {rest : List Oper} {o : Oper} {a : Act} {Q : Exit → Act → World → Prop} (hgd : o.guard = none) (s x : Operand) (t : TypeId)
    (ho : o.op = .call { callee := .builtin .append, args := #[s, x], argTypes := #[t, t] })
    (base : Nat) (e : TypeId) (ht : P.underlying t = some (.slice e)) (hinfo : (P.info? e).map (fun i => (i.zero, i.size, i.bytes)) = some (some (.int .u8 0), 1, 1))
    (v : Value) (bs : List UInt8) (n : Nat) (hs : a.eval s = v) (hown : wr.ownsRow base e 1 v n (bvs bs)) (nw : List UInt8) (cs : Array Value) (hcs : (bvs nw).toArray = cs) (m c : Nat) (hm : nw.length = m) (hm0 : 0 < m) (hx : a.eval x = .slice (some ⟨wr.heap.size, 0, none⟩) m c) (hn : n + m ≤ 1000000000) (hbase : base ≤ wr.heap.size)
    (h : ∀ g cap w', w'.ownsRow base e 1 (.slice (some ⟨g, 0, none⟩) (n + m) cap) (n + m) (bvs (bs ++ nw)) → Below base wr w' → wpList P ops Q rest (a.put o.dst (.slice (some ⟨g, 0, none⟩) (n + m) cap)) w') :
    wpList P ops Q (o :: rest) a (wr.alloc (.cells cs e)) := by
  obtain ⟨i0, hi, hz0, hz1, hz2⟩ := info_parts hinfo
  subst hcs
  refine wpList_append_lies (wr.alloc (.cells (bvs nw).toArray e)) hgd s x t ho base e i0 (.int .u8 0) 1 1 ht hi hz0 hz1 hz2 rfl (by decide) v n (bvs bs) hs (hown.alloc _) ⟨wr.heap.size, 0, none⟩ m c (bvs nw) hx (by rw [bvs_length]; omega)
    (by simpa using World.news_of_block (heap_alloc_new wr (.cells (bvs nw).toArray e))) (by intro u hu; unfold bvs at hu; obtain ⟨b, _, rfl⟩ := List.mem_map.1 hu; rfl) hm0 (by unfold maxLen; omega) (by omega) (by rw [size_alloc]; omega) _ rfl ?_
  intro g cap w' h1 h2 _ _
  refine h g cap w' (by simpa [bvs] using h1) ?_
  exact ((Below.refl base wr).alloc hbase _).grown h2 (by rw [size_alloc]; omega) (fun k hk => (hown.lt k hk).1)
theorem pad_head (n : Nat) : 128 :: List.replicate (padN n) 0 = padH n := rfl

set_option maxRecDepth 100000 in
set_option maxHeartbeats 1000000 in
theorem endS_any (hM : More) (g c : Nat) (r : R8) (s : ByteArray) (z : Nat) (w : World) (h : IAt w (some ⟨g, 0, none⟩) r.ints) (hs : s.size ≤ 64) (hz : z ≤ 1099511627776) :
    Calls Tryd.prog 47 #[HVal (some ⟨g, 0, none⟩) 8 c s (z : Int)] w fun e w' => e = .returned (.string ⟨(digs8 (stN r (s ++ ⟨(padL z).toArray⟩) ((s ++ ⟨(padL z).toArray⟩ : ByteArray).size / 64)) 8).toArray⟩) ∧ Below w.heap.size w w' := by
  have HI : Hid (IAt w (some ⟨g, 0, none⟩) r.ints) := h
  have HM : Hid (True → More) := fun _ => hM
  clear h hM
  obtain ⟨N, hN⟩ : ∃ N, padN z = N := ⟨_, rfl⟩
  have hN64 : N < 64 := by rw [← hN, padN]; exact Nat.mod_lt _ (by omega)
  have HST : Hid (∀ j, j ≤ N → (((z + (1 + j)) % 64 = 56) ↔ j = N)) := by rw [← hN]; exact pad_stop z
  have HPH : Hid (True → 128 :: List.replicate N 0 = padH z) := fun _ => by rw [← hN]; rfl
  clear hN
  go_enter Tryd.func47, Tryd.ntmps47
  go_wp2_with (first
    | (with_reducible refine wpList_boxV (w := w) (by with_unfolding_all rfl) 77 (.tmp 0) (by with_unfolding_all rfl) (hvs (some ⟨g, 0, none⟩) 8 c s (z : Int)) (by with_unfolding_all rfl) ?_; intro w1 hA1 hB1 hS1))
  have HO : Hid ((w1.alloc (.cells #[.int .u8 128] 5)).ownsRow (w.heap.size + 1) 5 1 (.slice (some ⟨w.heap.size + 1, 0, none⟩) 1 1) (1 + 0) (bvs (128 :: List.replicate 0 0))) := by
    rw [← hS1]
    exact World.ownsRow_lit w1 #[.int .u8 128] 1 (Nat.le_refl _) (by unfold maxLen; omega) rfl
  have HV : Hid (RowV w1 w.heap.size (hvs (some ⟨g, 0, none⟩) 8 c s (z : Int)) ∧ Below w.heap.size w w1 ∧ w1.heap.size = w.heap.size + 1) := ⟨hA1, hB1, hS1⟩
  clear hA1 hB1
  go_loopw [3] (fun v wr => ∃ j : Nat, j ≤ N ∧ lenOf v = 1 + j ∧ wr.ownsRow (w.heap.size + 1) 5 1 v (1 + j) (bvs (128 :: List.replicate j 0)) ∧ Below (w.heap.size + 1) w1 wr) (fun v _ => 1 + N - lenOf v)
  case atStart => exact ⟨0, Nat.zero_le _, rfl, HO.out, (Below.refl _ _).alloc (Nat.le_of_eq hS1.symm) _⟩
  case round =>
    clear HO
    obtain ⟨j, hj, hlen, hO, hB⟩ := hrel
    obtain ⟨g3, c3, rfl⟩ := own_form hO (by omega)
    have V := HV.out.1.below hB (by omega)
    have p2 := V.cell (k := 2) rfl
    have hzr := hB.size
    have hst := HST.out j hj
    obtain ⟨q, hq⟩ : ∃ q : Nat, z + (1 + j) = q := ⟨_, rfl⟩
    have e0 : (z : Int) + ((1 + j : Nat) : Int) = (q : Int) := by omega
    have e0' : IntKind.i64.wrap ((z : Int) + ((1 + j : Nat) : Int)) = (q : Int) := by simp [IntKind.wrap, IntKind.signed, IntKind.bits]; omega
    have e1 : (q : Int).tmod 64 = ((q % 64 : Nat) : Int) := by rw [Int.tmod_eq_emod_of_nonneg (by omega)]; omega
    have e1' : (q : Int) % 64 = ((q % 64 : Nat) : Int) := by omega
    rw [hq] at hst
    by_cases hjN : j = N
    · as_aux_lemma =>
      have hm : q % 64 = 56 := hst.2 hjN
      subst hjN
      rw [hm] at e1 e1'
      have e9 : ((z : Int) + (1 + (j : Int))) % 64 = 56 := by omega
      obtain ⟨M, hMz⟩ : ∃ M, 8 * z = M := ⟨_, rfl⟩
      have m1 : IntKind.i64.wrap (8 * (z : Int)) = (M : Int) := by simp [IntKind.wrap, IntKind.signed, IntKind.bits]; omega
      have m1' : 8 * (z : Int) = (M : Int) := by omega
      have m2 : IntKind.u64.wrap (M : Int) = (M : Int) := by simp [IntKind.wrap, IntKind.signed, IntKind.bits]; omega
      have HMz : Hid (8 * z = M) := hMz
      clear hMz
      go_wp2_with fail
      obtain ⟨L, hL⟩ : ∃ L, 1 + j = L := ⟨_, rfl⟩
      rw [hL] at hO ⊢
      have HO2 : Hid (wr.ownsRow (w.heap.size + 1) 5 1 (.slice (some ⟨g3, 0, none⟩) L c3) (L + 0) (bvs (padH z ++ bes M 0))) := by
        show wr.ownsRow _ _ _ _ _ _
        rw [← HPH.out trivial, show bes M 0 = [] from rfl, List.append_nil]
        exact hO
      have HB2 : Hid (Below (w.heap.size + 1) w1 wr) := hB
      have hLb : L ≤ 64 := by omega
      clear hO hB hzr hst V p2 e0 e0' e1 e1' e9 hm hq HST hlen m1 m1' m2
      go_loopw [3, 5] (fun v i wr => ∃ k : Nat, i = .int .i64 (56 - 8 * (k : Int)) ∧ k ≤ 8 ∧ wr.ownsRow (w.heap.size + 1) 5 1 v (L + k) (bvs (padH z ++ bes M k)) ∧ Below (w.heap.size + 1) w1 wr) (fun _ i _ => (intOf i + 8).toNat)
      case atStart => exact ⟨0, by simp, Nat.zero_le _, HO2.out, HB2.out⟩
      case round =>
        clear HO2 HB2
        obtain ⟨k, rfl, hk, hO, hB⟩ := hrel
        have hzr := hB.size
        by_cases hlt : k < 8
        · as_aux_lemma =>
          obtain ⟨sh, hsh⟩ : ∃ sh : Nat, 8 * (7 - k) = sh := ⟨_, rfl⟩
          have ey : 56 - 8 * (k : Int) = (sh : Int) := by omega
          rw [ey]
          have hsl : (sh : Int) ≤ 64 := by omega
          have hs0 : (0 : Int) ≤ sh := by omega
          have u1 : IntKind.u64.wrap (sh : Int) = (sh : Int) := by simp [IntKind.wrap, IntKind.signed, IntKind.bits]; omega
          obtain ⟨d, hd⟩ : ∃ d : Nat, M / 2 ^ sh = d := ⟨_, rfl⟩
          have e3 : (M : Int) / 2 ^ sh = (d : Int) := by rw [← hd]; norm_cast
          have HX : Hid (BV (beq8 M k) = .int .u8 ((d % 256 : Nat) : Int)) := by
            show BV (beq8 M k) = _
            rw [beq8, hsh, hd]
            exact BV_ofNat _ (Nat.mod_lt _ (by omega))
          have e4 : IntKind.u8.wrap (d : Int) = ((d % 256 : Nat) : Int) := by simp [IntKind.wrap, IntKind.signed, IntKind.bits]
          obtain ⟨x, hx⟩ : ∃ x, d % 256 = x := ⟨_, rfl⟩
          rw [hx] at HX e4
          have HBS : Hid (True → bes M (k + 1) = bes M k ++ [beq8 M k]) := fun _ => bes_succ M k
          have HEY : Hid (56 - 8 * (k : Int) = (sh : Int)) := ey
          have e5 : IntKind.i64.wrap ((sh : Int) - 8) = (sh : Int) - 8 := by simp [IntKind.wrap, IntKind.signed, IntKind.bits]; omega
          clear hsh hd hx ey
          go_wp2_with (first
            | (at_builtin; refine wpList_append_byte rfl _ _ 80 rfl (w.heap.size + 1) 5 Tryd.underlying80 Tryd.infoU8 u3 (padH z ++ bes M k) (L + k) rfl hO (beq8 M k) _ HX.out 1 rfl (by omega) (by have := HV.out.2.2; omega) ?_; intro v9 w9 hO9 hB9))
          go_roundw
          case rel => exact ⟨k + 1, by have := HEY.out; go_num, hlt, by rw [HBS.out trivial, ← List.append_assoc]; exact hO9, hB.trans hB9⟩
          case measure => have := HEY.out; simp [intOf]; omega
        · as_aux_lemma =>
          obtain rfl : k = 8 := by omega
          rw [show (56 : Int) - 8 * ((8 : Nat) : Int) = -8 from rfl]
          have hconv := run_conv_own 80 Tryd.underlying80 Tryd.underlying5 hO 9 Tryd.underlying9
          have V := HV.out.1.below hB (by omega)
          go_wp2_with (first
            | (with_reducible refine wpList_loadV (w := wr) (by with_unfolding_all rfl) 77 (.tmp 1) (by with_unfolding_all rfl) w.heap.size (hvs (some ⟨g, 0, none⟩) 8 c s (z : Int)) (by with_unfolding_all rfl) V Tryd.undH 3 Tryd.sizeH (by with_unfolding_all rfl) ?_))
          obtain ⟨Pd, hPd⟩ : ∃ Pd : ByteArray, ⟨(padH z ++ bes M 8).toArray⟩ = Pd := ⟨_, rfl⟩
          have HPd : Hid (True → (⟨(padL z).toArray⟩ : ByteArray) = Pd) := fun _ => by rw [← hPd, padL, HMz.out]
          have hPs : Pd.size ≤ 1048576 := by
            rw [← hPd]
            show (padH z ++ bes M 8).toArray.size ≤ 1048576
            have : padN z < 64 := by unfold padN; exact Nat.mod_lt _ (by omega)
            simp [padH, bes]
            omega
          have hI5 := (HI.out.below HV.out.2.1).below (hB.mono (Nat.le_of_eq HV.out.2.2))
          have HBw : Hid (Below w.heap.size w wr ∧ w.heap.size + 1 ≤ wr.heap.size) := ⟨HV.out.2.1.trans (hB.mono (by omega)), by have := HV.out.2.2; omega⟩
          rw [hPd] at hconv ⊢
          refine (HM.out trivial g c r s Pd z wr hI5 hs hPs hz).mono ?_
          rintro e w5 ⟨g2, c2, rfl, hg2, hl2, hst2, hB5⟩
          obtain ⟨q, hq⟩ : ∃ q, stN r (s ++ Pd) ((s ++ Pd).size / 64) = q := ⟨_, rfl⟩
          obtain ⟨u, hu⟩ : ∃ u, left (s ++ Pd) ((s ++ Pd).size / 64) = u := ⟨_, rfl⟩
          rw [hq] at hst2
          rw [hu]
          have HQ : Hid (True → stN r (s ++ ⟨(padL z).toArray⟩) ((s ++ ⟨(padL z).toArray⟩ : ByteArray).size / 64) = q) := fun _ => by rw [HPd.out trivial]; exact hq
          obtain ⟨Zs, hZs⟩ : ∃ Zs : Int, ((z + Pd.size : Nat) : Int) = Zs := ⟨_, rfl⟩
          rw [hZs]
          have HST2 : Hid (StAt w5 g2 q) := hst2
          clear hconv hO hPd hq hu hst2 hI5 hZs V
          go_wp2_with (first
            | (with_reducible refine wpList_allocV (w := w5) (by with_unfolding_all rfl) 77 (by with_unfolding_all rfl) (hvs none 0 0 ⟨#[]⟩ 0) Tryd.infoH ?_; intro w6 hA6 hB6 hS6)
            | (with_reducible refine wpList_storeV (w := w6) (by with_unfolding_all rfl) 77 (.tmp 6) (.tmp 40) (by with_unfolding_all rfl) w5.heap.size (hvs none 0 0 ⟨#[]⟩ 0) (hvs (some ⟨g2, 0, none⟩) 8 c2 u Zs) (by with_unfolding_all rfl) (by with_unfolding_all rfl) hA6 3 Tryd.sizeH (by with_unfolding_all rfl) (by with_unfolding_all rfl) (hvs_one _ _ _ _ _) ?_; intro w7 hA7 hB7 hF7 hS7))
          have z5 := hB5.size
          have b57 : Below w5.heap.size w5 w7 := hB6.trans (hB7 _ (Nat.le_refl _))
          have hz7 : w7.heap.size = w5.heap.size + 1 := by omega
          have HW7 : Hid (RowV w7 w5.heap.size (hvs (some ⟨g2, 0, none⟩) 8 c2 u Zs) ∧ StAt w7 g2 q ∧ Below w.heap.size w w7 ∧ g2 < w5.heap.size) := ⟨hA7, HST2.out.later b57 hl2, (HBw.out.1.trans (hB5.mono HBw.out.1.size)).trans (b57.mono (by have := HBw.out.2; omega)), hl2⟩
          have HO7 : Hid ((w7.alloc (.cells #[] 5)).ownsRow w7.heap.size 5 1 (.slice (some ⟨w7.heap.size, 0, none⟩) 0 0) (4 * 0) (bvs (digs8 q 0))) := World.ownsRow_made w7 #[] 0 (Nat.le_refl _) (Nat.zero_le _) rfl
          have hwz := HBw.out.2
          obtain ⟨b5, hb5⟩ : ∃ b5, w5.heap.size = b5 := ⟨_, rfl⟩
          rw [hb5] at hz7 HW7 z5
          obtain ⟨b7, hb7⟩ : ∃ b7, b5 + 1 = b7 := ⟨_, rfl⟩
          rw [hz7, hb7] at HO7
          simp only [hb7, hb5]
          clear hA6 hA7 hB6 hB7 hF7 hS6 hS7 HST2 b57 hB5 hl2 hg2 hB HBw
          go_loopw [7, 8, 9] (fun v i _ wr => ∃ k : Nat, i = .int .i64 (k : Int) ∧ k ≤ 8 ∧ wr.ownsRow b7 5 1 v (4 * k) (bvs (digs8 q k)) ∧ Below b7 w7 wr) (fun _ i _ _ => 8 - (intOf i).toNat)
          case atStart => exact ⟨0, rfl, Nat.zero_le _, HO7.out, (Below.refl _ _).alloc (by omega) _⟩
          case round =>
            clear HO7
            obtain ⟨k, rfl, hk, hO, hB⟩ := hrel
            have hzr := hB.size
            by_cases hlt : k < 8
            · as_aux_lemma =>
              have V := HW7.out.1.below hB (by omega)
              have p0 := V.cell (k := 0) rfl
              have d0 := (HW7.out.2.1.later hB (by have := HW7.out.2.2.2; omega)).at hlt
              have HDS : Hid (True → digs8 q (k + 1) = digs8 q k ++ dig4 (q.at k)) := fun _ => digs8_succ q hlt
              obtain ⟨x, hx⟩ : ∃ x, q.at k = x := ⟨_, rfl⟩
              rw [hx] at d0 HDS
              have hxl := u32lt x
              obtain ⟨X, hX⟩ : ∃ X, x.toNat = X := ⟨_, rfl⟩
              rw [hX] at d0 hxl
              obtain ⟨d3, h3⟩ : ∃ d, X / 16777216 = d := ⟨_, rfl⟩
              obtain ⟨d2, h2⟩ : ∃ d, X / 65536 = d := ⟨_, rfl⟩
              obtain ⟨d1, h1⟩ : ∃ d, X / 256 = d := ⟨_, rfl⟩
              have e3 : (X : Int) / 16777216 = (d3 : Int) := by omega
              have e2 : (X : Int) / 65536 = (d2 : Int) := by omega
              have e1 : (X : Int) / 256 = (d1 : Int) := by omega
              have v3 : IntKind.u8.wrap (d3 : Int) = ((d3 % 256 : Nat) : Int) := by simp [IntKind.wrap, IntKind.signed, IntKind.bits]
              have v2 : IntKind.u8.wrap (d2 : Int) = ((d2 % 256 : Nat) : Int) := by simp [IntKind.wrap, IntKind.signed, IntKind.bits]
              have v1 : IntKind.u8.wrap (d1 : Int) = ((d1 % 256 : Nat) : Int) := by simp [IntKind.wrap, IntKind.signed, IntKind.bits]
              have v0 : IntKind.u8.wrap (X : Int) = ((X % 256 : Nat) : Int) := by simp [IntKind.wrap, IntKind.signed, IntKind.bits]
              have HCS : Hid ((bvs (dig4 x)).toArray = #[.int .u8 ((d3 % 256 : Nat) : Int), .int .u8 ((d2 % 256 : Nat) : Int), .int .u8 ((d1 % 256 : Nat) : Int), .int .u8 ((X % 256 : Nat) : Int)]) := by
                show (bvs (dig4 x)).toArray = _
                rw [dig4, hX]
                rw [show 2 ^ 24 = 16777216 from rfl, show 2 ^ 16 = 65536 from rfl, show 2 ^ 8 = 256 from rfl, h3, h2, h1]
                simp only [bvs, List.map]
                rw [BV_ofNat _ (Nat.mod_lt _ (by omega)), BV_ofNat _ (Nat.mod_lt _ (by omega)), BV_ofNat _ (Nat.mod_lt _ (by omega)), BV_ofNat _ (Nat.mod_lt _ (by omega))]
              obtain ⟨y3, g3'⟩ : ∃ y, d3 % 256 = y := ⟨_, rfl⟩
              obtain ⟨y2, g2'⟩ : ∃ y, d2 % 256 = y := ⟨_, rfl⟩
              obtain ⟨y1, g1'⟩ : ∃ y, d1 % 256 = y := ⟨_, rfl⟩
              obtain ⟨y0, g0'⟩ : ∃ y, X % 256 = y := ⟨_, rfl⟩
              rw [g3', g2', g1', g0'] at HCS
              rw [g3'] at v3
              rw [g2'] at v2
              rw [g1'] at v1
              rw [g0'] at v0
              have HLn : Hid ((dig4 x).length = 4) := rfl
              have lk : (k : Int) < 8 := by omega
              have l0 : (0 : Int) ≤ k := by omega
              clear hx hX h3 h2 h1 g3' g2' g1' g0' V hxl
              go_wp2_with (first
                | (at_builtin; refine wpList_append_bytes rfl _ _ 80 rfl b7 5 Tryd.underlying80 Tryd.infoU8 u7 (digs8 q k) (4 * k) rfl hO (dig4 x) _ HCS.out 4 4 HLn.out (by omega) rfl (by omega) (by omega) ?_; intro g9 c9 w9 hO9 hB9))
              go_roundw
              case rel => exact ⟨k + 1, by go_num, hlt, by rw [HDS.out trivial]; exact hO9, hB.trans hB9⟩
              case measure => simp [intOf]; omega
            · as_aux_lemma =>
              obtain rfl : k = 8 := by omega
              have hconv := run_conv_own 80 Tryd.underlying80 Tryd.underlying5 hO 9 Tryd.underlying9
              clear hO
              go_wp2
              go_ret
              exact ⟨by rw [HQ.out trivial]; rfl, HW7.out.2.2.1.trans (hB.mono (by omega))⟩
    · as_aux_lemma =>
      have hm : ¬ q % 64 = 56 := fun e => hjN (hst.1 e)
      obtain ⟨d, hd⟩ : ∃ d, q % 64 = d := ⟨_, rfl⟩
      rw [hd] at e1 e1' hm
      have hne : ((d : Int) == 56) = false := by simp; omega
      have hne' : ((d : Int) != 56) = true := by simp; omega
      have HR : Hid (True → bvs (128 :: List.replicate (j + 1) 0) = bvs (128 :: List.replicate j 0 ++ [0])) := fun _ => by rw [List.replicate_succ', List.cons_append]
      clear hst hd
      go_wp2_with (first
        | (at_builtin; refine wpList_append_byte rfl _ _ 80 rfl (w.heap.size + 1) 5 Tryd.underlying80 Tryd.infoU8 _ (128 :: List.replicate j 0) (1 + j) rfl hO 0 _ rfl 1 rfl (by omega) (by have := HV.out.2.2; omega) ?_; intro v9 w9 hO9 hB9))
      go_roundw
      case rel => exact ⟨j + 1, by omega, own_len hO9 (by omega), by rw [HR.out trivial]; exact hO9, hB.trans hB9⟩
      case measure =>
        have := own_len hO9 (by omega)
        show 1 + N - lenOf v9 < 1 + N - lenOf (.slice (some ⟨g3, 0, none⟩) (1 + j) c3)
        rw [this]
        show 1 + N - (1 + j + 1) < 1 + N - (1 + j)
        omega
end Go.Proofs.YtchfpiadfmnphaaDoor
