/- What the laws' marks do of signatures: cell by cell. SignedRead, on both sides: one answer; the law. -/
import Derived.Test.YtnlalnkoggkdfaaMsB
import Derived.Test.YtnlalnkoggkdfaaMsA
namespace Go.Proofs.Ytnlalnkoggkdfaa
open Go.RowKit
set_option linter.unusedVariables false

def flI (l : List SigV) : List Int := (l.map fun x => [x.k, x.e, x.s]).flatten
theorem flI_flat (l : List SigV) : (sgL l).flatten = (flI l).map (Value.int .i64) := by
  induction l with
  | nil => rfl
  | cons x l ih => show svs x.k x.e x.s ++ (sgL l).flatten = ([x.k, x.e, x.s] ++ flI l).map _; rw [ih, List.map_append]; rfl
theorem flI_len (l : List SigV) : (flI l).length = 3 * l.length := by
  have := congrArg List.length (flI_flat l)
  rw [flat_len, List.length_map] at this
  omega
theorem OwnSg.iat {w : World} {base n c : Nat} {a : Option Addr} {l : List SigV} (h : OwnSg w base (.slice a n c) l) : IAt w a (flI l) := by
  intro hne
  rcases h.2 with ⟨h0, hn⟩ | ⟨g, cap, cur, hv, hbg, hg, h1, h2, h3, h4⟩
  · have : l = [] := List.length_eq_zero_iff.1 hn
    subst this
    exact absurd rfl hne
  · have h' : w.ownsRow base 109 3 (.slice a n c) l.length (sgL l).flatten := h
    rw [hv] at h'
    injection hv with e1 e2 e3
    refine ⟨g, e1, fun j hj => ⟨?_, by simp [World.frozen?, hg]⟩⟩
    rw [World.ownsRow.cellAt h' j (by rw [flI_len] at hj; omega), flI_flat, List.getElem?_map, List.getElem?_eq_getElem hj]
    rfl
theorem OwnSg.blk {w : World} {base n c : Nat} {a : Option Addr} {l : List SigV} (h : OwnSg w base (.slice a n c) l) : ∀ ad, a = some ad → base ≤ ad.block ∧ ad.block < w.heap.size := by
  intro ad e
  subst e
  rcases h.2 with ⟨h0, hn⟩ | ⟨g, cap, cur, hv, hbg, hg, _⟩
  · cases h0
  · injection hv with e1 e2 e3
    injection e1 with e1
    subst e1
    exact ⟨hbg, (Array.getElem?_eq_some_iff.1 hg).1⟩
theorem OwnSg.len {w : World} {base n c : Nat} {a : Option Addr} {l : List SigV} (h : OwnSg w base (.slice a n c) l) : l.length = n ∧ SgsAt w a l := by
  obtain ⟨a', c', e, hs⟩ := h.form
  injection e with e1 e2 e3
  subst e1
  exact ⟨e2.symm, hs⟩
structure MkO (a : Option Addr) (w w' : World) : Prop where
  far : ∀ x : Addr, x.block < w.heap.size → (∀ ad, a = some ad → x.block ≠ ad.block) → w'.cell? x = w.cell? x ∧ w'.frozen? x = w.frozen? x
  below : ∀ B, B ≤ w.heap.size → (∀ ad, a = some ad → B ≤ ad.block) → Below B w w'
theorem Wrote.mko {a : Option Addr} {w w' : World} (h : Wrote a w w') : MkO a w w' := ⟨fun x _ hx => h.far x hx, h.below⟩
theorem MkO.pre {a : Option Addr} {w w1 w2 : World} (hb : Below w.heap.size w w1) (h : MkO a w1 w2) : MkO a w w2 :=
  ⟨fun x hl hx => by
    have e := h.far x (Nat.lt_of_lt_of_le hl hb.size) hx
    exact ⟨e.1.trans (hb.cell hl), e.2.trans (hb.frozen hl)⟩,
   fun B hB hx => (hb.mono hB).trans (h.below B (Nat.le_trans hB hb.size) hx)⟩
theorem wpList_markI {P : Program} {ops : Array Oper} {rest : List Oper} {o : Oper} {a : Act} {w0 w : World} {Q : Exit → Act → World → Prop} (hg : o.guard = none) (t : TypeId) (x y : Operand) (ho : o.op = .store t x y) (hi : (P.info? t).map (·.size) = some 1) (g j : Nat) (L : List Int) (k0 z : Int)
    (hx : a.eval x = .pointer (some ⟨g, j, none⟩)) (hy : a.eval y = .int .i64 z) (hm : MarkAt (some ⟨g, 0, none⟩) L k0 j w0 w) (hj : j < L.length) (hgl : g < w0.heap.size) (hz : k0 + (j : Int) = z)
    (h : ∀ w', MarkAt (some ⟨g, 0, none⟩) L k0 (j + 1) w0 w' → wpList P ops Q rest (a.put o.dst undef) w') : wpList P ops Q (o :: rest) a w := by
  refine wpList_plain hg fun K hK => ?_
  have hlen : j < (cnt k0 j ++ L.drop j).length := by simp [cnt]; omega
  obtain ⟨g', hg', e1⟩ := hm.row (by intro e; rw [e] at hlen; simp at hlen)
  injection hg' with hg'
  injection hg' with hg'
  subst hg'
  have hc := (e1 j hlen).1
  have hf := (e1 j hlen).2
  generalize (cnt k0 j ++ L.drop j)[j] = u at hc
  have hh := h _ (hm.step hj hgl hz)
  obtain ⟨ti, hti, hts⟩ := Option.map_eq_some_iff.1 hi
  simp only [Oper.wp, execOp, ho, hx, hy, Instr.storeAt, Instr.sureAddr, Sem.run_bind, Sem.run_pure, Result.andThen_ok]
  simp [go_sem, hc, hf, hti, hts, storeCells, sizeOf, typeInfo]
  exact hK _ _ hh
set_option maxRecDepth 100000 in
set_option maxHeartbeats 2000000 in
theorem markSgS_any (a : Option Addr) (c n : Nat) (L : List Int) (k0 : Int) (w : World) (hL : L.length = 3 * n) (h : IAt w a L) (hn : n ≤ 1000) (h0 : 0 ≤ k0) (h1 : k0 ≤ 1000000) :
    Calls Try.prog 149 #[.slice a n c, .int .i64 k0] w fun e w' => e = .returned (.int .i64 (k0 + 3 * n)) ∧ IAt w' a (cnt k0 (3 * n)) ∧ Wrote a w w' := by
  have HM : Hid (MarkAt a L k0 0 w w) := ⟨h, ⟨fun _ _ => ⟨rfl, rfl⟩, fun _ _ _ => Below.refl _ _, rfl⟩⟩
  have HI : Hid (IAt w a L) := h
  have HL : Hid (L.length = 3 * n) := hL
  clear h hL
  go_enter Try.func149, Try.ntmps149
  go_wp2_with fail
  go_loopw [1, 5] (fun q i wr => ∃ (k : Nat) (z : Int), i = .int .i64 (k : Int) ∧ q = .int .i64 z ∧ Hid (k0 + 3 * (k : Int) = z) ∧ k ≤ n ∧ Hid (MarkAt a L k0 (k * 3) w wr)) (fun _ i _ => n - (intOf i).toNat)
  case atStart => exact ⟨0, k0, rfl, rfl, by show _ = _; simp, Nat.zero_le _, HM⟩
  case round =>
    clear HM
    obtain ⟨k, z, rfl, rfl, HZ, hk, HMk⟩ := hrel
    by_cases hlt : k < n
    · obtain ⟨g, rfl, e1⟩ := HI.out (by intro e; have := HL.out; rw [e] at this; simp at this; omega)
      have hg : g < w.heap.size := cellLt (e1 0 (by have := HL.out; omega)).1
      have HG : Hid (g < w.heap.size) := hg
      have J0 : Hid (k * 3 < L.length) := by have := HL.out; show _ < _; omega
      have J1 : Hid (k * 3 + 1 < L.length) := by have := HL.out; show _ < _; omega
      have J2 : Hid (k * 3 + 2 < L.length) := by have := HL.out; show _ < _; omega
      obtain ⟨z1, hz1⟩ : ∃ y, z + 1 = y := ⟨_, rfl⟩
      obtain ⟨z2, hz2⟩ : ∃ y, z1 + 1 = y := ⟨_, rfl⟩
      obtain ⟨z3, hz3⟩ : ∃ y, z2 + 1 = y := ⟨_, rfl⟩
      have Z0 : Hid (k0 + ((k * 3 : Nat) : Int) = z) := by have := HZ.out; show _ = _; omega
      have Z1 : Hid (k0 + ((k * 3 + 1 : Nat) : Int) = z1) := by have := HZ.out; show _ = _; omega
      have Z2 : Hid (k0 + ((k * 3 + 2 : Nat) : Int) = z2) := by have := HZ.out; show _ = _; omega
      have Z3 : Hid (k0 + 3 * ((k + 1 : Nat) : Int) = z3) := by have := HZ.out; show _ = _; omega
      have b0 : 0 ≤ z ∧ z ≤ 1003000 := by have := HZ.out; omega
      have lk : (k : Int) < n := by omega
      have l0 : (0 : Int) ≤ k := by omega
      have HM0 : Hid (MarkAt (some ⟨g, 0, none⟩) L k0 (k * 3) w wr) := HMk
      clear e1 hg HMk HI HZ
      go_wp2_with (first
        | (with_reducible refine wpList_markI (w := wr) (by with_unfolding_all rfl) 2 (.tmp 16) (.tmp 14) (by with_unfolding_all rfl) Try.siz1I g (k * 3) L k0 z (by with_unfolding_all rfl) (by with_unfolding_all rfl) HM0.out J0.out HG.out Z0.out ?_; intro wa hm; have HM1 := hidP hm; clear hm)
        | (with_reducible refine wpList_markI (w := wa) (by with_unfolding_all rfl) 2 (.tmp 23) (.tmp 21) (by with_unfolding_all rfl) Try.siz1I g (k * 3 + 1) L k0 z1 (by with_unfolding_all rfl) (by with_unfolding_all rfl) HM1.out J1.out HG.out Z1.out ?_; intro wb hm; have HM2 := hidP hm; clear hm)
        | (with_reducible refine wpList_markI (w := wb) (by with_unfolding_all rfl) 2 (.tmp 30) (.tmp 28) (by with_unfolding_all rfl) Try.siz1I g (k * 3 + 2) L k0 z2 (by with_unfolding_all rfl) (by with_unfolding_all rfl) HM2.out J2.out HG.out Z2.out ?_; intro wc hm; have HM3 := hidP hm; clear hm))
      go_roundw
      case rel => exact ⟨k + 1, z3, by go_num, by go_num, Z3, hlt, by rw [show (k + 1) * 3 = k * 3 + 2 + 1 by omega]; exact HM3⟩
      case measure => simp [intOf]; omega
    · obtain rfl : k = n := by omega
      go_wp2
      go_ret
      refine ⟨by have := HZ.out; subst this; rfl, ?_, HMk.out.wr⟩
      have := HMk.out.row
      rw [List.drop_of_length_le (by have := HL.out; omega), List.append_nil, Nat.mul_comm] at this
      exact this
set_option maxRecDepth 100000 in
set_option maxHeartbeats 2000000 in
theorem heldSgS_any (a : Option Addr) (c n : Nat) (k0 : Int) (w : World) (h : IAt w a (cnt k0 (3 * n))) (hn : n ≤ 1000) (h0 : 0 ≤ k0) (h1 : k0 ≤ 1000000) :
    Calls Try.prog 150 #[.slice a n c, .int .i64 k0] w fun e w' => e = .returned (.int .i64 (k0 + 3 * n)) ∧ Below w.heap.size w w' := by
  have HI : Hid (IAt w a (cnt k0 (3 * n))) := h
  clear h
  go_enter Try.func150, Try.ntmps150
  go_wp2_with fail
  go_loopw [1, 5] (fun q i wr => ∃ (k : Nat) (z : Int), i = .int .i64 (k : Int) ∧ q = .int .i64 z ∧ Hid (k0 + 3 * (k : Int) = z) ∧ k ≤ n ∧ wr = w) (fun _ i _ => n - (intOf i).toNat)
  case atStart => exact ⟨0, k0, rfl, rfl, by show _ = _; simp, Nat.zero_le _, rfl⟩
  case round =>
    obtain ⟨k, z, rfl, rfl, HZ, hk, rfl⟩ := hrel
    by_cases hlt : k < n
    · obtain ⟨g, rfl, e1⟩ := HI.out (by intro e; have := congrArg List.length e; rw [cnt_length] at this; simp at this; omega)
      have hx : ∀ j (hj : j < 3 * n), wr.cell? ⟨g, j, none⟩ = some (.int .i64 (k0 + (j : Int))) := fun j hj => by
        rw [(e1 j (by rw [cnt_length]; exact hj)).1]
        simp [cnt]
      obtain ⟨z1, hz1⟩ : ∃ y, z + 1 = y := ⟨_, rfl⟩
      obtain ⟨z2, hz2⟩ : ∃ y, z1 + 1 = y := ⟨_, rfl⟩
      obtain ⟨z3, hz3⟩ : ∃ y, z2 + 1 = y := ⟨_, rfl⟩
      have d0 := hx (k * 3) (by omega)
      have d1 := hx (k * 3 + 1) (by omega)
      have d2 := hx (k * 3 + 2) (by omega)
      rw [show k0 + ((k * 3 : Nat) : Int) = z by have := HZ.out; omega] at d0
      rw [show k0 + ((k * 3 + 1 : Nat) : Int) = z1 by have := HZ.out; omega] at d1
      rw [show k0 + ((k * 3 + 2 : Nat) : Int) = z2 by have := HZ.out; omega] at d2
      have Z3 : Hid (k0 + 3 * ((k + 1 : Nat) : Int) = z3) := by have := HZ.out; show _ = _; omega
      have b0 : 0 ≤ z ∧ z ≤ 1003000 := by have := HZ.out; omega
      have lk : (k : Int) < n := by omega
      have l0 : (0 : Int) ≤ k := by omega
      clear e1 hx HI HZ
      go_wp2
      go_roundw
      case rel => exact ⟨k + 1, z3, by go_num, by go_num, Z3, hlt, trivial⟩
      case measure => simp [intOf]; omega
    · obtain rfl : k = n := by omega
      go_wp2
      go_ret
      exact ⟨by have := HZ.out; subst this; rfl, Below.refl _ _⟩
end Go.Proofs.Ytnlalnkoggkdfaa
namespace Go.Proofs.Ytnlalnkoggkdfaa
open Go.RowKit
set_option linter.unusedVariables false

theorem SgsAt.off {w w' : World} {a : Option Addr} {l : List SigV} {G : Nat} (h : SgsAt w a l) (hF : ∀ k, k ≠ G → w'.heap[k]? = w.heap[k]?) (hn : ∀ ad, a = some ad → ad.block ≠ G) : SgsAt w' a l := fun i hi => by
  obtain ⟨b, o, e, h1, h2, h3⟩ := h i hi
  have hb : b ≠ G := hn _ e
  exact ⟨b, o, e, (same_far (x := ⟨b, _, none⟩) (hF b hb)).1.trans h1, (same_far (x := ⟨b, _, none⟩) (hF b hb)).1.trans h2, (same_far (x := ⟨b, _, none⟩) (hF b hb)).1.trans h3⟩
set_option maxRecDepth 100000 in
theorem markSd_any (t : ByteArray) (a : Option Addr) (c n : Nat) (L : List Int) (k0 : Int) (w : World) (hL : L.length = 3 * n) (h : IAt w a L) (hn : n ≤ 1000) (h0 : 0 ≤ k0) (h1 : k0 ≤ 1000000) :
    Calls Try.prog 107 #[.agg #[.string t, .slice a n c], .int .i64 k0] w fun e w' => e = .returned (.int .i64 (k0 + 3 * n)) ∧ IAt w' a (cnt k0 (3 * n)) ∧ MkO a w w' := by
  have hM : ∀ w0, IAt w0 a L → Calls Try.prog 149 #[.slice a n c, .int .i64 k0] w0 fun e w' => e = .returned (.int .i64 (k0 + 3 * n)) ∧ IAt w' a (cnt k0 (3 * n)) ∧ Wrote a w0 w' := fun w0 hh => markSgS_any a c n L k0 w0 hL hh hn h0 h1
  have HI : Hid (IAt w a L) := h
  generalize k0 + 3 * (n : Int) = R at *
  clear h hL
  go_enter Try.func107, Try.ntmps107
  go_wp2_with (first
    | (with_reducible refine wpList_boxV (w := w) (by with_unfolding_all rfl) 59 (.tmp 0) (by with_unfolding_all rfl) (sgv t a n c) (by with_unfolding_all rfl) ?_; intro w1 hA1 hB1 hS1; clear hS1; obtain ⟨p0, p1⟩ := hA1.sg; have HI1 := hidP (HI.out.below hB1))
    | (go_at_call 149; with_reducible refine (hM w1 HI1.out).mono ?_; rintro e w2 ⟨rfl, hI2, hW2⟩; have HI2 := hidP hI2; have HW2 := hidP hW2; clear hI2 hW2 p0 p1))
  go_ret
  exact ⟨rfl, HI2.out, HW2.out.mko.pre hB1⟩
set_option maxRecDepth 100000 in
theorem heldSd_any (t : ByteArray) (a : Option Addr) (c n : Nat) (k0 : Int) (w : World) (h : IAt w a (cnt k0 (3 * n))) (hn : n ≤ 1000) (h0 : 0 ≤ k0) (h1 : k0 ≤ 1000000) :
    Calls Try.prog 108 #[.agg #[.string t, .slice a n c], .int .i64 k0] w fun e w' => e = .returned (.int .i64 (k0 + 3 * n)) ∧ Below w.heap.size w w' := by
  have hM : ∀ w0, IAt w0 a (cnt k0 (3 * n)) → Calls Try.prog 150 #[.slice a n c, .int .i64 k0] w0 fun e w' => e = .returned (.int .i64 (k0 + 3 * n)) ∧ Below w0.heap.size w0 w' := fun w0 hh => heldSgS_any a c n k0 w0 hh hn h0 h1
  have HI : Hid (IAt w a (cnt k0 (3 * n))) := h
  have hR : 0 ≤ k0 + 3 * (n : Int) := by omega
  generalize k0 + 3 * (n : Int) = R at *
  have d1 : decide (R < 0) = false := decide_eq_false (by omega)
  clear h
  go_enter Try.func108, Try.ntmps108
  go_wp2_with (first
    | (with_reducible refine wpList_boxV (w := w) (by with_unfolding_all rfl) 59 (.tmp 0) (by with_unfolding_all rfl) (sgv t a n c) (by with_unfolding_all rfl) ?_; intro w1 hA1 hB1 hS1; clear hS1; obtain ⟨p0, p1⟩ := hA1.sg; have HI1 := hidP (HI.out.below hB1))
    | (go_at_call 150; with_reducible refine (hM w1 HI1.out).mono ?_; rintro e w2 ⟨rfl, hB2⟩; clear p0 p1))
  go_ret
  exact ⟨rfl, hB1.trans (hB2.mono hB1.size)⟩
set_option maxRecDepth 100000 in
theorem markSo_any (t : ByteArray) (a : Option Addr) (c n : Nat) (z : Int) (L : List Int) (k0 : Int) (w : World) (hL : L.length = 3 * n) (h : IAt w a L) (hn : n ≤ 1000) (h0 : 0 ≤ k0) (h1 : k0 ≤ 1000000) :
    Calls Try.prog 54 #[.agg #[.string t, .slice a n c, .int .i64 z], .int .i64 k0] w fun e w' => e = .returned (.int .i64 (k0 + 3 * n)) ∧ IAt w' a (cnt k0 (3 * n)) ∧ MkO a w w' := by
  have hM : ∀ w0, IAt w0 a L → Calls Try.prog 107 #[.agg #[.string t, .slice a n c], .int .i64 k0] w0 fun e w' => e = .returned (.int .i64 (k0 + 3 * n)) ∧ IAt w' a (cnt k0 (3 * n)) ∧ MkO a w0 w' := fun w0 hh => markSd_any t a c n L k0 w0 hL hh hn h0 h1
  have HI : Hid (IAt w a L) := h
  generalize k0 + 3 * (n : Int) = R at *
  clear h hL
  go_enter Try.func54, Try.ntmps54
  go_wp2_with (first
    | (with_reducible refine wpList_boxV (w := w) (by with_unfolding_all rfl) 66 (.tmp 0) (by with_unfolding_all rfl) (sov t a n c z) (by with_unfolding_all rfl) ?_; intro w1 hA1 hB1 hS1; clear hS1; obtain ⟨p0, p1, p2⟩ := hA1.so; have HI1 := hidP (HI.out.below hB1))
    | (go_at_call 107; with_reducible refine (hM w1 HI1.out).mono ?_; rintro e w2 ⟨rfl, hI2, hW2⟩; have HI2 := hidP hI2; have HW2 := hidP hW2; clear hI2 hW2 p0 p1 p2))
  go_ret
  exact ⟨rfl, HI2.out, HW2.out.pre hB1⟩
set_option maxRecDepth 100000 in
theorem heldSo_any (t : ByteArray) (a : Option Addr) (c n : Nat) (z : Int) (k0 : Int) (w : World) (h : IAt w a (cnt k0 (3 * n))) (hn : n ≤ 1000) (h0 : 0 ≤ k0) (h1 : k0 ≤ 1000000) :
    Calls Try.prog 55 #[.agg #[.string t, .slice a n c, .int .i64 z], .int .i64 k0] w fun e w' => e = .returned (.int .i64 (k0 + 3 * n)) ∧ Below w.heap.size w w' := by
  have hM : ∀ w0, IAt w0 a (cnt k0 (3 * n)) → Calls Try.prog 108 #[.agg #[.string t, .slice a n c], .int .i64 k0] w0 fun e w' => e = .returned (.int .i64 (k0 + 3 * n)) ∧ Below w0.heap.size w0 w' := fun w0 hh => heldSd_any t a c n k0 w0 hh hn h0 h1
  have HI : Hid (IAt w a (cnt k0 (3 * n))) := h
  have hR : 0 ≤ k0 + 3 * (n : Int) := by omega
  generalize k0 + 3 * (n : Int) = R at *
  have d1 : decide (R < 0) = false := decide_eq_false (by omega)
  clear h
  go_enter Try.func55, Try.ntmps55
  go_wp2_with (first
    | (with_reducible refine wpList_boxV (w := w) (by with_unfolding_all rfl) 66 (.tmp 0) (by with_unfolding_all rfl) (sov t a n c z) (by with_unfolding_all rfl) ?_; intro w1 hA1 hB1 hS1; clear hS1; obtain ⟨p0, p1, p2⟩ := hA1.so; have HI1 := hidP (HI.out.below hB1))
    | (go_at_call 108; with_reducible refine (hM w1 HI1.out).mono ?_; rintro e w2 ⟨rfl, hB2⟩; clear p0 p1 p2))
  go_ret
  exact ⟨rfl, hB1.trans (hB2.mono hB1.size)⟩
set_option maxRecDepth 100000 in
theorem eqSo_any (t : ByteArray) (a1 a2 : Option Addr) (c1 c2 n : Nat) (z : Int) (l : List SigV) (w : World) (hn : l.length = n) (h1 : SgsAt w a1 l) (h2 : SgsAt w a2 l) (hb : n ≤ maxLen) :
    Calls Try.prog 53 #[.agg #[.string t, .slice a1 n c1, .int .i64 z], .agg #[.string t, .slice a2 n c2, .int .i64 z]] w fun e w' => e = .returned (.bool true) ∧ Below w.heap.size w w' := by
  have HS0 := KpE2.start h1 h2
  have hE : ∀ w0, Hid (KpE2 w a1 a2 l w0) → Calls Try.prog 35 #[.agg #[.string t, .slice a1 n c1], .agg #[.string t, .slice a2 n c2]] w0 fun e w' => e = .returned (.bool true) ∧ Below w0.heap.size w0 w' := fun w0 h0 => eqSd_any t a1 a2 c1 c2 n l w0 hn h0.out.s1 h0.out.s2 hb
  have e1 : (z == z) = true := by simp
  clear h1 h2 hn
  go_enter Try.func53, Try.ntmps53
  go_wp2_with (first
    | (with_reducible refine wpList_boxV (w := w) (by with_unfolding_all rfl) 66 (.tmp 0) (by with_unfolding_all rfl) (sov t a1 n c1 z) (by with_unfolding_all rfl) ?_; intro w1 hA1 hB1 hS1; have z1 : w.heap.size < w1.heap.size := (by omega); clear hS1; have HS1 := KpE2.call HS0 hB1)
    | (with_reducible refine wpList_boxV (w := w1) (by with_unfolding_all rfl) 66 (.tmp 1) (by with_unfolding_all rfl) (sov t a2 n c2 z) (by with_unfolding_all rfl) ?_; intro w2 hA2 hB2 hS2; clear hS2; have V2 := hA1.below hB2 z1; obtain ⟨p0, p1, p2⟩ := V2.so; obtain ⟨q0, q1, q2⟩ := hA2.so; have HS2 := KpE2.call HS1 hB2)
    | (go_at_call 35; with_reducible refine (hE w2 HS2).mono ?_; rintro e w3 ⟨rfl, hB3⟩; have HS3 := KpE2.call HS2 hB3; clear p0 p1 p2 q0 q1 q2; obtain ⟨p0, p1, p2⟩ := (V2.below hB3 (V2.lt (sov_ne _ _ _ _ _))).so; obtain ⟨q0, q1, q2⟩ := (hA2.below hB3 (hA2.lt (sov_ne _ _ _ _ _))).so))
  go_ret
  exact ⟨rfl, HS3.out.below⟩
set_option maxRecDepth 100000 in
set_option maxHeartbeats 1000000 in
theorem specSignedRd (t : ByteArray) (w : World) (hs : t.size ≤ maxLen) :
    Calls Try.prog 39 #[.string t] w fun r w' => ∃ x l a n cp c, r = .returned (.agg #[.string x, .slice a n cp, .int .i64 c]) ∧ l.length = n ∧ SgsAt w' a l ∧ n ≤ 16 ∧ SgAns t x l c ∧ Below w.heap.size w w' := by
  have hR : ∀ w0, Calls Try.prog 92 #[.string t] w0 fun r w' => ∃ x l a n c ok, r = .returned (.tuple #[.agg #[.string x, .slice a n c], .bool ok]) ∧ l.length = n ∧ SgsAt w' a l ∧ (∀ ad, a = some ad → w0.heap.size ≤ ad.block) ∧ n ≤ 16 ∧ ((ok = true ∧ SignedOk t x l) ∨ (ok = false ∧ ¬ ∃ x l, SignedOk t x l)) ∧ Below w0.heap.size w0 w' := fun w0 => spSigned t w0 hs
  unfold maxLen at hs
  by_cases hbig : 20000 < t.size
  · have d1 : decide ((20000 : Int) < (t.size : Int)) = true := decide_eq_true (by omega)
    have HAn : Hid (SgAns t ⟨#[]⟩ [] 2) := Or.inl ⟨hbig, rfl, rfl, rfl⟩
    clear hR hbig
    go_enter Try.func39, Try.ntmps39
    go_wp2_with (first
      | (with_reducible refine wpList_allocV (w := w) (by with_unfolding_all rfl) 66 (by with_unfolding_all rfl) (sov ⟨#[]⟩ none 0 0 0) Try.infoSo ?_; intro w1 hA1 hB1 hS1; clear hS1)
      | (with_reducible refine wpList_storeH (w := w1) (by with_unfolding_all rfl) 66 (.tmp 2) (.tmp 8) (by with_unfolding_all rfl) w.heap.size (sov ⟨#[]⟩ none 0 0 0) (sov ⟨#[]⟩ none 0 0 2) (by with_unfolding_all rfl) (by with_unfolding_all rfl) hA1 3 Try.sizeSo (by with_unfolding_all rfl) (by with_unfolding_all rfl) (sov_one _ _ _ _ _) ?_; intro w5 hA5 hB5 hF5 hS5; have B5 : Below w.heap.size w w5 := hB1.trans (hB5 _ (Nat.le_refl _))))
    exact bodyPost_ret (results_V (t := 66) rfl _ w.heap.size _ rfl hA5 Try.undSo 3 Try.sizeSo rfl) rfl ⟨⟨#[]⟩, [], none, 0, 0, 2, rfl, rfl, fun i hi => absurd hi (Nat.not_lt_zero _), by omega, HAn.out, B5⟩
  have d1 : decide ((20000 : Int) < (t.size : Int)) = false := decide_eq_false (by omega)
  have HS : Hid (t.size ≤ 20000) := by show _ ≤ _; omega
  clear hbig
  go_enter Try.func39, Try.ntmps39
  go_wp2_with (first
    | (with_reducible refine wpList_allocV (w := w) (by with_unfolding_all rfl) 66 (by with_unfolding_all rfl) (sov ⟨#[]⟩ none 0 0 0) Try.infoSo ?_; intro w1 hA1 hB1 hS1; have z1 : w.heap.size < w1.heap.size := (by omega); clear hS1))
  refine (hR w1).mono ?_
  rintro r w2 ⟨x, l, a, n, cp, ok, rfl, hl, hat, hab, hn16, hAn, hB2⟩
  have HAn : Hid ((ok = true ∧ SignedOk t x l) ∨ (ok = false ∧ ¬ ∃ x l, SignedOk t x l)) := hAn
  have HL : Hid (l.length = n) := hl
  have HAt : Hid (SgsAt w2 a l) := hat
  have R2 := hA1.below hB2 z1
  have B2 : Below w.heap.size w w2 := hB1.trans (hB2.mono (Nat.le_of_lt z1))
  have HNe : Hid (∀ ad, a = some ad → ad.block ≠ w.heap.size) := fun ad e => by have := hab ad e; omega
  clear hAn hR hA1 hB1 hB2 hl hat hab
  cases ok with
  | true =>
    have HLA : Hid (SgAns t x l 0) := HAn.out.elim (fun h => Or.inr (Or.inl ⟨HS.out, h.2, rfl⟩)) (fun h => by cases h.1)
    go_wp2_with (first
      | (with_reducible refine wpList_allocV (w := w2) (by with_unfolding_all rfl) 59 (by with_unfolding_all rfl) (sgv ⟨#[]⟩ none 0 0) Try.infoSd ?_; intro w3 hA3 hB3 hS3; clear hS3; have R3 := R2.below hB3 (R2.lt (sov_ne _ _ _ _ _)))
      | (with_reducible refine wpList_storeH (w := w3) (by with_unfolding_all rfl) 59 (.tmp 3) (.tmp 12) (by with_unfolding_all rfl) w2.heap.size (sgv ⟨#[]⟩ none 0 0) (sgv x a n cp) (by with_unfolding_all rfl) (by with_unfolding_all rfl) hA3 2 Try.sizeSd (by with_unfolding_all rfl) (by with_unfolding_all rfl) (sgv_one _ _ _ _) ?_; intro w4 hA4 hB4 hF4 hS4; have R4 := (Only.set hB4 hF4 hS4).row R3 (sov_ne _ _ _ _ _) (Nat.ne_of_lt (R2.lt (sov_ne _ _ _ _ _))); have B4 : Below w2.heap.size w2 w4 := hB3.trans (hB4 _ (Nat.le_refl _)); obtain ⟨p0, p1⟩ := hA4.sg)
      | (with_reducible refine wpList_storeH (w := w4) (by with_unfolding_all rfl) 66 (.tmp 2) (.tmp 18) (by with_unfolding_all rfl) w.heap.size (sov ⟨#[]⟩ none 0 0 0) (sov x a n cp 0) (by with_unfolding_all rfl) (by with_unfolding_all rfl) R4 3 Try.sizeSo (by with_unfolding_all rfl) (by with_unfolding_all rfl) (sov_one _ _ _ _ _) ?_; intro w5 hA5 hB5 hF5 hS5; have B5 : Below w.heap.size w w5 := (B2.trans (B4.mono B2.size)).trans (hB5 _ (Nat.le_refl _))))
    have AT : SgsAt w5 a l := SgsAt.off (HAt.out.below B4) hF5 HNe.out
    exact bodyPost_ret (results_V (t := 66) rfl _ w.heap.size _ rfl hA5 Try.undSo 3 Try.sizeSo rfl) rfl ⟨x, l, a, n, cp, 0, rfl, HL.out, AT, hn16, HLA.out, B5⟩
  | false =>
    have HLA : Hid (SgAns t ⟨#[]⟩ [] 3) := HAn.out.elim (fun h => by cases h.1) (fun h => Or.inr (Or.inr ⟨HS.out, h.2, rfl, rfl, rfl⟩))
    go_wp2_with (first
      | (with_reducible refine wpList_allocV (w := w2) (by with_unfolding_all rfl) 59 (by with_unfolding_all rfl) (sgv ⟨#[]⟩ none 0 0) Try.infoSd ?_; intro w3 hA3 hB3 hS3; clear hS3; have R3 := R2.below hB3 (R2.lt (sov_ne _ _ _ _ _)))
      | (with_reducible refine wpList_storeH (w := w3) (by with_unfolding_all rfl) 59 (.tmp 3) (.tmp 12) (by with_unfolding_all rfl) w2.heap.size (sgv ⟨#[]⟩ none 0 0) (sgv x a n cp) (by with_unfolding_all rfl) (by with_unfolding_all rfl) hA3 2 Try.sizeSd (by with_unfolding_all rfl) (by with_unfolding_all rfl) (sgv_one _ _ _ _) ?_; intro w4 hA4 hB4 hF4 hS4; have R4 := (Only.set hB4 hF4 hS4).row R3 (sov_ne _ _ _ _ _) (Nat.ne_of_lt (R2.lt (sov_ne _ _ _ _ _))); have B4 : Below w.heap.size w w4 := (B2.trans (hB3.mono B2.size)).trans (hB4 _ B2.size))
      | (with_reducible refine wpList_storeH (w := w4) (by with_unfolding_all rfl) 66 (.tmp 2) (.tmp 16) (by with_unfolding_all rfl) w.heap.size (sov ⟨#[]⟩ none 0 0 0) (sov ⟨#[]⟩ none 0 0 3) (by with_unfolding_all rfl) (by with_unfolding_all rfl) R4 3 Try.sizeSo (by with_unfolding_all rfl) (by with_unfolding_all rfl) (sov_one _ _ _ _ _) ?_; intro w5 hA5 hB5 hF5 hS5; have B5 : Below w.heap.size w w5 := B4.trans (hB5 _ (Nat.le_refl _))))
    exact bodyPost_ret (results_V (t := 66) rfl _ w.heap.size _ rfl hA5 Try.undSo 3 Try.sizeSo rfl) rfl ⟨⟨#[]⟩, [], none, 0, 0, 3, rfl, rfl, fun i hi => absurd hi (Nat.not_lt_zero _), by omega, HLA.out, B5⟩
structure KpV (w3 : World) (gG n cG : Nat) (x : ByteArray) (aG : Option Addr) (c : Int) (L : List Int) (w' : World) : Prop where
  b3 : Below w3.heap.size w3 w'
  rG : RowV w' gG (sov x aG n cG c)
  iG : IAt w' aG L
  hb : ∀ ad, aG = some ad → w3.heap.size ≤ ad.block ∧ ad.block < gG
theorem KpV.start {w3 w4 w5 w6 : World} {n cG : Nat} {x : ByteArray} {aG : Option Addr} {c : Int} {l : List SigV} (hO : OwnSg w4 w3.heap.size (.slice aG n cG) l) (hB4 : Below w3.heap.size w3 w4) (hB5 : Below w4.heap.size w4 w5) (hB6 : ∀ B, B ≤ w4.heap.size → Below B w5 w6) (hA6 : RowV w6 w4.heap.size (sov x aG n cG c)) : Hid (KpV w3 w4.heap.size n cG x aG c (flI l) w6) ∧ Hid (SgsAt w6 aG l) := by
  have b46 : Below w4.heap.size w4 w6 := hB5.trans (hB6 _ (Nat.le_refl _))
  exact ⟨⟨hB4.trans (b46.mono hB4.size), hA6, hO.iat.below b46, hO.blk⟩, hO.len.2.below b46⟩
theorem KpV.call {w3 w' w2 : World} {gG n cG : Nat} {x : ByteArray} {aG : Option Addr} {c : Int} {L : List Int} (h : Hid (KpV w3 gG n cG x aG c L w')) (hb : Below w'.heap.size w' w2) : Hid (KpV w3 gG n cG x aG c L w2) :=
  ⟨h.out.b3.trans (hb.mono h.out.b3.size), h.out.rG.below hb (h.out.rG.lt (sov_ne _ _ _ _ _)), h.out.iG.below hb, h.out.hb⟩
theorem KpV.mark {w3 w' w2 : World} {gG n cG : Nat} {x : ByteArray} {aG : Option Addr} {c : Int} {L L' : List Int} (h : Hid (KpV w3 gG n cG x aG c L w')) (hi : IAt w2 aG L') (hm : MkO aG w' w2) : Hid (KpV w3 gG n cG x aG c L' w2) :=
  ⟨h.out.b3.trans (hm.below _ h.out.b3.size (fun ad e => (h.out.hb ad e).1)), h.out.rG.same fun k => hm.far ⟨gG, k, none⟩ (h.out.rG.lt (sov_ne _ _ _ _ _)) (fun ad e => Nat.ne_of_gt (h.out.hb ad e).2), hi, h.out.hb⟩
theorem KpV.wc {w3 w' : World} {gG n cG gW nW cW : Nat} {x y : ByteArray} {aG aW : Option Addr} {c z : Int} {L : List Int} (h : Hid (KpV w3 gG n cG x aG c L w')) (hr : RowV w3 gW (sov y aW nW cW z)) : w'.cell? ⟨gW, 0, none⟩ = some (.string y) ∧ w'.cell? ⟨gW, 1, none⟩ = some (.slice aW nW cW) ∧ w'.cell? ⟨gW, 2, none⟩ = some (.int .i64 z) := (hr.below h.out.b3 (hr.lt (sov_ne _ _ _ _ _))).so
theorem KpV.gc {w3 w' : World} {gG n cG : Nat} {x : ByteArray} {aG : Option Addr} {c : Int} {L : List Int} (h : Hid (KpV w3 gG n cG x aG c L w')) : w'.cell? ⟨gG, 0, none⟩ = some (.string x) ∧ w'.cell? ⟨gG, 1, none⟩ = some (.slice aG n cG) ∧ w'.cell? ⟨gG, 2, none⟩ = some (.int .i64 c) := h.out.rG.so
theorem KpV.sg {w3 w' : World} {gG n cG : Nat} {x : ByteArray} {aG aW : Option Addr} {c : Int} {L : List Int} {l : List SigV} (h : Hid (KpV w3 gG n cG x aG c L w')) (hs : Hid (SgsAt w3 aW l)) : SgsAt w' aW l := hs.out.below h.out.b3
theorem KpV.ig {w3 w' : World} {gG n cG : Nat} {x : ByteArray} {aG : Option Addr} {c : Int} {L : List Int} (h : Hid (KpV w3 gG n cG x aG c L w')) : IAt w' aG L := h.out.iG
set_option maxRecDepth 100000 in
set_option maxHeartbeats 2000000 in
theorem lawSignedRead (t : ByteArray) (w : World) (hs : t.size ≤ maxLen) :
    Calls Try.prog 13 #[.string t] w fun r w' => r = .returned (.bool true) ∧ Below w.heap.size w w' := by
  have hS : ∀ w0, Calls Try.prog 39 #[.string t] w0 fun r w' => ∃ x l a n cp c, r = .returned (.agg #[.string x, .slice a n cp, .int .i64 c]) ∧ l.length = n ∧ SgsAt w' a l ∧ n ≤ 16 ∧ SgAns t x l c ∧ Below w0.heap.size w0 w' := fun w0 => specSignedRd t w0 hs
  have hI : ∀ w0 x l n c, l.length = n → SgAns t x l c → Calls Try.prog 37 #[.string t] w0 fun r w' => ∃ a cp, r = .returned (.agg #[.string x, .slice a n cp, .int .i64 c]) ∧ OwnSg w' w0.heap.size (.slice a n cp) l ∧ Below w0.heap.size w0 w' := fun w0 x l n c hn hh => (implSignedRd t w0 hs).mono (by
    rintro r w' ⟨x', l', a', n', cp', c', rfl, h1, h2, h3⟩
    obtain ⟨rfl, rfl, rfl⟩ := sgAns_one hh h1
    obtain rfl : n' = n := h2.len.1.symm.trans hn
    exact ⟨a', cp', rfl, h2, h3⟩)
  unfold maxLen at hs
  by_cases hbig : 1048576 < t.size
  · have d1 : decide ((1048576 : Int) < (t.size : Int)) = true := decide_eq_true (by omega)
    go_enter Try.func13, Try.ntmps13
    go_wp2
    go_ret
    exact ⟨rfl, Below.refl _ _⟩
  have d1 : decide ((1048576 : Int) < (t.size : Int)) = false := decide_eq_false (by omega)
  go_enter Try.func13, Try.ntmps13
  go_wp2_with fail
  refine (hS w).mono ?_
  rintro r w1 ⟨x, l, a, n, cp, c, rfl, hl, hat, hn16, hAn, hB1⟩
  have hI2 : ∀ w0, Calls Try.prog 37 #[.string t] w0 fun r w' => ∃ a cp, r = .returned (.agg #[.string x, .slice a n cp, .int .i64 c]) ∧ OwnSg w' w0.heap.size (.slice a n cp) l ∧ Below w0.heap.size w0 w' := fun w0 => hI w0 x l n c hl hAn
  have hE : ∀ w0 a1 c1, SgsAt w0 a1 l → SgsAt w0 a l → Calls Try.prog 53 #[.agg #[.string x, .slice a1 n c1, .int .i64 c], .agg #[.string x, .slice a n cp, .int .i64 c]] w0 fun e w' => e = .returned (.bool true) ∧ Below w0.heap.size w0 w' := fun w0 a1 c1 h1 h2 => eqSo_any x a1 a c1 cp n c l w0 hl h1 h2 (by unfold maxLen; omega)
  obtain ⟨R, hRR⟩ : ∃ R, (1 : Int) + 3 * (n : Int) = R := ⟨_, rfl⟩
  have hM : ∀ w0 a1 c1, IAt w0 a1 (flI l) → Calls Try.prog 54 #[.agg #[.string x, .slice a1 n c1, .int .i64 c], .int .i64 1] w0 fun e w' => e = .returned (.int .i64 R) ∧ IAt w' a1 (cnt 1 (3 * n)) ∧ MkO a1 w0 w' := fun w0 a1 c1 h1 => hRR ▸ markSo_any x a1 c1 n c (flI l) 1 w0 (by rw [flI_len, hl]) h1 (by omega) (by omega) (by omega)
  have hH : ∀ w0 a1 c1, IAt w0 a1 (cnt 1 (3 * n)) → Calls Try.prog 55 #[.agg #[.string x, .slice a1 n c1, .int .i64 c], .int .i64 1] w0 fun e w' => e = .returned (.int .i64 R) ∧ Below w0.heap.size w0 w' := fun w0 a1 c1 h1 => hRR ▸ heldSo_any x a1 c1 n c 1 w0 h1 (by omega) (by omega) (by omega)
  have d2 : decide (R < 0) = false := decide_eq_false (by omega)
  have e2 : (R == R) = true := by simp
  have HAt : Hid (SgsAt w1 a l) := hat
  clear hS hI hAn hRR hat hl
  go_wp2_with (first
    | (with_reducible refine wpList_allocV (w := w1) (by with_unfolding_all rfl) 66 (by with_unfolding_all rfl) (sov ⟨#[]⟩ none 0 0 0) Try.infoSo ?_; intro w2 hA2 hB2 hS2; clear hS2)
    | (with_reducible refine wpList_storeH (w := w2) (by with_unfolding_all rfl) 66 (.tmp 3) (.tmp 12) (by with_unfolding_all rfl) w1.heap.size (sov ⟨#[]⟩ none 0 0 0) (sov x a n cp c) (by with_unfolding_all rfl) (by with_unfolding_all rfl) hA2 3 Try.sizeSo (by with_unfolding_all rfl) (by with_unfolding_all rfl) (sov_one _ _ _ _ _) ?_; intro w3 hA3 hB3 hF3 hS3; have B3 : Below w1.heap.size w1 w3 := hB2.trans (hB3 _ (Nat.le_refl _)); have S3 := hidP (HAt.out.below B3); clear hF3 hS3 hA2)
    | (go_at_call 37; with_reducible refine (hI2 w3).mono ?_; rintro r w4 ⟨aG, cG, rfl, hO4, hB4⟩; have HO4 := hidP hO4; clear hO4)
    | (with_reducible refine wpList_allocV (w := w4) (by with_unfolding_all rfl) 66 (by with_unfolding_all rfl) (sov ⟨#[]⟩ none 0 0 0) Try.infoSo ?_; intro w5 hA5 hB5 hS5; clear hS5)
    | (with_reducible refine wpList_storeH (w := w5) (by with_unfolding_all rfl) 66 (.tmp 4) (.tmp 14) (by with_unfolding_all rfl) w4.heap.size (sov ⟨#[]⟩ none 0 0 0) (sov x aG n cG c) (by with_unfolding_all rfl) (by with_unfolding_all rfl) hA5 3 Try.sizeSo (by with_unfolding_all rfl) (by with_unfolding_all rfl) (sov_one _ _ _ _ _) ?_; intro w6 hA6 hB6 hF6 hS6; obtain ⟨HK6, SG6⟩ := KpV.start HO4.out hB4 hB5 hB6 hA6; clear hF6 hS6 hA5; obtain ⟨p0, p1, p2⟩ := KpV.wc HK6 hA3; obtain ⟨q0, q1, q2⟩ := KpV.gc HK6)
    | (go_at_call 53; with_reducible refine (hE w6 aG cG SG6.out (KpV.sg HK6 S3)).mono ?_; rintro r w7 ⟨rfl, hB7⟩; have HK7 := KpV.call HK6 hB7; clear p0 p1 p2 q0 q1 q2; obtain ⟨q0, q1, q2⟩ := KpV.gc HK7)
    | (go_at_call 54; with_reducible refine (hM w7 aG cG (KpV.ig HK7)).mono ?_; rintro r w8 ⟨rfl, hI8, hM8⟩; have HK8 := KpV.mark HK7 hI8 hM8; clear hI8 hM8 q0 q1 q2; obtain ⟨q0, q1, q2⟩ := KpV.gc HK8)
    | (go_at_call 55; with_reducible refine (hH w8 aG cG (KpV.ig HK8)).mono ?_; rintro r w9 ⟨rfl, hB9⟩; have HK9 := KpV.call HK8 hB9; clear q0 q1 q2)
    | (go_at_call 37; with_reducible refine (hI2 w9).mono ?_; rintro r w10 ⟨aH, cH, rfl, hO10, hB10⟩; have HO10 := hidP hO10; clear hO10; have HK10 := KpV.call HK9 hB10)
    | (with_reducible refine wpList_allocV (w := w10) (by with_unfolding_all rfl) 66 (by with_unfolding_all rfl) (sov ⟨#[]⟩ none 0 0 0) Try.infoSo ?_; intro w11 hA11 hB11 hS11; clear hS11)
    | (with_reducible refine wpList_storeH (w := w11) (by with_unfolding_all rfl) 66 (.tmp 7) (.tmp 31) (by with_unfolding_all rfl) w10.heap.size (sov ⟨#[]⟩ none 0 0 0) (sov x aH n cH c) (by with_unfolding_all rfl) (by with_unfolding_all rfl) hA11 3 Try.sizeSo (by with_unfolding_all rfl) (by with_unfolding_all rfl) (sov_one _ _ _ _ _) ?_; intro w12 hA12 hB12 hF12 hS12; have B12 : Below w10.heap.size w10 w12 := hB11.trans (hB12 _ (Nat.le_refl _)); have HK12 := KpV.call HK10 B12; have SH12 := hidP (HO10.out.len.2.below B12); clear hF12 hS12 hA11; obtain ⟨p0, p1, p2⟩ := KpV.wc HK12 hA3; obtain ⟨q0, q1, q2⟩ := hA12.so)
    | (go_at_call 53; with_reducible refine (hE w12 aH cH SH12.out (KpV.sg HK12 S3)).mono ?_; rintro r w13 ⟨rfl, hB13⟩; have HK13 := KpV.call HK12 hB13; clear p0 p1 p2 q0 q1 q2; obtain ⟨q0, q1, q2⟩ := KpV.gc HK13)
    | (go_at_call 55; with_reducible refine (hH w13 aG cG (KpV.ig HK13)).mono ?_; rintro r w14 ⟨rfl, hB14⟩; have HK14 := KpV.call HK13 hB14; clear q0 q1 q2))
  go_ret
  exact ⟨rfl, (hB1.trans (B3.mono hB1.size)).trans (HK14.out.b3.mono (Nat.le_trans hB1.size B3.size))⟩
end Go.Proofs.Ytnlalnkoggkdfaa
