/- What the laws' marks do of signatures: cell by cell. -/
import Derived.Test.YtmahpmjkejnkfaaDoorOwnG
import Derived.WalkMore
import Derived.Defers
import Derived.Recover
import Derived.ScopeJumps
import Derived.Lib.ConvBytes
import Derived.Great.Ranges
import Derived.WalkSpells
import Derived.Deep.RegionHeld3
namespace Go.Proofs.YtmahpmjkejnkfaaDoor
open Go.RowKit
set_option linter.unusedVariables false

def flI (l : List SigV) : List Int := (l.map fun x => [x.k, x.e, x.s]).flatten
theorem flI_flat (l : List SigV) : (sgL l).flatten = (flI l).map (Value.int .i64) := by
  induction l with
  | nil => rfl
  | cons x l ih => show svs x.k x.e x.s ++ (sgL l).flatten = ([x.k, x.e, x.s] ++ flI l).map _; rw [ih, List.map_append]; rfl
theorem flI_len (l : List SigV) : (flI l).length = 3 * l.length := by
  have := congrArg List.length (flI_flat l)
  rw [flat_len, List.length_map] at this
  omega
theorem OwnSg.iat {w : World} {base n c : Nat} {a : Option Addr} {l : List SigV} (h : OwnSg w base (.slice a n c) l) : IAt w a (flI l) := by
  intro hne
  rcases h.2 with ⟨h0, hn⟩ | ⟨g, cap, cur, hv, hbg, hg, h1, h2, h3, h4⟩
  · have : l = [] := List.length_eq_zero_iff.1 hn
    subst this
    exact absurd rfl hne
  · have h' : w.ownsRow base 57 3 (.slice a n c) l.length (sgL l).flatten := h
    rw [hv] at h'
    injection hv with e1 e2 e3
    refine ⟨g, e1, fun j hj => ⟨?_, by simp [World.frozen?, hg]⟩⟩
    rw [World.ownsRow.cellAt h' j (by rw [flI_len] at hj; omega), flI_flat, List.getElem?_map, List.getElem?_eq_getElem hj]
    rfl
theorem OwnSg.blk {w : World} {base n c : Nat} {a : Option Addr} {l : List SigV} (h : OwnSg w base (.slice a n c) l) : ∀ ad, a = some ad → base ≤ ad.block ∧ ad.block < w.heap.size := by
  intro ad e
  subst e
  rcases h.2 with ⟨h0, hn⟩ | ⟨g, cap, cur, hv, hbg, hg, _⟩
  · cases h0
  · injection hv with e1 e2 e3
    injection e1 with e1
    subst e1
    exact ⟨hbg, (Array.getElem?_eq_some_iff.1 hg).1⟩
theorem OwnSg.len {w : World} {base n c : Nat} {a : Option Addr} {l : List SigV} (h : OwnSg w base (.slice a n c) l) : l.length = n ∧ SgsAt w a l := by
  obtain ⟨a', c', e, hs⟩ := h.form
  injection e with e1 e2 e3
  subst e1
  exact ⟨e2.symm, hs⟩
structure MkO (a : Option Addr) (w w' : World) : Prop where
  far : ∀ x : Addr, x.block < w.heap.size → (∀ ad, a = some ad → x.block ≠ ad.block) → w'.cell? x = w.cell? x ∧ w'.frozen? x = w.frozen? x
  below : ∀ B, B ≤ w.heap.size → (∀ ad, a = some ad → B ≤ ad.block) → Below B w w'
theorem Wrote.mko {a : Option Addr} {w w' : World} (h : Wrote a w w') : MkO a w w' := ⟨fun x _ hx => h.far x hx, h.below⟩
theorem MkO.pre {a : Option Addr} {w w1 w2 : World} (hb : Below w.heap.size w w1) (h : MkO a w1 w2) : MkO a w w2 :=
  ⟨fun x hl hx => by
    have e := h.far x (Nat.lt_of_lt_of_le hl hb.size) hx
    exact ⟨e.1.trans (hb.cell hl), e.2.trans (hb.frozen hl)⟩,
   fun B hB hx => (hb.mono hB).trans (h.below B (Nat.le_trans hB hb.size) hx)⟩
theorem wpList_markI {P : Program} {ops : Array Oper} {rest : List Oper} {o : Oper} {a : Act} {w0 w : World} {Q : Exit → Act → World → Prop} (hg : o.guard = none) (t : TypeId) (x y : Operand) (ho : o.op = .store t x y) (hi : (P.info? t).map (·.size) = some 1) (g j : Nat) (L : List Int) (k0 z : Int)
    (hx : a.eval x = .pointer (some ⟨g, j, none⟩)) (hy : a.eval y = .int .i64 z) (hm : MarkAt (some ⟨g, 0, none⟩) L k0 j w0 w) (hj : j < L.length) (hgl : g < w0.heap.size) (hz : k0 + (j : Int) = z)
    (h : ∀ w', MarkAt (some ⟨g, 0, none⟩) L k0 (j + 1) w0 w' → wpList P ops Q rest (a.put o.dst undef) w') : wpList P ops Q (o :: rest) a w := by
  refine wpList_plain hg fun K hK => ?_
  have hlen : j < (cnt k0 j ++ L.drop j).length := by simp [cnt]; omega
  obtain ⟨g', hg', e1⟩ := hm.row (by intro e; rw [e] at hlen; simp at hlen)
  injection hg' with hg'
  injection hg' with hg'
  subst hg'
  have hc := (e1 j hlen).1
  have hf := (e1 j hlen).2
  generalize (cnt k0 j ++ L.drop j)[j] = u at hc
  have hh := h _ (hm.step hj hgl hz)
  obtain ⟨ti, hti, hts⟩ := Option.map_eq_some_iff.1 hi
  simp only [Oper.wp, execOp, ho, hx, hy, Instr.storeAt, Instr.sureAddr, Sem.run_bind, Sem.run_pure, Result.andThen_ok]
  simp [go_sem, hc, hf, hti, hts, storeCells, sizeOf, typeInfo]
  exact hK _ _ hh
set_option maxRecDepth 100000 in
set_option maxHeartbeats 2000000 in
theorem markSgS_any (a : Option Addr) (c n : Nat) (L : List Int) (k0 : Int) (w : World) (hL : L.length = 3 * n) (h : IAt w a L) (hn : n ≤ 1000) (h0 : 0 ≤ k0) (h1 : k0 ≤ 1000000) :
    Calls Tryd.prog 36 #[.slice a n c, .int .i64 k0] w fun e w' => e = .returned (.int .i64 (k0 + 3 * n)) ∧ IAt w' a (cnt k0 (3 * n)) ∧ Wrote a w w' := by
  have HM : Hid (MarkAt a L k0 0 w w) := ⟨h, ⟨fun _ _ => ⟨rfl, rfl⟩, fun _ _ _ => Below.refl _ _, rfl⟩⟩
  have HI : Hid (IAt w a L) := h
  have HL : Hid (L.length = 3 * n) := hL
  clear h hL
  go_enter Tryd.func36, Tryd.ntmps36
  go_wp2_with fail
  go_loopw [1, 5] (fun q i wr => ∃ (k : Nat) (z : Int), i = .int .i64 (k : Int) ∧ q = .int .i64 z ∧ Hid (k0 + 3 * (k : Int) = z) ∧ k ≤ n ∧ Hid (MarkAt a L k0 (k * 3) w wr)) (fun _ i _ => n - (intOf i).toNat)
  case atStart => exact ⟨0, k0, rfl, rfl, by show _ = _; simp, Nat.zero_le _, HM⟩
  case round =>
    clear HM
    obtain ⟨k, z, rfl, rfl, HZ, hk, HMk⟩ := hrel
    by_cases hlt : k < n
    · obtain ⟨g, rfl, e1⟩ := HI.out (by intro e; have := HL.out; rw [e] at this; simp at this; omega)
      have hg : g < w.heap.size := cellLt (e1 0 (by have := HL.out; omega)).1
      have HG : Hid (g < w.heap.size) := hg
      have J0 : Hid (k * 3 < L.length) := by have := HL.out; show _ < _; omega
      have J1 : Hid (k * 3 + 1 < L.length) := by have := HL.out; show _ < _; omega
      have J2 : Hid (k * 3 + 2 < L.length) := by have := HL.out; show _ < _; omega
      obtain ⟨z1, hz1⟩ : ∃ y, z + 1 = y := ⟨_, rfl⟩
      obtain ⟨z2, hz2⟩ : ∃ y, z1 + 1 = y := ⟨_, rfl⟩
      obtain ⟨z3, hz3⟩ : ∃ y, z2 + 1 = y := ⟨_, rfl⟩
      have Z0 : Hid (k0 + ((k * 3 : Nat) : Int) = z) := by have := HZ.out; show _ = _; omega
      have Z1 : Hid (k0 + ((k * 3 + 1 : Nat) : Int) = z1) := by have := HZ.out; show _ = _; omega
      have Z2 : Hid (k0 + ((k * 3 + 2 : Nat) : Int) = z2) := by have := HZ.out; show _ = _; omega
      have Z3 : Hid (k0 + 3 * ((k + 1 : Nat) : Int) = z3) := by have := HZ.out; show _ = _; omega
      have b0 : 0 ≤ z ∧ z ≤ 1003000 := by have := HZ.out; omega
      have lk : (k : Int) < n := by omega
      have l0 : (0 : Int) ≤ k := by omega
      have HM0 : Hid (MarkAt (some ⟨g, 0, none⟩) L k0 (k * 3) w wr) := HMk
      clear e1 hg HMk HI HZ
      go_wp2_with (first
        | (with_reducible refine wpList_markI (w := wr) (by with_unfolding_all rfl) 2 (.tmp 16) (.tmp 14) (by with_unfolding_all rfl) Tryd.siz1I g (k * 3) L k0 z (by with_unfolding_all rfl) (by with_unfolding_all rfl) HM0.out J0.out HG.out Z0.out ?_; intro wa hm; have HM1 := hidP hm; clear hm)
        | (with_reducible refine wpList_markI (w := wa) (by with_unfolding_all rfl) 2 (.tmp 23) (.tmp 21) (by with_unfolding_all rfl) Tryd.siz1I g (k * 3 + 1) L k0 z1 (by with_unfolding_all rfl) (by with_unfolding_all rfl) HM1.out J1.out HG.out Z1.out ?_; intro wb hm; have HM2 := hidP hm; clear hm)
        | (with_reducible refine wpList_markI (w := wb) (by with_unfolding_all rfl) 2 (.tmp 30) (.tmp 28) (by with_unfolding_all rfl) Tryd.siz1I g (k * 3 + 2) L k0 z2 (by with_unfolding_all rfl) (by with_unfolding_all rfl) HM2.out J2.out HG.out Z2.out ?_; intro wc hm; have HM3 := hidP hm; clear hm))
      go_roundw
      case rel => exact ⟨k + 1, z3, by go_num, by go_num, Z3, hlt, by rw [show (k + 1) * 3 = k * 3 + 2 + 1 by omega]; exact HM3⟩
      case measure => simp [intOf]; omega
    · obtain rfl : k = n := by omega
      go_wp2
      go_ret
      refine ⟨by have := HZ.out; subst this; rfl, ?_, HMk.out.wr⟩
      have := HMk.out.row
      rw [List.drop_of_length_le (by have := HL.out; omega), List.append_nil, Nat.mul_comm] at this
      exact this
set_option maxRecDepth 100000 in
set_option maxHeartbeats 2000000 in
theorem heldSgS_any (a : Option Addr) (c n : Nat) (k0 : Int) (w : World) (h : IAt w a (cnt k0 (3 * n))) (hn : n ≤ 1000) (h0 : 0 ≤ k0) (h1 : k0 ≤ 1000000) :
    Calls Tryd.prog 37 #[.slice a n c, .int .i64 k0] w fun e w' => e = .returned (.int .i64 (k0 + 3 * n)) ∧ Below w.heap.size w w' := by
  have HI : Hid (IAt w a (cnt k0 (3 * n))) := h
  clear h
  go_enter Tryd.func37, Tryd.ntmps37
  go_wp2_with fail
  go_loopw [1, 5] (fun q i wr => ∃ (k : Nat) (z : Int), i = .int .i64 (k : Int) ∧ q = .int .i64 z ∧ Hid (k0 + 3 * (k : Int) = z) ∧ k ≤ n ∧ wr = w) (fun _ i _ => n - (intOf i).toNat)
  case atStart => exact ⟨0, k0, rfl, rfl, by show _ = _; simp, Nat.zero_le _, rfl⟩
  case round =>
    obtain ⟨k, z, rfl, rfl, HZ, hk, rfl⟩ := hrel
    by_cases hlt : k < n
    · obtain ⟨g, rfl, e1⟩ := HI.out (by intro e; have := congrArg List.length e; rw [cnt_length] at this; simp at this; omega)
      have hx : ∀ j (hj : j < 3 * n), wr.cell? ⟨g, j, none⟩ = some (.int .i64 (k0 + (j : Int))) := fun j hj => by
        rw [(e1 j (by rw [cnt_length]; exact hj)).1]
        simp [cnt]
      obtain ⟨z1, hz1⟩ : ∃ y, z + 1 = y := ⟨_, rfl⟩
      obtain ⟨z2, hz2⟩ : ∃ y, z1 + 1 = y := ⟨_, rfl⟩
      obtain ⟨z3, hz3⟩ : ∃ y, z2 + 1 = y := ⟨_, rfl⟩
      have d0 := hx (k * 3) (by omega)
      have d1 := hx (k * 3 + 1) (by omega)
      have d2 := hx (k * 3 + 2) (by omega)
      rw [show k0 + ((k * 3 : Nat) : Int) = z by have := HZ.out; omega] at d0
      rw [show k0 + ((k * 3 + 1 : Nat) : Int) = z1 by have := HZ.out; omega] at d1
      rw [show k0 + ((k * 3 + 2 : Nat) : Int) = z2 by have := HZ.out; omega] at d2
      have Z3 : Hid (k0 + 3 * ((k + 1 : Nat) : Int) = z3) := by have := HZ.out; show _ = _; omega
      have b0 : 0 ≤ z ∧ z ≤ 1003000 := by have := HZ.out; omega
      have lk : (k : Int) < n := by omega
      have l0 : (0 : Int) ≤ k := by omega
      clear e1 hx HI HZ
      go_wp2
      go_roundw
      case rel => exact ⟨k + 1, z3, by go_num, by go_num, Z3, hlt, trivial⟩
      case measure => simp [intOf]; omega
    · obtain rfl : k = n := by omega
      go_wp2
      go_ret
      exact ⟨by have := HZ.out; subst this; rfl, Below.refl _ _⟩
theorem SgsAt.off {w w' : World} {a : Option Addr} {l : List SigV} {G : Nat} (h : SgsAt w a l) (hF : ∀ k, k ≠ G → w'.heap[k]? = w.heap[k]?) (hn : ∀ ad, a = some ad → ad.block ≠ G) : SgsAt w' a l := fun i hi => by
  obtain ⟨b, o, e, h1, h2, h3⟩ := h i hi
  have hb : b ≠ G := hn _ e
  exact ⟨b, o, e, (same_far (x := ⟨b, _, none⟩) (hF b hb)).1.trans h1, (same_far (x := ⟨b, _, none⟩) (hF b hb)).1.trans h2, (same_far (x := ⟨b, _, none⟩) (hF b hb)).1.trans h3⟩
set_option maxRecDepth 100000 in
theorem markSd_any (t : ByteArray) (a : Option Addr) (c n : Nat) (L : List Int) (k0 : Int) (w : World) (hL : L.length = 3 * n) (h : IAt w a L) (hn : n ≤ 1000) (h0 : 0 ≤ k0) (h1 : k0 ≤ 1000000) :
    Calls Tryd.prog 18 #[.agg #[.string t, .slice a n c], .int .i64 k0] w fun e w' => e = .returned (.int .i64 (k0 + 3 * n)) ∧ IAt w' a (cnt k0 (3 * n)) ∧ MkO a w w' := by
  have hM : ∀ w0, IAt w0 a L → Calls Tryd.prog 36 #[.slice a n c, .int .i64 k0] w0 fun e w' => e = .returned (.int .i64 (k0 + 3 * n)) ∧ IAt w' a (cnt k0 (3 * n)) ∧ Wrote a w0 w' := fun w0 hh => markSgS_any a c n L k0 w0 hL hh hn h0 h1
  have HI : Hid (IAt w a L) := h
  generalize k0 + 3 * (n : Int) = R at *
  clear h hL
  go_enter Tryd.func18, Tryd.ntmps18
  go_wp2_with (first
    | (with_reducible refine wpList_boxV (w := w) (by with_unfolding_all rfl) 35 (.tmp 0) (by with_unfolding_all rfl) (sgv t a n c) (by with_unfolding_all rfl) ?_; intro w1 hA1 hB1 hS1; clear hS1; obtain ⟨p0, p1⟩ := hA1.sg; have HI1 := hidP (HI.out.below hB1))
    | (go_at_call 36; with_reducible refine (hM w1 HI1.out).mono ?_; rintro e w2 ⟨rfl, hI2, hW2⟩; have HI2 := hidP hI2; have HW2 := hidP hW2; clear hI2 hW2 p0 p1))
  go_ret
  exact ⟨rfl, HI2.out, HW2.out.mko.pre hB1⟩
set_option maxRecDepth 100000 in
theorem heldSd_any (t : ByteArray) (a : Option Addr) (c n : Nat) (k0 : Int) (w : World) (h : IAt w a (cnt k0 (3 * n))) (hn : n ≤ 1000) (h0 : 0 ≤ k0) (h1 : k0 ≤ 1000000) :
    Calls Tryd.prog 19 #[.agg #[.string t, .slice a n c], .int .i64 k0] w fun e w' => e = .returned (.int .i64 (k0 + 3 * n)) ∧ Below w.heap.size w w' := by
  have hM : ∀ w0, IAt w0 a (cnt k0 (3 * n)) → Calls Tryd.prog 37 #[.slice a n c, .int .i64 k0] w0 fun e w' => e = .returned (.int .i64 (k0 + 3 * n)) ∧ Below w0.heap.size w0 w' := fun w0 hh => heldSgS_any a c n k0 w0 hh hn h0 h1
  have HI : Hid (IAt w a (cnt k0 (3 * n))) := h
  have hR : 0 ≤ k0 + 3 * (n : Int) := by omega
  generalize k0 + 3 * (n : Int) = R at *
  have d1 : decide (R < 0) = false := decide_eq_false (by omega)
  clear h
  go_enter Tryd.func19, Tryd.ntmps19
  go_wp2_with (first
    | (with_reducible refine wpList_boxV (w := w) (by with_unfolding_all rfl) 35 (.tmp 0) (by with_unfolding_all rfl) (sgv t a n c) (by with_unfolding_all rfl) ?_; intro w1 hA1 hB1 hS1; clear hS1; obtain ⟨p0, p1⟩ := hA1.sg; have HI1 := hidP (HI.out.below hB1))
    | (go_at_call 37; with_reducible refine (hM w1 HI1.out).mono ?_; rintro e w2 ⟨rfl, hB2⟩; clear p0 p1))
  go_ret
  exact ⟨rfl, hB1.trans (hB2.mono hB1.size)⟩
end Go.Proofs.YtmahpmjkejnkfaaDoor
