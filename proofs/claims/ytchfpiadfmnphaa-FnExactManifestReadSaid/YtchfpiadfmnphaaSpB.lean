/- The specification's reader: bytes, first, done. -/
import Derived.Test.YtchfpiadfmnphaaSpN
import Derived.Test.YtchfpiadfmnphaaJn7
namespace Go.Proofs.Ytchfpiadfmnphaa
open Go.RowKit
set_option linter.unusedVariables false

theorem onlyN {g : Nat} {w : World} (n : Nat) : Only g w (w.drewN n) := ⟨belowN (Below.refl _ _) _, fun _ _ _ => rfl, Nat.le_refl _⟩
set_option maxRecDepth 100000 in
set_option maxHeartbeats 1000000 in
theorem spBytesBad (g p m : Nat) (t : ByteArray) (w : World) (hs : t.size ≤ maxLen) (hp : p ≤ t.size) (hm : m ≤ 1000) (bad : Bool) (hb : bad = true ∨ t.size < p + m) (h : RowV w g (srv t p bad)) :
    Calls Try.prog 103 #[.pointer (some ⟨g, 0, none⟩), .int .i64 (m : Int)] w fun e w' => e = .returned (.string ⟨#[]⟩) ∧ RowV w' g (srv t p true) ∧ Only g w w' := by
  unfold maxLen at hs
  obtain ⟨c0, c1, c2⟩ := h.sr
  have HR : Hid (RowV w g (srv t p bad)) := h
  clear h
  obtain ⟨d, hd⟩ : ∃ d : Int, (t.size : Int) - (m : Int) = d := ⟨_, rfl⟩
  have ed : IntKind.i64.wrap d = d := by rw [IntKind.wrap_i64]; omega
  cases bad with
  | true =>
    clear hb
    go_enter Try.func103, Try.ntmps103
    go_wp2_with fail
    go_quiet (fail)
    have R1 : RowV (w.drewN nq) g (srv t p true) := HR.out.drewN _
    have O1 : Only g w (w.drewN nq) := onlyN _
    clear HR c0 c1 c2
    generalize w.drewN nq = w1 at *
    go_wp2_with (first
      | (with_reducible refine wpList_cellB (w := w1) (by with_unfolding_all rfl) 4 (.tmp 25) (.const (.bool true)) (by with_unfolding_all rfl) g 2 (srv t p true) (srv t p true) true (by with_unfolding_all rfl) (by with_unfolding_all rfl) Try.siz1B R1 (by simp [srv]) (by with_unfolding_all rfl) ?_; intro wz hAz hBz hFz hSz; have Oz := O1.trans (Only.set hBz hFz hSz)))
    go_ret
    exact ⟨rfl, hAz, Oz⟩
  | false =>
    have hb' : t.size < p + m := hb.elim (fun h => by cases h) id
    have d1 : decide (d < (p : Int)) = true := decide_eq_true (by omega)
    clear hb
    go_enter Try.func103, Try.ntmps103
    go_wp2_with fail
    go_quiet (fail)
    have R1 : RowV (w.drewN nq) g (srv t p false) := HR.out.drewN _
    have O1 : Only g w (w.drewN nq) := onlyN _
    clear HR c0 c1 c2
    generalize w.drewN nq = w1 at *
    go_wp2_with (first
      | (with_reducible refine wpList_cellB (w := w1) (by with_unfolding_all rfl) 4 (.tmp 25) (.const (.bool true)) (by with_unfolding_all rfl) g 2 (srv t p false) (srv t p true) true (by with_unfolding_all rfl) (by with_unfolding_all rfl) Try.siz1B R1 (by simp [srv]) (by with_unfolding_all rfl) ?_; intro wz hAz hBz hFz hSz; have Oz := O1.trans (Only.set hBz hFz hSz)))
    go_ret
    exact ⟨rfl, hAz, Oz⟩
set_option maxRecDepth 100000 in
set_option maxHeartbeats 1000000 in
theorem spBytesYes (g p m q : Nat) (t : ByteArray) (w : World) (hs : t.size ≤ maxLen) (hq : p + m = q) (hm : q ≤ t.size) (h : RowV w g (srv t p false)) :
    Calls Try.prog 103 #[.pointer (some ⟨g, 0, none⟩), .int .i64 (m : Int)] w fun e w' => e = .returned (.string (t.extract p q)) ∧ RowV w' g (srv t q false) ∧ Only g w w' := by
  unfold maxLen at hs
  obtain ⟨c0, c1, c2⟩ := h.sr
  have HR : Hid (RowV w g (srv t p false)) := h
  clear h
  obtain ⟨d, hd⟩ : ∃ d : Int, (t.size : Int) - (m : Int) = d := ⟨_, rfl⟩
  have ed : IntKind.i64.wrap d = d := by rw [IntKind.wrap_i64]; omega
  have d1 : decide (d < (p : Int)) = false := decide_eq_false (by omega)
  have e1 : (p : Int) + (m : Int) = (q : Int) := by omega
  have e2 : (q : Int) - (m : Int) = (p : Int) := by omega
  have e3 : IntKind.i64.wrap (p : Int) = (p : Int) := by rw [IntKind.wrap_i64]; omega
  obtain ⟨x, hx⟩ : ∃ x, t.extract p q = x := ⟨_, rfl⟩
  have hsl : ∀ w0 : World, (Instr.slice 9 (.string t) (some (.int .i64 (p : Int))) (some (.int .i64 (q : Int))) none).run Try.prog w0 = .ok (.string x) w0 := by
    intro w0
    rw [run_slice_string_if w0 9 t .i64 .i64 p q Try.underlying9, if_pos ⟨by omega, by omega⟩, if_pos ⟨by omega, by omega⟩, ← hx]
    simp
  rw [hx]
  clear hx
  go_enter Try.func103, Try.ntmps103
  go_wp2_with fail
  go_quiet (fail)
  have R1 : RowV (w.drewN nq) g (srv t p false) := HR.out.drewN _
  have O1 : Only g w (w.drewN nq) := onlyN _
  clear HR c0 c1 c2
  generalize w.drewN nq = w1 at *
  obtain ⟨c0, c1, c2⟩ := R1.sr
  go_wp2_with (first
    | (with_reducible refine wpList_cellH (w := w1) (by with_unfolding_all rfl) 2 (.tmp 34) (.tmp 32) (by with_unfolding_all rfl) g 1 (srv t p false) (srv t q false) (.int .i64 (q : Int)) (by with_unfolding_all rfl) (by with_unfolding_all rfl) rfl Try.siz1I R1 (by simp [srv]) (by with_unfolding_all rfl) ?_; intro w2 hA2 hB2 hF2 hS2; have O2 := O1.trans (Only.set hB2 hF2 hS2); clear c0 c1 c2; obtain ⟨c0, c1, c2⟩ := hA2.sr))
  go_quiet (fail)
  have R3 : RowV (w2.drewN nq) g (srv t q false) := hA2.drewN _
  have O3 : Only g w (w2.drewN nq) := O2.trans (onlyN _)
  clear hA2 hB2 hF2 hS2 c0 c1 c2
  generalize w2.drewN nq = w3 at *
  go_wp2
  go_ret
  exact ⟨rfl, R3, O3⟩
/- The first byte, as it must be. -/
def FstR (t : ByteArray) (m : ByteArray) (p' : Nat) (bad' : Bool) : Prop := p' ≤ t.size ∧ ((∃ y, m = ⟨#[y]⟩ ∧ FirstB t y ∧ p' = 1 ∧ bad' = false) ∨ ((¬ ∃ y, m = ⟨#[y]⟩ ∧ FirstB t y) ∧ bad' = true))
theorem one_byte (t : ByteArray) (h : 1 ≤ t.size) : ∃ y, t.extract 0 1 = ⟨#[y]⟩ := by
  refine ⟨t[0], ?_⟩
  apply ByteArray.ext
  apply Array.ext
  · simp; omega
  · intro i h1 h2
    have : i = 0 := by simp at h2; omega
    subst this
    simp
    rfl
set_option maxRecDepth 100000 in
set_option maxHeartbeats 1000000 in
theorem spFirst (g : Nat) (t m : ByteArray) (w : World) (hs : t.size ≤ maxLen) (h : RowV w g (srv t 0 false)) :
    Calls Try.prog 100 #[.pointer (some ⟨g, 0, none⟩), .string m] w fun e w' => ∃ p' bad', e = .returned (.tuple #[]) ∧ FstR t m p' bad' ∧ RowV w' g (srv t p' bad') ∧ Only g w w' := by
  by_cases h1 : 1 ≤ t.size
  · obtain ⟨y, hy⟩ := one_byte t h1
    have HB : Hid (Calls Try.prog 103 #[.pointer (some ⟨g, 0, none⟩), .int .i64 1] w fun e w' => e = .returned (.string ⟨#[y]⟩) ∧ RowV w' g (srv t 1 false) ∧ Only g w w') := by
      have := spBytesYes g 0 1 1 t w hs rfl h1 h
      rw [hy] at this
      exact this
    by_cases he : m = ⟨#[y]⟩
    · have HF : Hid (FstR t m 1 false) := ⟨h1, Or.inl ⟨y, he, ⟨h1, hy⟩, rfl, rfl⟩⟩
      rw [← he] at HB
      have e1 := txt_eq m
      clear he hy h
      go_enter Try.func100, Try.ntmps100
      go_wp2_with (first
        | (go_at_call 103; refine Calls.mono HB.out ?_; rintro e w1 ⟨rfl, hR1, hO1⟩))
      first | go_end0 | refine bodyPost_ret (results_none rfl _ _ _) rfl ?_
      exact ⟨1, false, rfl, HF.out, hR1, hO1⟩
    · have HF : Hid (FstR t m 1 true) := ⟨h1, Or.inr ⟨fun ⟨z, hz, hf⟩ => he (by rw [hz, ← hf.2, hy]), rfl⟩⟩
      have e1 : ((⟨#[y]⟩ : ByteArray).toList == m.toList) = false := txt_ne (fun e => he e.symm)
      obtain ⟨M, hM⟩ : ∃ M : ByteArray, M = ⟨#[y]⟩ := ⟨_, rfl⟩
      rw [← hM] at HB e1
      clear he hy h hM
      go_enter Try.func100, Try.ntmps100
      go_wp2_with (first
        | (go_at_call 103; refine Calls.mono HB.out ?_; rintro e w1 ⟨rfl, hR1, hO1⟩; obtain ⟨c0, c1, c2⟩ := hR1.sr)
        | (with_reducible refine wpList_cellB (w := w1) (by with_unfolding_all rfl) 4 (.tmp 10) (.const (.bool true)) (by with_unfolding_all rfl) g 2 (srv t 1 false) (srv t 1 true) true (by with_unfolding_all rfl) (by with_unfolding_all rfl) Try.siz1B hR1 (by simp [srv]) (by with_unfolding_all rfl) ?_; intro wz hAz hBz hFz hSz; have Oz := hO1.trans (Only.set hBz hFz hSz)))
      first | go_end0 | refine bodyPost_ret (results_none rfl _ _ _) rfl ?_
      first | exact ⟨1, true, rfl, HF.out, hAz, Oz⟩ | exact ⟨rfl, 1, Or.inr ⟨HF.out, hAz, Oz⟩⟩
  · have HB : Hid (Calls Try.prog 103 #[.pointer (some ⟨g, 0, none⟩), .int .i64 1] w fun e w' => e = .returned (.string ⟨#[]⟩) ∧ RowV w' g (srv t 0 true) ∧ Only g w w') := spBytesBad g 0 1 t w hs (Nat.zero_le _) (by omega) false (Or.inr (by omega)) h
    have HF : Hid (FstR t m 0 true) := ⟨Nat.zero_le _, Or.inr ⟨fun ⟨z, hz, hf⟩ => h1 hf.1, rfl⟩⟩
    clear h
    by_cases he : m = ⟨#[]⟩
    · rw [← he] at HB
      have e1 := txt_eq m
      clear he
      go_enter Try.func100, Try.ntmps100
      go_wp2_with (first
        | (go_at_call 103; refine Calls.mono HB.out ?_; rintro e w1 ⟨rfl, hR1, hO1⟩))
      first | go_end0 | refine bodyPost_ret (results_none rfl _ _ _) rfl ?_
      exact ⟨0, true, rfl, HF.out, hR1, hO1⟩
    · have e1 : ((⟨#[]⟩ : ByteArray).toList == m.toList) = false := txt_ne (fun e => he e.symm)
      obtain ⟨M, hM⟩ : ∃ M : ByteArray, M = ⟨#[]⟩ := ⟨_, rfl⟩
      rw [← hM] at HB e1
      clear he hM
      go_enter Try.func100, Try.ntmps100
      go_wp2_with (first
        | (go_at_call 103; refine Calls.mono HB.out ?_; rintro e w1 ⟨rfl, hR1, hO1⟩; obtain ⟨c0, c1, c2⟩ := hR1.sr)
        | (with_reducible refine wpList_cellB (w := w1) (by with_unfolding_all rfl) 4 (.tmp 10) (.const (.bool true)) (by with_unfolding_all rfl) g 2 (srv t 0 true) (srv t 0 true) true (by with_unfolding_all rfl) (by with_unfolding_all rfl) Try.siz1B hR1 (by simp [srv]) (by with_unfolding_all rfl) ?_; intro wz hAz hBz hFz hSz; have Oz := hO1.trans (Only.set hBz hFz hSz)))
      first | go_end0 | refine bodyPost_ret (results_none rfl _ _ _) rfl ?_
      first | exact ⟨0, true, rfl, HF.out, hAz, Oz⟩ | exact ⟨rfl, 0, Or.inr ⟨HF.out, hAz, Oz⟩⟩
def doneB (t : ByteArray) (p : Nat) (bad : Bool) : Bool := !bad && decide (p = t.size)
set_option maxRecDepth 100000 in
set_option maxHeartbeats 1000000 in
theorem spDone (g p : Nat) (t : ByteArray) (w : World) (hs : t.size ≤ maxLen) (hp : p ≤ t.size) (bad : Bool) (h : RowV w g (srv t p bad)) :
    Calls Try.prog 105 #[.pointer (some ⟨g, 0, none⟩)] w fun e w' => e = .returned (.bool (doneB t p bad)) ∧ Below w.heap.size w w' := by
  unfold maxLen at hs
  obtain ⟨c0, c1, c2⟩ := h.sr
  clear h
  unfold doneB
  cases bad with
  | true =>
    go_enter Try.func105, Try.ntmps105
    go_wp2_with fail
    go_quiet (fail)
    go_wp2
    go_ret
    exact ⟨rfl, belowN (Below.refl _ _) _⟩
  | false =>
    by_cases hq : p = t.size
    · rw [decide_eq_true hq]
      have e1 : ((p : Int) == (t.size : Int)) = true := by rw [hq]; simp
      have e2 : (p == t.size) = true := by rw [hq]; simp
      clear hq
      go_enter Try.func105, Try.ntmps105
      go_wp2_with fail
      go_quiet (fail)
      go_wp2
      go_ret
      exact ⟨rfl, belowN (Below.refl _ _) _⟩
    · rw [decide_eq_false hq]
      have e1 : ((p : Int) == (t.size : Int)) = false := beq_eq_false_iff_ne.2 (by omega)
      have e2 : (p == t.size) = false := beq_eq_false_iff_ne.2 hq
      clear hq
      go_enter Try.func105, Try.ntmps105
      go_wp2_with fail
      go_quiet (fail)
      go_wp2
      go_ret
      exact ⟨rfl, belowN (Below.refl _ _) _⟩
theorem fst_le {t m : ByteArray} {p : Nat} {d : Bool} (h : Hid (FstR t m p d)) : p ≤ t.size := h.out.1
theorem num_le {t : ByteArray} {p p' : Nat} {d d' : Bool} {n : Int} (h : Hid (NumR t p d n p' d')) : p' ≤ t.size := h.out.1
theorem results_VB {P : Program} {fn : Func} {a b : Tmp} {t : TypeId} {w : World} (h : fn.results = #[.cell a t, .tmp b]) (tmps : Array Value) (g : Nat) (l : List Value) (hx : tmps.getD a undef = .pointer (some ⟨g, 0, none⟩))
    (hl : RowV w g l) (hu : ∃ d, P.underlying t = some d ∧ d.isRow = true) (n : Nat) (hi : (P.info? t).map (·.size) = some n) (hn : l.length = n) (v : Value) (hx2 : tmps.getD b undef = v) :
    (results fn tmps).run P w = .ok (.tuple #[.agg l.toArray, v]) w := by
  obtain ⟨d, hd, hr⟩ := hu
  have := run_loadVar_mid (P := P) w g 0 t l d hl.rng hd hr (by rw [hn]; exact hi)
  rw [Array.getD_eq_getD_getElem?] at hx hx2
  simp [results, h, hx, hx2, asAddr, this]
end Go.Proofs.Ytchfpiadfmnphaa
