/- What the specification's GetText answers, for every text and place. -/
import Derived.Test.YtchfpiadfmnphaaDoorJn4
import Derived.WalkSpells
namespace Go.Proofs.YtchfpiadfmnphaaDoor
open Go.RowKit
set_option linter.unusedVariables false

set_option maxRecDepth 100000 in
set_option maxHeartbeats 1000000 in
theorem specTxt (s : ByteArray) (p : Int) (w : World) (hs : s.size ≤ maxLen) (hp : I64 p) :
    Calls Tryd.prog 98 #[.string s, .int .i64 p] w fun e w' => e = .returned (tv (getT s p)) ∧ Below w.heap.size w w' := by
  have HG : Hid (∀ w1, Calls Tryd.prog 99 #[.string s, .int .i64 p] w1 fun e w' => e = .returned (gv (getN s p)) ∧ Below w1.heap.size w1 w') := fun w1 => specGet s p w1 hs hp
  have HB0 : Hid (Below w.heap.size w (w.alloc (.cells #[.string noText, .int .i64 0, .int .i64 0] 142))) := (Below.refl _ _).alloc (Nat.le_refl _) _
  have cells : ∀ w1 : World, Below (w.alloc (.cells #[.string noText, .int .i64 0, .int .i64 0] 142)).heap.size (w.alloc (.cells #[.string noText, .int .i64 0, .int .i64 0] 142)) w1 →
      Hid (Below w.heap.size w w1) ∧ w.heap.size < w1.heap.size ∧ w1.cell? ⟨w.heap.size, 0, none⟩ = some (.string noText) ∧ w1.cell? ⟨w.heap.size, 1, none⟩ = some (.int .i64 0) ∧ w1.cell? ⟨w.heap.size, 2, none⟩ = some (.int .i64 0) ∧
      w1.frozen? ⟨w.heap.size, 0, none⟩ = false ∧ w1.frozen? ⟨w.heap.size, 1, none⟩ = false ∧ w1.frozen? ⟨w.heap.size, 2, none⟩ = false := by
    intro w1 hb
    exact ⟨HB0.out.trans (hb.mono (by simp)), by have := hb.size; simp at this; omega, (hb.cell (by simp)).trans (by simp), (hb.cell (by simp)).trans (by simp), (hb.cell (by simp)).trans (by simp),
      (hb.frozen (by simp)).trans (by simp), (hb.frozen (by simp)).trans (by simp), (hb.frozen (by simp)).trans (by simp)⟩
  have HC : Hid _ := cells
  unfold maxLen at hs
  clear HB0 cells
  rcases getT_ways s p with ⟨c, hc, hg, ht⟩ | ⟨n, b, hg, hn, hz, hbs, ht⟩ | ⟨m, b, hg, hm, hlt, hz, hbs, ht⟩ | ⟨m, b, hg, hm, hlt, hz, hbs, ht⟩
  · rw [ht]
    rw [hg] at HG
    unfold gv at HG
    have hc' : (c != 0) = true := bne_iff_ne.2 hc
    clear ht hg hc
    go_enter Tryd.func98, Tryd.ntmps98
    go_wp2_with fail
    refine (HG.out _).mono ?_
    rintro e w1 ⟨rfl, hb1⟩
    obtain ⟨HB, hz1, c0, c1, c2, f0, f1, f2⟩ := HC.out w1 hb1
    clear HG HC hb1
    go_wp2
    exact bodyPost_ret (v := .agg #[.string ⟨#[]⟩, .int .i64 0, .int .i64 c]) (by simp [results, Tryd.results98, go_sem, c0, c1, c2, hz1]) rfl ⟨rfl, below_end HB.out (by omega)⟩
  · rw [ht]
    rw [hg] at HG
    unfold gv at HG
    clear ht hg
    rcases hn with hn | hn
    all_goals
      go_enter Tryd.func98, Tryd.ntmps98
      go_wp2_with fail
      refine (HG.out _).mono ?_
      rintro e w1 ⟨rfl, hb1⟩
      obtain ⟨HB, hz1, c0, c1, c2, f0, f1, f2⟩ := HC.out w1 hb1
      clear HG HC hb1
      go_wp2
      exact bodyPost_ret (v := .agg #[.string ⟨#[]⟩, .int .i64 0, .int .i64 3]) (by simp [results, Tryd.results98, go_sem, c0, c1, c2, hz1]) rfl ⟨rfl, below_end HB.out (by omega)⟩
  · rw [ht]
    rw [hg] at HG
    unfold gv at HG
    clear ht hg
    go_enter Tryd.func98, Tryd.ntmps98
    go_wp2_with fail
    refine (HG.out _).mono ?_
    rintro e w1 ⟨rfl, hb1⟩
    obtain ⟨HB, hz1, c0, c1, c2, f0, f1, f2⟩ := HC.out w1 hb1
    clear HG HC hb1
    go_wp2
    exact bodyPost_ret (v := .agg #[.string ⟨#[]⟩, .int .i64 0, .int .i64 4]) (by simp [results, Tryd.results98, go_sem, c0, c1, c2, hz1]) rfl ⟨rfl, below_end HB.out (by omega)⟩
  · rw [ht]
    rw [hg] at HG
    unfold gv at HG
    clear ht hg
    obtain ⟨x, hx⟩ : ∃ x, s.extract b (b + m) = x := ⟨_, rfl⟩
    obtain ⟨q, hq⟩ : ∃ q : Nat, q = b + m := ⟨_, rfl⟩
    have ew : IntKind.i64.wrap ((b : Int) + (m : Int)) = (q : Int) := by simp [IntKind.wrap, IntKind.signed, IntKind.bits]; omega
    have hsl : ∀ w0 : World, (Instr.slice 9 (.string s) (some (.int .i64 (b : Int))) (some (.int .i64 (q : Int))) none).run Tryd.prog w0 = .ok (.string x) w0 := by
      intro w0
      rw [run_slice_string_if w0 9 s .i64 .i64 b q Tryd.underlying9, if_pos ⟨by omega, by omega⟩, if_pos ⟨by omega, by omega⟩, ← hx, hq]
      rfl
    rw [hx]
    rw [← hq]
    have HQ : Hid (q = b + m) := hq
    clear hq hx
    go_enter Tryd.func98, Tryd.ntmps98
    go_wp2_with fail
    refine (HG.out _).mono ?_
    rintro e w1 ⟨rfl, hb1⟩
    obtain ⟨HB, hz1, c0, c1, c2, f0, f1, f2⟩ := HC.out w1 hb1
    clear HG HC hb1
    go_wp2
    go_region
    all_goals go_wp2
    exact bodyPost_ret (v := .agg #[.string x, .int .i64 q, .int .i64 0]) (by simp [results, Tryd.results98, go_sem, c0, c1, c2, hz1]) rfl ⟨rfl, (below_end HB.out (by omega)).drew⟩
end Go.Proofs.YtchfpiadfmnphaaDoor
