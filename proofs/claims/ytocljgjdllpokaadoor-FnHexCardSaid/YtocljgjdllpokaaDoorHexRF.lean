/- What the program's HexRead answers, for every text. The condition: errors.errorType reads as the program's text lays it. -/
import Derived.Test.YtocljgjdllpokaaDoorHexRI
import Derived.Test.YtocljgjdllpokaaDoorFault
namespace Go.Proofs.YtocljgjdllpokaaDoor
open Go.RowKit
set_option linter.unusedVariables false

theorem hexRd_code (s : ByteArray) : (∃ x, hexRd s = ⟨x, 0, 0⟩) ∨ ∃ c, c ≠ 0 ∧ hexRd s = ⟨noText, 0, c⟩ := by
  unfold hexRd
  split
  · exact Or.inr ⟨2, by decide, rfl⟩
  · split
    · exact Or.inl ⟨_, rfl⟩
    · exact Or.inr ⟨3, by decide, rfl⟩

set_option maxRecDepth 100000 in
set_option maxHeartbeats 1000000 in
theorem implHexRead (s : ByteArray) (w : World) (hs : s.size ≤ maxLen) (hH : Handle w) :
    Calls Tryd.prog 19 #[.string s] w fun e w' => e = .returned (tv (hexRd s)) ∧ Below w.heap.size w w' := by
  have hrd := fun w1 => readHex_any s w1 hs
  have HB0 : Hid (Below w.heap.size w (w.alloc (.cells #[.string noText, .int .i64 0, .int .i64 0] 31))) := (Below.refl _ _).alloc (Nat.le_refl _) _
  have HH : Hid (Handle w) := hH
  have cells : ∀ w1 : World, Below (w.alloc (.cells #[.string noText, .int .i64 0, .int .i64 0] 31)).heap.size (w.alloc (.cells #[.string noText, .int .i64 0, .int .i64 0] 31)) w1 →
      Hid (Below w.heap.size w w1) ∧ w.heap.size < w1.heap.size ∧ w1.cell? ⟨w.heap.size, 0, none⟩ = some (.string noText) ∧ w1.cell? ⟨w.heap.size, 1, none⟩ = some (.int .i64 0) ∧ w1.cell? ⟨w.heap.size, 2, none⟩ = some (.int .i64 0) ∧
      w1.frozen? ⟨w.heap.size, 0, none⟩ = false ∧ w1.frozen? ⟨w.heap.size, 1, none⟩ = false ∧ w1.frozen? ⟨w.heap.size, 2, none⟩ = false := by
    intro w1 hb
    exact ⟨HB0.out.trans (hb.mono (by simp)), by have := hb.size; simp at this; omega, (hb.cell (by simp)).trans (by simp), (hb.cell (by simp)).trans (by simp), (hb.cell (by simp)).trans (by simp),
      (hb.frozen (by simp)).trans (by simp), (hb.frozen (by simp)).trans (by simp), (hb.frozen (by simp)).trans (by simp)⟩
  have HC : Hid _ := cells
  clear hH HB0 cells
  rcases hexRd_code s with ⟨x, hg⟩ | ⟨c, hc, hg⟩
  · rw [hg] at hrd ⊢
    have hrv : hr ⟨x, 0, 0⟩ = .tuple #[.string x, .nilIface] := by simp [hr, errV]
    simp only [hrv] at hrd
    have HRD : Hid _ := hrd
    clear hrv hrd hg
    go_enter Tryd.func19, Tryd.ntmps19
    go_wp2_with fail
    refine (HRD.out _).mono ?_
    rintro e w1 ⟨rfl, hb1⟩
    obtain ⟨HB, hz1, c0, c1, c2, f0, f1, f2⟩ := HC.out w1 hb1
    clear HRD HC hb1
    go_wp2
    exact bodyPost_ret (v := .agg #[.string x, .int .i64 0, .int .i64 0]) (by simp [results, Tryd.results19, go_sem, c0, c1, c2]) rfl ⟨rfl, ((HB.out.setCell (Nat.le_refl _) _).setCell (Nat.le_refl _) _).setCell (Nat.le_refl _) _⟩
  · rw [hg] at hrd ⊢
    have hrv : hr ⟨noText, 0, c⟩ = .tuple #[.string noText, .iface 64 (.agg #[.int .i64 c])] := by simp [hr, errV, hc]
    simp only [hrv] at hrd
    have HRD : Hid _ := hrd
    clear hrv hrd hg hc
    go_enter Tryd.func19, Tryd.ntmps19
    go_wp2_with fail
    refine (HRD.out _).mono ?_
    rintro e w1 ⟨rfl, hb1⟩
    obtain ⟨HB, hz1, c0, c1, c2, f0, f1, f2⟩ := HC.out w1 hb1
    have HH1 : Hid (Handle w1) := HH.out.later HH.out.pos HB.out
    clear HRD HC hb1
    go_wp2_with fail
    refine (fault_code c _ HH1.out).mono ?_
    rintro e w2 ⟨rfl, hb2⟩
    have d0 : w2.cell? ⟨w.heap.size, 0, none⟩ = some (.string noText) := (hb2.cell hz1).trans c0
    have d1 : w2.cell? ⟨w.heap.size, 1, none⟩ = some (.int .i64 0) := (hb2.cell hz1).trans c1
    have d2 : w2.cell? ⟨w.heap.size, 2, none⟩ = some (.int .i64 0) := (hb2.cell hz1).trans c2
    have e0 : w2.frozen? ⟨w.heap.size, 0, none⟩ = false := (hb2.frozen hz1).trans f0
    have e1 : w2.frozen? ⟨w.heap.size, 1, none⟩ = false := (hb2.frozen hz1).trans f1
    have e2 : w2.frozen? ⟨w.heap.size, 2, none⟩ = false := (hb2.frozen hz1).trans f2
    have HB2 : Hid (Below w.heap.size w w2) := HB.out.trans (hb2.mono (by omega))
    clear hb2 HH1 HH HB c0 c1 c2 f0 f1 f2
    go_wp2
    exact bodyPost_ret (v := .agg #[.string ⟨#[]⟩, .int .i64 0, .int .i64 c]) (by simp [results, Tryd.results19, go_sem, d0, d1, d2]) rfl ⟨rfl, ((HB2.out.setCell (Nat.le_refl _) _).setCell (Nat.le_refl _) _).setCell (Nat.le_refl _) _⟩
end Go.Proofs.YtocljgjdllpokaaDoor
