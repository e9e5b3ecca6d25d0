/- What the program's GetNum answers, for every text and place. The condition: errors.errorType reads as the program's text lays it. -/
import Derived.Test.YtocljgjdllpokaaDoorRead
import Derived.Test.YtocljgjdllpokaaDoorFault
namespace Go.Proofs.YtocljgjdllpokaaDoor
open Go.RowKit
set_option linter.unusedVariables false

/- The code is 0, with a number; or it is not, with none. -/
theorem fin_code (a i u c : Nat) : (fin a i u c).code = 0 ∨ fin a i u c = ⟨0, 0, 3⟩ := by
  unfold fin; split
  · exact Or.inr rfl
  · exact Or.inl rfl
theorem scan_code (s : ByteArray) (a : Nat) : ∀ f i u, (scan s a f i u).code = 0 ∨ ∃ c, c ≠ 0 ∧ scan s a f i u = ⟨0, 0, c⟩
  | 0, _, _ => Or.inr ⟨3, by decide, rfl⟩
  | f + 1, i, u => by
    unfold scan
    split
    · split
      · rcases fin_code a i u _ with h | h
        · exact Or.inl h
        · exact Or.inr ⟨3, by decide, h⟩
      · exact scan_code s a f _ _
    · exact Or.inr ⟨4, by decide, rfl⟩
theorem getN_code (s : ByteArray) (p : Int) : (getN s p).code = 0 ∨ ∃ c, c ≠ 0 ∧ getN s p = ⟨0, 0, c⟩ := by
  unfold getN
  split
  · exact Or.inr ⟨2, by decide, rfl⟩
  · split
    · exact Or.inr ⟨1, by decide, rfl⟩
    · exact scan_code s _ _ _ _

set_option maxRecDepth 100000 in
set_option maxHeartbeats 1000000 in
theorem implGet (s : ByteArray) (p : Int) (w : World) (hs : s.size ≤ maxLen) (hp : I64 p) (hH : Handle w) :
    Calls Tryd.prog 11 #[.string s, .int .i64 p] w fun e w' => e = .returned (gv (getN s p)) ∧ Below w.heap.size w w' := by
  have hrd := fun w1 => readNum_any s p w1 hs hp
  have HB : Hid (Below w.heap.size w (w.alloc (.cells #[.int .i64 0, .int .i64 0, .int .i64 0] 26))) := (Below.refl _ _).alloc (Nat.le_refl _) _
  have HH : Hid (Handle (w.alloc (.cells #[.int .i64 0, .int .i64 0, .int .i64 0] 26))) := hH.later hH.pos HB.out
  clear hH
  rcases getN_code s p with hc | ⟨c, hc, hg⟩
  · have hrv : rv (getN s p) = .tuple #[.int .i64 (getN s p).n, .int .i64 (getN s p).behind, .nilIface] := by simp [rv, errV, hc]
    have hgv : gv (getN s p) = .agg #[.int .i64 (getN s p).n, .int .i64 (getN s p).behind, .int .i64 0] := by simp [gv, hc]
    rw [hgv]
    simp only [hrv] at hrd
    have HRD : Hid _ := hrd
    clear hrv hgv hc hrd
    generalize (getN s p).n = n at *
    generalize (getN s p).behind = b at *
    go_enter Tryd.func11, Tryd.ntmps11
    go_wp2_with fail
    refine (HRD.out _).mono ?_
    rintro e w1 ⟨rfl, rfl⟩
    clear HRD
    go_wp2
    exact bodyPost_ret (v := .agg #[.int .i64 n, .int .i64 b, .int .i64 0]) (by simp [results, Tryd.results11, go_sem]) rfl ⟨rfl, (Below.refl _ _).alloc (Nat.le_refl _) _⟩
  · rw [hg] at hrd ⊢
    have hrv : rv ⟨0, 0, c⟩ = .tuple #[.int .i64 0, .int .i64 0, .iface 64 (.agg #[.int .i64 c])] := rv_bad rfl hc
    simp only [hrv] at hrd
    have HRD : Hid _ := hrd
    clear hrv hrd hg hc
    go_enter Tryd.func11, Tryd.ntmps11
    go_wp2_with fail
    refine (HRD.out _).mono ?_
    rintro e w1 ⟨rfl, rfl⟩
    clear HRD
    go_wp2_with fail
    refine (fault_code c _ HH.out).mono ?_
    rintro e w2 ⟨rfl, hb2⟩
    have c0 : w2.cell? ⟨w.heap.size, 0, none⟩ = some (.int .i64 0) := (hb2.cell (by simp)).trans (by simp)
    have c1 : w2.cell? ⟨w.heap.size, 1, none⟩ = some (.int .i64 0) := (hb2.cell (by simp)).trans (by simp)
    have c2 : w2.cell? ⟨w.heap.size, 2, none⟩ = some (.int .i64 0) := (hb2.cell (by simp)).trans (by simp)
    have f0 : w2.frozen? ⟨w.heap.size, 0, none⟩ = false := (hb2.frozen (by simp)).trans (by simp)
    have f1 : w2.frozen? ⟨w.heap.size, 1, none⟩ = false := (hb2.frozen (by simp)).trans (by simp)
    have f2 : w2.frozen? ⟨w.heap.size, 2, none⟩ = false := (hb2.frozen (by simp)).trans (by simp)
    have HB2 : Hid (Below w.heap.size w w2) := HB.out.trans (hb2.mono (by simp))
    clear hb2 HH HB
    go_wp2
    exact bodyPost_ret (v := .agg #[.int .i64 0, .int .i64 0, .int .i64 c]) (by simp [results, Tryd.results11, go_sem, c0, c1, c2]) rfl ⟨rfl, ((HB2.out.setCell (Nat.le_refl _) _).setCell (Nat.le_refl _) _).setCell (Nat.le_refl _) _⟩
end Go.Proofs.YtocljgjdllpokaaDoor
