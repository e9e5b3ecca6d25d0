/- The program's cursor: must, number, bytes, pass. -/
import Derived.Test.YtdfglpbappeoaaaOnly
import Derived.Test.YtdfglpbappeoaaaTxtI
namespace Go.Proofs.Ytdfglpbappeoaaa
open Go.RowKit
set_option linter.unusedVariables false

abbrev faultV : Value := .iface 164 (.agg #[.int .i64 3])
theorem mustYes (x : Option Addr) (w : World) : Calls Try.prog 110 #[.pointer x, .bool true] w fun e w' => e = .returned (.tuple #[]) ∧ w = w' := by
  go_enter Try.func110, Try.ntmps110
  go_wp2
  first | go_end0 | refine bodyPost_ret (results_none rfl _ _ _) rfl ?_
  exact ⟨rfl, rfl⟩
theorem mustNo (x : Option Addr) (w : World) : Calls Try.prog 110 #[.pointer x, .bool false] w fun e w' => e = .panicked [{ v := faultV, recovered := false }] ∧ w = w' := by
  go_enter Try.func110, Try.ntmps110
  go_wp2
  exact ⟨rfl, rfl, rfl⟩
theorem rv_no {s : ByteArray} {p c : Int} (hc : c ≠ 0) (h : getN s p = ⟨0, 0, c⟩) : rv (getN s p) = .tuple #[.int .i64 0, .int .i64 0, .iface 164 (.agg #[.int .i64 c])] := rv_bad h hc
set_option maxRecDepth 100000 in
set_option maxHeartbeats 1000000 in
theorem numberYes (g b : Nat) (t : ByteArray) (p n : Int) (w : World) (hp : I64 p) (hs : t.size ≤ maxLen) (hg : getN t p = ⟨n, b, 0⟩) (h : RowV w g (cuv t p)) :
    Calls Try.prog 111 #[.pointer (some ⟨g, 0, none⟩)] w fun e w' => e = .returned (.int .i64 n) ∧ RowV w' g (cuv t b) ∧ Only g w w' := by
  have hN : ∀ w0, Calls Try.prog 143 #[.string t, .int .i64 p] w0 fun e w' => e = .returned (.tuple #[.int .i64 n, .int .i64 (b : Int), .nilIface]) ∧ w' = w0 := fun w0 => by
    have := readNum_any t p w0 hs hp
    rw [rv_good hg] at this
    exact this
  have hM : ∀ w0, Calls Try.prog 110 #[.pointer (some ⟨g, 0, none⟩), .bool true] w0 fun e w' => e = .returned (.tuple #[]) ∧ w0 = w' := fun w0 => mustYes _ w0
  obtain ⟨c0, c1⟩ := h.cu
  have HR : Hid (RowV w g (cuv t p)) := h
  clear h hg
  go_enter Try.func111, Try.ntmps111
  go_wp2_with fail
  go_quiet (first | (go_at_call 143; exact Calls.quiet_of_same (hN _)))
  have R1 : RowV (w.drewN nq) g (cuv t p) := HR.out.drewN _
  have O1 : Only g w (w.drewN nq) := ⟨belowN (Below.refl _ _) _, fun _ _ _ => rfl, Nat.le_refl _⟩
  clear HR c0 c1
  generalize w.drewN nq = w1 at *
  go_wp2_with (first
    | (go_at_call 110; with_reducible refine (hM _).mono ?_; rintro e w' ⟨rfl, rfl⟩)
    | (with_reducible refine wpList_cellH (w := w1) (by with_unfolding_all rfl) 2 (.tmp 26) (.tmp 24) (by with_unfolding_all rfl) g 1 (cuv t p) (cuv t b) (.int .i64 (b : Int)) (by with_unfolding_all rfl) (by with_unfolding_all rfl) rfl Try.siz1I R1 (by simp [cuv]) (by with_unfolding_all rfl) ?_; intro w2 hA2 hB2 hF2 hS2))
  go_ret
  exact ⟨rfl, hA2, O1.trans (Only.set hB2 hF2 hS2)⟩
set_option maxRecDepth 100000 in
set_option maxHeartbeats 1000000 in
theorem numberNo (g : Nat) (t : ByteArray) (p c : Int) (w : World) (hp : I64 p) (hs : t.size ≤ maxLen) (hc : c ≠ 0) (hg : getN t p = ⟨0, 0, c⟩) (h : RowV w g (cuv t p)) :
    Calls Try.prog 111 #[.pointer (some ⟨g, 0, none⟩)] w fun e w' => e = .panicked [{ v := faultV, recovered := false }] ∧ Only g w w' := by
  have hN : ∀ w0, Calls Try.prog 143 #[.string t, .int .i64 p] w0 fun e w' => e = .returned (.tuple #[.int .i64 0, .int .i64 0, .iface 164 (.agg #[.int .i64 c])]) ∧ w' = w0 := fun w0 => by
    have := readNum_any t p w0 hs hp
    rw [rv_no hc hg] at this
    exact this
  have hM : ∀ w0, Calls Try.prog 110 #[.pointer (some ⟨g, 0, none⟩), .bool false] w0 fun e w' => e = .panicked [{ v := faultV, recovered := false }] ∧ w0 = w' := fun w0 => mustNo _ w0
  obtain ⟨c0, c1⟩ := h.cu
  clear h hg hc
  go_enter Try.func111, Try.ntmps111
  go_wp2_with fail
  go_quiet (first | (go_at_call 143; exact Calls.quiet_of_same (hN _)))
  have O1 : Only g w (w.drewN nq) := ⟨belowN (Below.refl _ _) _, fun _ _ _ => rfl, Nat.le_refl _⟩
  clear c0 c1
  generalize w.drewN nq = w1 at *
  go_wp2_with (first
    | (go_at_call 110; with_reducible refine (hM _).mono ?_; rintro e w' ⟨rfl, rfl⟩))
  exact ⟨rfl, rfl, O1⟩
end Go.Proofs.Ytdfglpbappeoaaa
