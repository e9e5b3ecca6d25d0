/- DrawDigest: a text of less than 200 bytes; lwAt: a number below most. Neither changes what was there. -/
import Derived.Test.YtdfglpbappeoaabDoorJn3
namespace Go.Proofs.YtdfglpbappeoaabDoor
open Go.RowKit
set_option linter.unusedVariables false

theorem retI {a b : Int} (h : a = b) : Ending.returned (.int .i64 a) = .returned (.int .i64 b) := by rw [h]
set_option maxRecDepth 100000 in
set_option maxHeartbeats 1000000 in
theorem lwAt_any (len cap k m : Nat) (a : Option Addr) (w : World) (hb : Bytes w a len) (hs : len ≤ 9223372036854775807) (hk : k ≤ 1000000) (hm : 0 < m) (hm2 : m ≤ 1000000000) :
    Calls Tryd.prog 12 #[.slice a len cap, .int .i64 (k : Int), .int .i64 (m : Int)] w fun e w' => ∃ v : Nat, e = .returned (.int .i64 (v : Int)) ∧ v < m ∧ w' = w := by
  by_cases h1 : m ≤ 1
  · have d1 : decide ((m : Int) ≤ 1) = true := decide_eq_true (by omega)
    clear hb
    go_enter Tryd.func12, Tryd.ntmps12
    go_wp2
    go_ret
    exact ⟨0, rfl, hm, rfl⟩
  have d1 : decide ((m : Int) ≤ 1) = false := decide_eq_false (by omega)
  by_cases h2 : len = 0
  · subst h2
    clear hb
    go_enter Tryd.func12, Tryd.ntmps12
    go_wp2
    go_ret
    exact ⟨0, rfl, hm, rfl⟩
  have d2 : ((len : Int) == 0) = false := beq_eq_false_iff_ne.2 (by omega)
  obtain ⟨j, hj⟩ : ∃ j, k % len = j := ⟨_, rfl⟩
  have hjl : j < len := by rw [← hj]; exact Nat.mod_lt _ (by omega)
  have ej : (k : Int) % (len : Int) = (j : Int) := by rw [← hj]; norm_cast
  obtain ⟨b, o, z, rfl, hz, hz0, hz1⟩ := hb j hjl
  have hi0 : (0 : Int) ≤ (j : Int) := by omega
  have hi1 : (j : Int) < (len : Int) := by omega
  have hk0 : (0 : Int) ≤ (k : Int) := by omega
  have hl0 : (0 : Int) < (len : Int) := by omega
  have hm0 : (0 : Int) < (m : Int) := by omega
  obtain ⟨q, hq⟩ : ∃ q : Nat, z % (m : Int) = (q : Int) := ⟨(z % (m : Int)).toNat, (Int.toNat_of_nonneg (Int.emod_nonneg _ (by omega))).symm⟩
  have HQ : Hid (q < m) := by
    have := Int.emod_lt_of_pos z hm0
    show q < m
    omega
  clear hb hj
  go_enter Tryd.func12, Tryd.ntmps12
  go_wp2
  go_ret
  exact ⟨q, retI hq, HQ.out, rfl⟩
end Go.Proofs.YtdfglpbappeoaabDoor
