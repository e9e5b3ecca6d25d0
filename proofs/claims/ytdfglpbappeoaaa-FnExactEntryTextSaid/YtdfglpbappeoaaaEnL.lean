/- The law FnExactEntryText, walked. -/
import Derived.Test.YtdfglpbappeoaaaEnB
namespace Go.Proofs.Ytdfglpbappeoaaa
open Go.RowKit
set_option linter.unusedVariables false

set_option maxRecDepth 100000 in
set_option maxHeartbeats 2000000 in
theorem lawEntryA (n : ByteArray) (v : Int) (m : ByteArray) (w : World) (hn : n.size ≤ maxLen) (hv : I64 v) (hm : m.size ≤ maxLen) (h1 : 1048576 < n.size) :
    Calls Try.prog 8 #[.string n, .int .i64 v, .string m] w fun r w' => r = .returned (.bool true) ∧ Below w.heap.size w w' := by
  have HS0 : Hid (Sta [] w [] [] w) := Sta.start w
  clear hn hv hm
  go_enter Try.func8, Try.ntmps8
  go_wp2_with fail
  go_ret
  exact ⟨rfl, Sta.fin HS0⟩
set_option maxRecDepth 100000 in
set_option maxHeartbeats 2000000 in
theorem lawEntryB (n : ByteArray) (v : Int) (m : ByteArray) (w : World) (hn : n.size ≤ maxLen) (hv : I64 v) (hm : m.size ≤ maxLen) (h1 : ¬ 1048576 < n.size) (h2 : 1048576 < m.size) :
    Calls Try.prog 8 #[.string n, .int .i64 v, .string m] w fun r w' => r = .returned (.bool true) ∧ Below w.heap.size w w' := by
  have HS0 : Hid (Sta [] w [] [] w) := Sta.start w
  clear hn hv hm
  go_enter Try.func8, Try.ntmps8
  go_wp2_with fail
  go_ret
  exact ⟨rfl, Sta.fin HS0⟩
set_option maxRecDepth 100000 in
set_option maxHeartbeats 2000000 in
theorem lawEntryC (n : ByteArray) (v : Int) (m : ByteArray) (w : World) (hn : n.size ≤ maxLen) (hv : I64 v) (hm : m.size ≤ maxLen) (h1 : ¬ 1048576 < n.size) (h2 : ¬ 1048576 < m.size) :
    Calls Try.prog 8 #[.string n, .int .i64 v, .string m] w fun r w' => r = .returned (.bool true) ∧ Below w.heap.size w w' := by
  have hC1 : ∀ w0, Calls Try.prog 34 #[.string n, .int .i64 v, .string m] w0 fun r w' => r = .returned (.string (entryBy n v m)) ∧ Below w0.heap.size w0 w' := fun w0 => specEntryBy n v m w0 hn hv hm
  have hC2 : ∀ w0, Calls Try.prog 35 #[.string n, .int .i64 v, .string m] w0 fun r w' => r = .returned (.string (entryBy n v m)) ∧ Below w0.heap.size w0 w' := fun w0 => implEntryBy n v m w0 hn hv hm
  generalize entryBy n v m = R at *
  have hrr := txt_eq R
  have HS0 : Hid (Sta [] w [] [] w) := Sta.start w
  clear hn hv hm
  go_enter Try.func8, Try.ntmps8
  go_wp2_with (first
    | (go_at_call 34; (with_reducible refine (hC1 w).mono ?_); rintro r w1 ⟨rfl, hB1⟩; have HS1 := Sta.call HS0 hB1; clear hB1)
    | (go_at_call 35; (with_reducible refine (hC2 w1).mono ?_); rintro r w2 ⟨rfl, hB2⟩; have HS2 := Sta.call HS1 hB2; clear hB2))
  go_ret
  exact ⟨rfl, Sta.fin HS2⟩
theorem lawEntryText (n : ByteArray) (v : Int) (m : ByteArray) (w : World) (hn : n.size ≤ maxLen) (hv : I64 v) (hm : m.size ≤ maxLen) :
    Calls Try.prog 8 #[.string n, .int .i64 v, .string m] w fun r w' => r = .returned (.bool true) ∧ Below w.heap.size w w' := by
  by_cases h1 : 1048576 < n.size
  · exact lawEntryA n v m w hn hv hm h1
  · by_cases h2 : 1048576 < m.size
    · exact lawEntryB n v m w hn hv hm h1 h2
    · exact lawEntryC n v m w hn hv hm h1 h2
end Go.Proofs.Ytdfglpbappeoaaa
