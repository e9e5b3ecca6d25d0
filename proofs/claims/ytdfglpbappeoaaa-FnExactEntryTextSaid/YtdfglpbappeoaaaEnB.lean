/- EntryText, on both sides. -/
import Derived.Test.YtdfglpbappeoaaaHdR
import Derived.Test.YtdfglpbappeoaaaTy
import Derived.Test.YtdfglpbappeoaaaPutT
import Derived.Test.YtdfglpbappeoaaaTgI
import Derived.Deep.RegionHeld3
namespace Go.Proofs.Ytdfglpbappeoaaa
open Go.RowKit
set_option linter.unusedVariables false

def entryBy (n : ByteArray) (v : Int) (m : ByteArray) : ByteArray := if nameB n && (verB v && decide (m.size = 32)) then ((⟨#[69]⟩ ++ putT n) ++ putS v) ++ m else ⟨#[]⟩
theorem putT_any (n : ByteArray) : (putT n).size ≤ 20010 := by
  unfold putT
  split
  · exact Nat.zero_le _
  · rw [ByteArray.size_append]
    have := putS_size n.size
    omega
set_option maxRecDepth 100000 in
set_option maxHeartbeats 2000000 in
theorem specEntryBy_a (n : ByteArray) (v : Int) (m : ByteArray) (w : World) (hn : n.size ≤ maxLen) (hv : I64 v) (hm : m.size ≤ maxLen) (h1 : nameB n = false) :
    Calls Try.prog 34 #[.string n, .int .i64 v, .string m] w fun r w' => r = .returned (.string (entryBy n v m)) ∧ Below w.heap.size w w' := by
  have HF : Hid (entryBy n v m = ⟨#[]⟩) := by show _ = _; unfold entryBy; rw [if_neg (by simp [h1])]
  have hC1 : ∀ w0, Calls Try.prog 76 #[.string n] w0 fun r w' => r = .returned (.bool false) ∧ w0 = w' := fun w0 => by rw [← h1]; exact ((specNameB n w0 hn).mono fun _ _ h => ⟨h.1, h.2.symm⟩)
  generalize entryBy n v m = R at *
  have HS0 : Hid (Sta [] w [] [] w) := Sta.start w
  clear hn hv hm h1
  go_enter Try.func34, Try.ntmps34
  go_wp2_with (first
    | (go_at_call 76; (with_reducible refine (hC1 w).mono ?_); rintro r w' ⟨rfl, rfl⟩))
  go_ret
  exact ⟨by rw [HF.out]; rfl, Sta.fin HS0⟩
set_option maxRecDepth 100000 in
set_option maxHeartbeats 2000000 in
theorem specEntryBy_b (n : ByteArray) (v : Int) (m : ByteArray) (w : World) (hn : n.size ≤ maxLen) (hv : I64 v) (hm : m.size ≤ maxLen) (h1 : nameB n = true) (h2 : verB v = false) :
    Calls Try.prog 34 #[.string n, .int .i64 v, .string m] w fun r w' => r = .returned (.string (entryBy n v m)) ∧ Below w.heap.size w w' := by
  have HF : Hid (entryBy n v m = ⟨#[]⟩) := by show _ = _; unfold entryBy; rw [if_neg (by simp [h1, h2])]
  have hC1 : ∀ w0, Calls Try.prog 76 #[.string n] w0 fun r w' => r = .returned (.bool true) ∧ w0 = w' := fun w0 => by rw [← h1]; exact ((specNameB n w0 hn).mono fun _ _ h => ⟨h.1, h.2.symm⟩)
  have hC2 : ∀ w0, Calls Try.prog 58 #[.int .i64 v] w0 fun r w' => r = .returned (.bool false) ∧ w0 = w' := fun w0 => by rw [← h2]; exact specVer v w0
  generalize entryBy n v m = R at *
  have HS0 : Hid (Sta [] w [] [] w) := Sta.start w
  clear hn hv hm h1 h2
  go_enter Try.func34, Try.ntmps34
  go_wp2_with (first
    | (go_at_call 76; (with_reducible refine (hC1 w).mono ?_); rintro r w' ⟨rfl, rfl⟩)
    | (go_at_call 58; (with_reducible refine (hC2 w).mono ?_); rintro r w' ⟨rfl, rfl⟩))
  go_ret
  exact ⟨by rw [HF.out]; rfl, Sta.fin HS0⟩
set_option maxRecDepth 100000 in
set_option maxHeartbeats 2000000 in
theorem specEntryBy_c (n : ByteArray) (v : Int) (m : ByteArray) (w : World) (hn : n.size ≤ maxLen) (hv : I64 v) (hm : m.size ≤ maxLen) (h1 : nameB n = true) (h2 : verB v = true) (h3 : decide (m.size = 32) = false) :
    Calls Try.prog 34 #[.string n, .int .i64 v, .string m] w fun r w' => r = .returned (.string (entryBy n v m)) ∧ Below w.heap.size w w' := by
  have HF : Hid (entryBy n v m = ⟨#[]⟩) := by show _ = _; unfold entryBy; rw [if_neg (by simp [h1, h2, h3])]
  have hC1 : ∀ w0, Calls Try.prog 76 #[.string n] w0 fun r w' => r = .returned (.bool true) ∧ w0 = w' := fun w0 => by rw [← h1]; exact ((specNameB n w0 hn).mono fun _ _ h => ⟨h.1, h.2.symm⟩)
  have hC2 : ∀ w0, Calls Try.prog 58 #[.int .i64 v] w0 fun r w' => r = .returned (.bool true) ∧ w0 = w' := fun w0 => by rw [← h2]; exact specVer v w0
  have hC3 : ∀ w0, Calls Try.prog 77 #[.string m] w0 fun r w' => r = .returned (.bool false) ∧ w0 = w' := fun w0 => by rw [← h3]; exact hdHash m w0 hm
  generalize entryBy n v m = R at *
  have HS0 : Hid (Sta [] w [] [] w) := Sta.start w
  clear hn hv hm h1 h2 h3
  go_enter Try.func34, Try.ntmps34
  go_wp2_with (first
    | (go_at_call 76; (with_reducible refine (hC1 w).mono ?_); rintro r w' ⟨rfl, rfl⟩)
    | (go_at_call 58; (with_reducible refine (hC2 w).mono ?_); rintro r w' ⟨rfl, rfl⟩)
    | (go_at_call 77; (with_reducible refine (hC3 w).mono ?_); rintro r w' ⟨rfl, rfl⟩))
  go_ret
  exact ⟨by rw [HF.out]; rfl, Sta.fin HS0⟩
set_option maxRecDepth 100000 in
set_option maxHeartbeats 2000000 in
theorem specEntryBy_d (n : ByteArray) (v : Int) (m : ByteArray) (w : World) (hn : n.size ≤ maxLen) (hv : I64 v) (hm : m.size ≤ maxLen) (h1 : nameB n = true) (h2 : verB v = true) (h3 : decide (m.size = 32) = true) :
    Calls Try.prog 34 #[.string n, .int .i64 v, .string m] w fun r w' => r = .returned (.string (entryBy n v m)) ∧ Below w.heap.size w w' := by
  have HF : Hid (entryBy n v m = ((⟨#[69]⟩ ++ putT n) ++ putS v) ++ m) := by show _ = _; unfold entryBy; rw [if_pos (by simp only [h1, h2, h3]; rfl)]
  have z1 := putT_any n
  have z2 := putS_size v
  have z3 := of_decide_eq_true h3
  have hC1 : ∀ w0, Calls Try.prog 76 #[.string n] w0 fun r w' => r = .returned (.bool true) ∧ w0 = w' := fun w0 => by rw [← h1]; exact ((specNameB n w0 hn).mono fun _ _ h => ⟨h.1, h.2.symm⟩)
  have hC2 : ∀ w0, Calls Try.prog 58 #[.int .i64 v] w0 fun r w' => r = .returned (.bool true) ∧ w0 = w' := fun w0 => by rw [← h2]; exact specVer v w0
  have hC3 : ∀ w0, Calls Try.prog 77 #[.string m] w0 fun r w' => r = .returned (.bool true) ∧ w0 = w' := fun w0 => by rw [← h3]; exact hdHash m w0 hm
  have hC4 : ∀ w0, Calls Try.prog 78 #[.string n] w0 fun r w' => r = .returned (.string (putT n)) ∧ Below w0.heap.size w0 w' := fun w0 => specPutT n w0 hn
  have hC5 : ∀ w0, Calls Try.prog 70 #[.int .i64 v] w0 fun r w' => r = .returned (.string (putS v)) ∧ Below w0.heap.size w0 w' := fun w0 => specPut v w0 hv
  clear h1 h2 h3
  obtain ⟨X, hX⟩ : ∃ X, (⟨#[69]⟩ : ByteArray) ++ putT n = X := ⟨_, rfl⟩
  have hXs : X.size ≤ 20011 := by rw [← hX, ByteArray.size_append]; show 1 + _ ≤ _; omega
  obtain ⟨Y, hY⟩ : ∃ Y, X ++ putS v = Y := ⟨_, rfl⟩
  have hYs : Y.size ≤ 20021 := by rw [← hY, ByteArray.size_append]; omega
  rw [hX, hY] at HF
  generalize putT n = pn at *
  generalize putS v = pv at *
  generalize entryBy n v m = R at *
  have y1 : ¬ 9223372036854775807 < 1 + pn.size := by omega
  have y2 : ¬ 9223372036854775807 < X.size + pv.size := by omega
  have y3 : ¬ 9223372036854775807 < Y.size + m.size := by omega
  have HS0 : Hid (Sta [] w [] [] w) := Sta.start w
  clear hn hv hm z1 z2 z3
  go_enter Try.func34, Try.ntmps34
  go_wp2_with (first
    | (go_at_call 76; (with_reducible refine (hC1 w).mono ?_); rintro r w' ⟨rfl, rfl⟩)
    | (go_at_call 58; (with_reducible refine (hC2 w).mono ?_); rintro r w' ⟨rfl, rfl⟩)
    | (go_at_call 77; (with_reducible refine (hC3 w).mono ?_); rintro r w' ⟨rfl, rfl⟩)
    | (go_at_call 78; (with_reducible refine (hC4 w).mono ?_); rintro r w4 ⟨rfl, hB4⟩; have HS4 := Sta.call HS0 hB4; clear hB4)
    | (go_at_call 70; (with_reducible refine (hC5 w4).mono ?_); rintro r w5 ⟨rfl, hB5⟩; have HS5 := Sta.call HS4 hB5; clear hB5))
  go_ret
  exact ⟨by rw [HF.out]; rfl, Sta.fin HS5⟩
theorem specEntryBy (n : ByteArray) (v : Int) (m : ByteArray) (w : World) (hn : n.size ≤ maxLen) (hv : I64 v) (hm : m.size ≤ maxLen) :
    Calls Try.prog 34 #[.string n, .int .i64 v, .string m] w fun r w' => r = .returned (.string (entryBy n v m)) ∧ Below w.heap.size w w' := by
  cases h1 : nameB n with
  | false => exact specEntryBy_a n v m w hn hv hm h1
  | true =>
    cases h2 : verB v with
    | false => exact specEntryBy_b n v m w hn hv hm h1 h2
    | true =>
      cases h3 : decide (m.size = 32) with
      | false => exact specEntryBy_c n v m w hn hv hm h1 h2 h3
      | true => exact specEntryBy_d n v m w hn hv hm h1 h2 h3
set_option maxRecDepth 100000 in
set_option maxHeartbeats 2000000 in
theorem implEntryBy_a (n : ByteArray) (v : Int) (m : ByteArray) (w : World) (hn : n.size ≤ maxLen) (hv : I64 v) (hm : m.size ≤ maxLen) (h1 : nameB n = false) :
    Calls Try.prog 35 #[.string n, .int .i64 v, .string m] w fun r w' => r = .returned (.string (entryBy n v m)) ∧ Below w.heap.size w w' := by
  have HF : Hid (entryBy n v m = ⟨#[]⟩) := by show _ = _; unfold entryBy; rw [if_neg (by simp [h1])]
  have hC1 : ∀ w0, Calls Try.prog 79 #[.string n] w0 fun r w' => r = .returned (.bool false) ∧ w0 = w' := fun w0 => by rw [← h1]; exact (implNameB n w0 hn)
  generalize entryBy n v m = R at *
  have HS0 : Hid (Sta [] w [] [] w) := Sta.start w
  clear hn hv hm h1
  go_enter Try.func35, Try.ntmps35
  go_wp2_with (first
    | (go_at_call 79; (with_reducible refine (hC1 w).mono ?_); rintro r w' ⟨rfl, rfl⟩))
  go_ret
  exact ⟨by rw [HF.out]; rfl, Sta.fin HS0⟩
set_option maxRecDepth 100000 in
set_option maxHeartbeats 2000000 in
theorem implEntryBy_b (n : ByteArray) (v : Int) (m : ByteArray) (w : World) (hn : n.size ≤ maxLen) (hv : I64 v) (hm : m.size ≤ maxLen) (h1 : nameB n = true) (h2 : verB v = false) :
    Calls Try.prog 35 #[.string n, .int .i64 v, .string m] w fun r w' => r = .returned (.string (entryBy n v m)) ∧ Below w.heap.size w w' := by
  have HF : Hid (entryBy n v m = ⟨#[]⟩) := by show _ = _; unfold entryBy; rw [if_neg (by simp [h1, h2])]
  have hC1 : ∀ w0, Calls Try.prog 79 #[.string n] w0 fun r w' => r = .returned (.bool true) ∧ w0 = w' := fun w0 => by rw [← h1]; exact (implNameB n w0 hn)
  have hC2 : ∀ w0, Calls Try.prog 63 #[.int .i64 v] w0 fun r w' => r = .returned (.bool false) ∧ w0 = w' := fun w0 => by rw [← h2]; exact implVer v w0
  generalize entryBy n v m = R at *
  have HS0 : Hid (Sta [] w [] [] w) := Sta.start w
  clear hn hv hm h1 h2
  go_enter Try.func35, Try.ntmps35
  go_wp2_with (first
    | (go_at_call 79; (with_reducible refine (hC1 w).mono ?_); rintro r w' ⟨rfl, rfl⟩)
    | (go_at_call 63; (with_reducible refine (hC2 w).mono ?_); rintro r w' ⟨rfl, rfl⟩))
  go_ret
  exact ⟨by rw [HF.out]; rfl, Sta.fin HS0⟩
set_option maxRecDepth 100000 in
set_option maxHeartbeats 2000000 in
theorem implEntryBy_c (n : ByteArray) (v : Int) (m : ByteArray) (w : World) (hn : n.size ≤ maxLen) (hv : I64 v) (hm : m.size ≤ maxLen) (h1 : nameB n = true) (h2 : verB v = true) (h3 : decide (m.size = 32) = false) :
    Calls Try.prog 35 #[.string n, .int .i64 v, .string m] w fun r w' => r = .returned (.string (entryBy n v m)) ∧ Below w.heap.size w w' := by
  have HF : Hid (entryBy n v m = ⟨#[]⟩) := by show _ = _; unfold entryBy; rw [if_neg (by simp [h1, h2, h3])]
  have hC1 : ∀ w0, Calls Try.prog 79 #[.string n] w0 fun r w' => r = .returned (.bool true) ∧ w0 = w' := fun w0 => by rw [← h1]; exact (implNameB n w0 hn)
  have hC2 : ∀ w0, Calls Try.prog 63 #[.int .i64 v] w0 fun r w' => r = .returned (.bool true) ∧ w0 = w' := fun w0 => by rw [← h2]; exact implVer v w0
  have hC3 : ∀ w0, Calls Try.prog 80 #[.string m] w0 fun r w' => r = .returned (.bool false) ∧ w0 = w' := fun w0 => by rw [← h3]; exact hdSized m w0 hm
  generalize entryBy n v m = R at *
  have HS0 : Hid (Sta [] w [] [] w) := Sta.start w
  clear hn hv hm h1 h2 h3
  go_enter Try.func35, Try.ntmps35
  go_wp2_with (first
    | (go_at_call 79; (with_reducible refine (hC1 w).mono ?_); rintro r w' ⟨rfl, rfl⟩)
    | (go_at_call 63; (with_reducible refine (hC2 w).mono ?_); rintro r w' ⟨rfl, rfl⟩)
    | (go_at_call 80; (with_reducible refine (hC3 w).mono ?_); rintro r w' ⟨rfl, rfl⟩))
  go_ret
  exact ⟨by rw [HF.out]; rfl, Sta.fin HS0⟩
set_option maxRecDepth 100000 in
set_option maxHeartbeats 2000000 in
theorem implEntryBy_d (n : ByteArray) (v : Int) (m : ByteArray) (w : World) (hn : n.size ≤ maxLen) (hv : I64 v) (hm : m.size ≤ maxLen) (h1 : nameB n = true) (h2 : verB v = true) (h3 : decide (m.size = 32) = true) :
    Calls Try.prog 35 #[.string n, .int .i64 v, .string m] w fun r w' => r = .returned (.string (entryBy n v m)) ∧ Below w.heap.size w w' := by
  have HF : Hid (entryBy n v m = ((⟨#[69]⟩ ++ putT n) ++ putS v) ++ m) := by show _ = _; unfold entryBy; rw [if_pos (by simp only [h1, h2, h3]; rfl)]
  have z1 := putT_any n
  have z2 := putS_size v
  have z3 := of_decide_eq_true h3
  have hC1 : ∀ w0, Calls Try.prog 79 #[.string n] w0 fun r w' => r = .returned (.bool true) ∧ w0 = w' := fun w0 => by rw [← h1]; exact (implNameB n w0 hn)
  have hC2 : ∀ w0, Calls Try.prog 63 #[.int .i64 v] w0 fun r w' => r = .returned (.bool true) ∧ w0 = w' := fun w0 => by rw [← h2]; exact implVer v w0
  have hC3 : ∀ w0, Calls Try.prog 80 #[.string m] w0 fun r w' => r = .returned (.bool true) ∧ w0 = w' := fun w0 => by rw [← h3]; exact hdSized m w0 hm
  have hC4 : ∀ w0, Calls Try.prog 81 #[.string n] w0 fun r w' => r = .returned (.string (putT n)) ∧ Below w0.heap.size w0 w' := fun w0 => implPutT n w0 hn
  have hC5 : ∀ w0, Calls Try.prog 72 #[.int .i64 v] w0 fun r w' => r = .returned (.string (putS v)) ∧ Below w0.heap.size w0 w' := fun w0 => implPut v w0 hv
  clear h1 h2 h3
  obtain ⟨X, hX⟩ : ∃ X, (⟨#[69]⟩ : ByteArray) ++ putT n = X := ⟨_, rfl⟩
  have hXs : X.size ≤ 20011 := by rw [← hX, ByteArray.size_append]; show 1 + _ ≤ _; omega
  obtain ⟨Y, hY⟩ : ∃ Y, X ++ putS v = Y := ⟨_, rfl⟩
  have hYs : Y.size ≤ 20021 := by rw [← hY, ByteArray.size_append]; omega
  rw [hX, hY] at HF
  generalize putT n = pn at *
  generalize putS v = pv at *
  generalize entryBy n v m = R at *
  have y1 : ¬ 9223372036854775807 < 1 + pn.size := by omega
  have y2 : ¬ 9223372036854775807 < X.size + pv.size := by omega
  have y3 : ¬ 9223372036854775807 < Y.size + m.size := by omega
  have HS0 : Hid (Sta [] w [] [] w) := Sta.start w
  clear hn hv hm z1 z2 z3
  go_enter Try.func35, Try.ntmps35
  go_wp2_with (first
    | (go_at_call 79; (with_reducible refine (hC1 w).mono ?_); rintro r w' ⟨rfl, rfl⟩)
    | (go_at_call 63; (with_reducible refine (hC2 w).mono ?_); rintro r w' ⟨rfl, rfl⟩)
    | (go_at_call 80; (with_reducible refine (hC3 w).mono ?_); rintro r w' ⟨rfl, rfl⟩)
    | (go_at_call 81; (with_reducible refine (hC4 w).mono ?_); rintro r w4 ⟨rfl, hB4⟩; have HS4 := Sta.call HS0 hB4; clear hB4)
    | (go_at_call 72; (with_reducible refine (hC5 w4).mono ?_); rintro r w5 ⟨rfl, hB5⟩; have HS5 := Sta.call HS4 hB5; clear hB5))
  go_ret
  exact ⟨by rw [HF.out]; rfl, Sta.fin HS5⟩
theorem implEntryBy (n : ByteArray) (v : Int) (m : ByteArray) (w : World) (hn : n.size ≤ maxLen) (hv : I64 v) (hm : m.size ≤ maxLen) :
    Calls Try.prog 35 #[.string n, .int .i64 v, .string m] w fun r w' => r = .returned (.string (entryBy n v m)) ∧ Below w.heap.size w w' := by
  cases h1 : nameB n with
  | false => exact implEntryBy_a n v m w hn hv hm h1
  | true =>
    cases h2 : verB v with
    | false => exact implEntryBy_b n v m w hn hv hm h1 h2
    | true =>
      cases h3 : decide (m.size = 32) with
      | false => exact implEntryBy_c n v m w hn hv hm h1 h2 h3
      | true => exact implEntryBy_d n v m w hn hv hm h1 h2 h3
end Go.Proofs.Ytdfglpbappeoaaa
