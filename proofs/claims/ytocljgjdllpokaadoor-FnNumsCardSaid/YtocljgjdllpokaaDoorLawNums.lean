/- The law FnNums, walked: a drawn number, or text, is got back from its bytes, with the place behind it; of bytes that end too early nothing is got. The condition: errors.errorType reads as the program's text lays it. -/
import Derived.Test.YtocljgjdllpokaaDoorNumRt
import Derived.Test.YtocljgjdllpokaaDoorDraw1
import Derived.Test.YtocljgjdllpokaaDoorTxtF
import Derived.WalkLawsBesides
namespace Go.Proofs.YtocljgjdllpokaaDoor
open Go.RowKit
set_option linter.unusedVariables false

theorem field_num (a b c : Value) (w : World) : (Instr.field 26 (.agg #[a, b, c]) 2).run Tryd.prog w = .ok c w := by kernel_rfl
theorem field_text (a b c : Value) (w : World) : (Instr.field 31 (.agg #[a, b, c]) 2).run Tryd.prog w = .ok c w := by kernel_rfl
theorem toList_length (q : ByteArray) : q.toList.length = q.size := by
  rw [ByteArray.toList_eq]; simp

set_option maxRecDepth 100000 in
set_option maxHeartbeats 4000000 in
theorem lawNums (l0 c0 l1 c1 : Nat) (a0 a1 : Option Addr) (w : World) (hb0 : Bytes w a0 l0) (hs0 : l0 ≤ 9223372036854775807)
    (hb1 : Bytes w a1 l1) (hs1 : l1 ≤ 9223372036854775807) (hH : Handle w) :
    Calls Tryd.prog 3 #[.slice a0 l0 c0, .slice a1 l1 c1] w fun e w' => e = .returned (.bool true) ∧ Below w.heap.size w w' := by
  by_cases hbig : 1048576 < l0
  · clear hb0 hb1 hH
    go_enter Tryd.func3, Tryd.ntmps3
    go_wp2_with fail
    go_ret
    exact ⟨rfl, Below.refl _ _⟩
  by_cases hbig1 : 1048576 < l1
  · clear hb0 hb1 hH
    go_enter Tryd.func3, Tryd.ntmps3
    go_wp2_with fail
    go_ret
    exact ⟨rfl, Below.refl _ _⟩
  have HD0 : Hid _ := drawPutNum l0 c0 a0 w hb0 hs0
  have HD1 : Hid (∀ w1, Below w.heap.size w w1 → Calls Tryd.prog 12 #[.slice a1 l1 c1] w1 fun e w' => ∃ x : ByteArray, e = .returned (.string x) ∧ x.size ≤ 20001 ∧ Below w1.heap.size w1 w') :=
    fun w1 h => drawPutText l1 c1 a1 w1 (hb1.later h) hs1
  have HHa : Hid (∀ w1, Below w.heap.size w w1 → Handle w1) := fun w1 h => hH.later hH.pos h
  have HT : Hid (∀ (w1 w2 : World), Below w.heap.size w w1 → Below w1.heap.size w1 w2 → Below w.heap.size w w2) := fun w1 w2 h1 h2 => h1.trans (h2.mono h1.size)
  clear hb0 hb1 hH
  have hf1 := field_num
  have hf2 := field_text
  go_enter Tryd.func3, Tryd.ntmps3
  go_wp2_with fail
  refine Calls.mono HD0.out ?_
  rintro e w1 ⟨n, rfl, hn, h1⟩
  have HN : Hid (I64 n) := hn
  have B1 : Hid (Below w.heap.size w w1) := h1
  clear h1 HD0 hn
  go_wp2_with fail
  refine (implPut n _ HN.out).mono ?_
  rintro e w2 ⟨rfl, h2⟩
  have B2 : Hid (Below w.heap.size w w2) := HT.out _ _ B1.out h2
  clear h2 B1
  go_wp2_with fail
  refine (specPut n _ HN.out).mono ?_
  rintro e w3 ⟨rfl, h3⟩
  have B3 : Hid (Below w.heap.size w w3) := HT.out _ _ B2.out h3
  clear h3 B2
  have hz := putS_size n
  have hz1 : 0 < (putS n).size := by rw [putS_len]; exact enc_pos _ _
  have HBk : Hid _ := num_back n HN.out
  have HCt : Hid _ := num_cut n
  generalize putS n = t at *
  have hq1 : ((⟨#[120, 121]⟩ : ByteArray) ++ t ++ ⟨#[122]⟩).size ≤ maxLen := by rw [ByteArray.size_append, ByteArray.size_append]; unfold maxLen; show 2 + _ + 1 ≤ _; omega
  have HG1 : Hid (∀ w1, Handle w1 → Calls Tryd.prog 11 #[.string ((⟨#[120, 121]⟩ : ByteArray) ++ t ++ ⟨#[122]⟩), .int .i64 2] w1 fun e w' => e = .returned (.agg #[.int .i64 n, .int .i64 ((t.size : Int) + 2), .int .i64 0]) ∧ Below w1.heap.size w1 w') := by
    intro w1 hw
    have := implGet _ 2 w1 hq1 (by unfold I64; decide) hw
    rw [HBk.out] at this
    unfold gv at this
    simp only [show ((t.size + 2 : Nat) : Int) = (t.size : Int) + 2 by omega] at this
    exact this
  have hq2 : (t.extract 0 (t.size - 1)).size ≤ maxLen := by rw [ByteArray.size_extract]; unfold maxLen; omega
  have HG2 : Hid (∀ w1, Handle w1 → Calls Tryd.prog 11 #[.string (t.extract 0 (t.size - 1)), .int .i64 0] w1 fun e w' => e = .returned (.agg #[.int .i64 0, .int .i64 0, .int .i64 4]) ∧ Below w1.heap.size w1 w') := by
    intro w1 hw
    have := implGet _ 0 w1 hq2 (by unfold I64; decide) hw
    rw [HCt.out] at this
    exact this
  clear HBk HCt hq1 hq2
  go_wp2_with fail
  refine (HG1.out _ (HHa.out _ B3.out)).mono ?_
  rintro e w4 ⟨rfl, h4⟩
  have B4 : Hid (Below w.heap.size w w4) := HT.out _ _ B3.out h4
  have B4a : Hid (Below w.heap.size w (w4.alloc (.cells #[.int .i64 n, .int .i64 ((t.size : Int) + 2), .int .i64 0] 26))) := B4.out.alloc B4.out.size _
  clear h4 B3 HG1
  go_wp2_with fail
  refine (HG2.out _ (HHa.out _ B4a.out)).mono ?_
  rintro e w5 ⟨rfl, h5⟩
  have B5 : Hid (Below w.heap.size w w5) := HT.out _ _ B4a.out h5
  clear h5 B4 B4a HG2
  go_wp2_with fail
  refine (HD1.out _ B5.out).mono ?_
  rintro e w6 ⟨u, rfl, hu, h6⟩
  have B6 : Hid (Below w.heap.size w w6) := HT.out _ _ B5.out h6
  have hum : u.size ≤ maxLen := by unfold maxLen; omega
  have HPi : Hid (∀ w1, Calls Tryd.prog 13 #[.string u] w1 fun e w' => e = .returned (.string (putT u)) ∧ Below w1.heap.size w1 w') := fun w1 => implPutT u w1 hum
  have HPs : Hid (∀ w1, Calls Tryd.prog 14 #[.string u] w1 fun e w' => e = .returned (.string (putT u)) ∧ Below w1.heap.size w1 w') := fun w1 => specPutT u w1 hum
  clear h6 B5 HD1 hum
  by_cases hu2 : 20000 < u.size
  · have hp : putT u = ⟨#[]⟩ := by unfold putT; rw [if_pos hu2]
    rw [hp] at HPi HPs
    clear hp
    go_wp2_with fail
    refine (HPi.out _).mono ?_
    rintro e w7 ⟨rfl, h7⟩
    have B7 : Hid (Below w.heap.size w w7) := HT.out _ _ B6.out h7
    clear h7 B6 HPi
    go_wp2_with fail
    refine (HPs.out _).mono ?_
    rintro e w8 ⟨rfl, h8⟩
    have B8 : Hid (Below w.heap.size w w8) := HT.out _ _ B7.out h8
    clear h8 B7
    go_wp2_with fail
    refine (HPs.out _).mono ?_
    rintro e w9 ⟨rfl, h9⟩
    have B9 : Hid (Below w.heap.size w w9) := HT.out _ _ B8.out h9
    clear h9 B8 HPs
    go_wp2
    go_ret
    exact ⟨rfl, B9.out⟩
  · have hp : putT u = putS u.size ++ u := by unfold putT; rw [if_neg hu2]
    rw [hp] at HPi HPs
    have hps := putS_size u.size
    have hps1 : 0 < (putS u.size).size := by rw [putS_len]; exact enc_pos _ _
    have hsz : (putS u.size ++ u).size = (putS u.size).size + u.size := ByteArray.size_append
    have HTb : Hid (1 + ((putS u.size).size + u.size) ≤ 20000 → getT ((⟨#[120]⟩ : ByteArray) ++ (putS u.size ++ u)) 1 = ⟨u, (((putS u.size ++ u).size + 1 : Nat) : Int), 0⟩) := text_back u
    have HTc : Hid ((putS u.size).size + u.size ≤ 20000 → getT ((putS u.size ++ u).extract 0 ((putS u.size ++ u).size - 1)) 0 = ⟨noText, 0, 4⟩) := text_cut u
    clear hp
    rw [← hsz] at HTb HTc
    have hpz : (putS u.size ++ u).size ≤ 20010 := by omega
    have hpz1 : 0 < (putS u.size ++ u).size := by omega
    clear hsz hps hps1
    generalize putS u.size ++ u = q at *
    go_wp2_with fail
    refine (HPi.out _).mono ?_
    rintro e w7 ⟨rfl, h7⟩
    have B7 : Hid (Below w.heap.size w w7) := HT.out _ _ B6.out h7
    clear h7 B6 HPi
    go_wp2_with fail
    refine (HPs.out _).mono ?_
    rintro e w8 ⟨rfl, h8⟩
    have B8 : Hid (Below w.heap.size w w8) := HT.out _ _ B7.out h8
    clear h8 B7 HPs
    have hne : q.toList.isEmpty = false := by
      cases he : q.toList with
      | nil => have : q.toList.length = 0 := by rw [he]; rfl
               rw [toList_length] at this; omega
      | cons x l => rfl
    by_cases hl : 20000 < q.size + 1
    · go_wp2
      go_ret
      exact ⟨rfl, B8.out⟩
    · have hq1 : ((⟨#[120]⟩ : ByteArray) ++ q).size ≤ maxLen := by rw [ByteArray.size_append]; unfold maxLen; show 1 + _ ≤ _; omega
      have hq2 : (q.extract 0 (q.size - 1)).size ≤ maxLen := by rw [ByteArray.size_extract]; unfold maxLen; omega
      have HG1 : Hid (∀ w1, Handle w1 → Calls Tryd.prog 15 #[.string ((⟨#[120]⟩ : ByteArray) ++ q), .int .i64 1] w1 fun e w' => e = .returned (.agg #[.string u, .int .i64 ((q.size : Int) + 1), .int .i64 0]) ∧ Below w1.heap.size w1 w') := by
        intro w1 hw
        have := implTxt _ 1 w1 hq1 (by unfold I64; decide) hw
        rw [HTb.out (by omega)] at this
        unfold tv at this
        simp only [show ((q.size + 1 : Nat) : Int) = (q.size : Int) + 1 by omega] at this
        exact this
      have HG2 : Hid (∀ w1, Handle w1 → Calls Tryd.prog 15 #[.string (q.extract 0 (q.size - 1)), .int .i64 0] w1 fun e w' => e = .returned (.agg #[.string noText, .int .i64 0, .int .i64 4]) ∧ Below w1.heap.size w1 w') := by
        intro w1 hw
        have := implTxt _ 0 w1 hq2 (by unfold I64; decide) hw
        rw [HTc.out (by omega)] at this
        exact this
      clear HTb HTc hq1 hq2
      go_wp2_with fail
      refine (HG1.out _ (HHa.out _ B8.out)).mono ?_
      rintro e w9 ⟨rfl, h9⟩
      have B9 : Hid (Below w.heap.size w w9) := HT.out _ _ B8.out h9
      clear h9 B8 HG1
      go_wp2_with fail
      refine (HG2.out _ (HHa.out _ B9.out)).mono ?_
      rintro e w10 ⟨rfl, h10⟩
      have B10 : Hid (Below w.heap.size w w10) := HT.out _ _ B9.out h10
      clear h10 B9 HG2
      go_wp2
      go_ret
      exact ⟨rfl, B10.out⟩
end Go.Proofs.YtocljgjdllpokaaDoor
