/- Texts turned to the program's, as a thing that was made. Stores in the laws' helpers: their room, turned to the program's, held against others. Stores and what is told of them in the laws' helpers: held against others, marks. -/
import Derived.Test.YtchfpiadfmnphaaDoorSRow
import Derived.Test.YtchfpiadfmnphaaDoorJn19
import Derived.Test.YtchfpiadfmnphaaDoorTy
import Derived.Test.YtchfpiadfmnphaaDoorJn11
namespace Go.Proofs.YtchfpiadfmnphaaDoor
open Go.RowKit
set_option linter.unusedVariables false

theorem toSM (a : Option Addr) (c n : Nat) (l : List ByteArray) (w : World) (hn : l.length = n) (h : SA w a l) (hb : n ≤ 1048576) :
    Calls Tryd.prog 27 #[.slice a n c] w fun r w' => ∃ (g : Nat), r = .returned (.slice (some ⟨g, 0, none⟩) n n) ∧ (w.heap.size ≤ g ∧ g < w'.heap.size) ∧ Made w w' (fun w2 => RowV w2 g (svl l)) ∧ Below w.heap.size w w' :=
  (toS_row a c n l w hn h hb).mono fun r w' ⟨h1, h2, h3, h4⟩ => ⟨w.heap.size, h1, ⟨Nat.le_refl _, h4⟩, fun w2 hw => h2.same fun k => hw.far ⟨w.heap.size, k, none⟩ h4 (fun hn => hn ⟨Nat.le_refl _, h4⟩), h3⟩
def roomQ (q0 : Int) (l : List ByteArray) : Int := if q0 - (l.length : Int) < 0 then -1 else roomS l (q0 - (l.length : Int))
theorem roomQ_bd {q0 : Int} {l : List ByteArray} (g1 : q0 ≤ 1048576) (h : 0 ≤ roomQ q0 l) : l.length ≤ 1048576 := by
  unfold roomQ at h
  by_cases hl : q0 - (l.length : Int) < 0
  · rw [if_pos hl] at h; omega
  · omega
set_option maxRecDepth 100000 in
set_option maxHeartbeats 1000000 in
theorem szS_q (a : Option Addr) (c n : Nat) (l : List ByteArray) (q0 : Int) (w : World) (g0 : 0 ≤ q0) (g1 : q0 ≤ 1048576) (hn : l.length = n) (h : SA w a l) (hM : n ≤ maxLen) (hx : ∀ x ∈ l, x.size ≤ maxLen) :
    Calls Tryd.prog 25 #[.slice a n c,   .int .i64 q0] w fun e w' => e = .returned (.int .i64 (roomQ q0 l)) ∧ w' = w := by
  have HA : Hid (SA w a l) := h
  have HN : Hid (l.length = n) := hn
  have HX : Hid (∀ x ∈ l, x.size ≤ maxLen) := hx
  clear h hn hx
  unfold maxLen at hM
  by_cases hb : q0 - (n : Int) < 0
  · have HR : Hid (roomQ q0 l = -1) := by show _ = _; unfold roomQ; rw [if_pos (by have := HN.out; omega)]
    go_enter Tryd.func25, Tryd.ntmps25
    go_wp2
    go_ret
    exact ⟨retZ HR.out.symm, rfl⟩
  · have HR : Hid (roomQ q0 l = roomS (l.drop 0) (q0 - (n : Int))) := by show _ = _; unfold roomQ; rw [if_neg (by have := HN.out; omega), HN.out]; rfl
    go_enter Tryd.func25, Tryd.ntmps25
    go_wp2_with fail
    go_loop [1, 5] (fun vq vi => ∃ (k : Nat) (q : Int), vi = .int .i64 (k : Int) ∧ vq = .int .i64 q ∧ k ≤ n ∧ 0 ≤ q ∧ q ≤ 1048576 ∧ roomQ q0 l = roomS (l.drop k) q) (fun _ vi => n - (intOf vi).toNat)
    case atStart => exact ⟨0, _, rfl, rfl, Nat.zero_le _, by omega, by omega, HR.out⟩
    case round =>
      obtain ⟨k, q, rfl, rfl, hk, hq0, hq1, he⟩ := hrel
      have HE : Hid (roomQ q0 l = roomS (l.drop k) q) := he
      clear he
      by_cases hlt : k < n
      · have hkl : k < l.length := by have := HN.out; omega
        obtain ⟨b, o, rfl, hc⟩ := HA.out k hkl
        have hxs := HX.out l[k] (List.getElem_mem hkl)
        unfold maxLen at hxs
        have HD : Hid (roomS (l.drop k) q = if q - (l[k].size : Int) < 0 then -1 else roomS (l.drop (k + 1)) (q - l[k].size)) := by
          show _ = _
          rw [List.drop_eq_getElem_cons hkl, roomS]
        generalize l[k] = x at *
        have lk : (k : Int) < n := by omega
        have l0 : (0 : Int) ≤ k := by omega
        clear hkl
        by_cases hneg : q - (x.size : Int) < 0
        · have HF : Hid (roomQ q0 l = -1) := by show _ = _; rw [HE.out, HD.out, if_pos hneg]
          clear HE HD
          go_wp2
          go_ret
          exact ⟨retZ HF.out.symm, rfl⟩
        · have HF : Hid (roomQ q0 l = roomS (l.drop (k + 1)) (q - x.size)) := by show _ = _; rw [HE.out, HD.out, if_neg hneg]
          clear HE HD
          have hge : 0 ≤ q - (x.size : Int) := by omega
          go_wp2
          exact ⟨⟨k + 1, _, by go_num, rfl, hlt, hge, by omega, HF.out⟩, by simp [intOf]; omega⟩
      · obtain rfl : k = n := by omega
        have HF : Hid (roomQ q0 l = q) := by
          show _ = _
          rw [HE.out, List.drop_of_length_le (by have := HN.out; omega)]
          rfl
        clear HE
        go_wp2
        go_ret
        exact ⟨retZ HF.out.symm, rfl⟩
end Go.Proofs.YtchfpiadfmnphaaDoor
namespace Go.Proofs.YtchfpiadfmnphaaDoor
open Go.RowKit
set_option linter.unusedVariables false

set_option maxRecDepth 100000 in
set_option maxHeartbeats 4000000 in
theorem szSto (a : Option Addr) (c n : Nat) (l : List ByteArray) (w : World) (hn : l.length = n) (h : SA w a l) (hm : n ≤ maxLen) (hx : ∀ x ∈ l, x.size ≤ maxLen) :
    Calls Tryd.prog 7 #[.agg #[.slice a n c], .int .i64 1048576] w fun r w' => ∃ z : Int, r = .returned (.int .i64 z) ∧ (0 ≤ z → n ≤ 1048576) ∧ Below w.heap.size w w' := by
  have hC1 : ∀ w0, (SA w0 a l) → Calls Tryd.prog 25 #[.slice a n c, .int .i64 1048576] w0 fun r w' => ∃ (q : Int), r = .returned (.int .i64 q) ∧ (0 ≤ q → n ≤ 1048576) ∧ w0 = w' := fun w0 n0 => (szS_any a c n l w0 hn n0 hm hx).mono fun r w' ⟨e1, e2⟩ => ⟨_, e1, fun g => by have := (roomL_bd g).1; omega, e2.symm⟩
  have HS0 : Hid (Sta [] w [] [⟨fun k => k < w.heap.size, fun w' => SA w' a l⟩] w) := Sta.arg (fun w' => SA w' a l) (fun w' hb => h.below hb)
  clear hn h hx hm
  go_enter Tryd.func7, Tryd.ntmps7
  go_wp2_with (first
    | ((with_reducible refine wpList_boxV (w := w) (by with_unfolding_all rfl) 24 (.tmp 0) (by with_unfolding_all rfl) [.slice a n c] (by with_unfolding_all rfl) ?_); intro w1 hA1 hB1 hS1; clear hS1; have HS1 := Sta.new HS0 hA1 hB1 (by simp); clear hA1 hB1; have cHS1_0_0 : w1.cell? ⟨w.heap.size, 0, none⟩ = some (.slice a n c) := Sta.c (i := 0) HS1 rfl rfl))
  have n2_0 : SA w1 a l := (Sta.t (i := 0) HS1 rfl :)
  refine (hC1 w1 n2_0).mono ?_
  rintro r w' ⟨q, rfl, p, rfl⟩
  have Hp := hidP p
  clear p
  clear cHS1_0_0
  by_cases hq : q < 0
  · as_aux_lemma =>
    go_wp2_with fail
    go_ret
    exact ⟨_, rfl, fun h => absurd h (by omega), Sta.fin HS1⟩
  have hq' : 0 ≤ q := by omega
  go_wp2_with fail
  go_ret
  exact ⟨_, rfl, fun h => Hp.out hq', Sta.fin HS1⟩
set_option maxRecDepth 100000 in
set_option maxHeartbeats 4000000 in
theorem toSto (a : Option Addr) (c n : Nat) (l : List ByteArray) (w : World) (hn : l.length = n) (h : SA w a l) (hb : n ≤ 1048576) :
    Calls Tryd.prog 9 #[.agg #[.slice a n c]] w fun r w' => ∃ (g : Nat), r = .returned (.agg #[.slice (some ⟨g, 0, none⟩) n n]) ∧ (w.heap.size ≤ g ∧ g < w'.heap.size) ∧ Made w w' (fun w2 => RowV w2 g (svl l)) ∧ Below w.heap.size w w' := by
  have hC1 : ∀ w0, (SA w0 a l) → Calls Tryd.prog 27 #[.slice a n c] w0 fun r w' => ∃ (g : Nat), r = .returned (.slice (some ⟨g, 0, none⟩) n n) ∧ (w0.heap.size ≤ g ∧ g < w'.heap.size) ∧ Made w0 w' (fun w2 => RowV w2 g (svl l)) ∧ Below w0.heap.size w0 w' := fun w0 n0 => toSM a c n l w0 hn n0 hb
  have HS0 : Hid (Sta [] w [] [⟨fun k => k < w.heap.size, fun w' => SA w' a l⟩] w) := Sta.arg (fun w' => SA w' a l) (fun w' hb => h.below hb)
  clear hn h hb
  go_enter Tryd.func9, Tryd.ntmps9
  go_wp2_with (first
    | ((with_reducible refine wpList_boxV (w := w) (by with_unfolding_all rfl) 24 (.tmp 0) (by with_unfolding_all rfl) [.slice a n c] (by with_unfolding_all rfl) ?_); intro w1 hA1 hB1 hS1; clear hS1; have HS1 := Sta.new HS0 hA1 hB1 (by simp); clear hA1 hB1)
    | ((with_reducible refine wpList_allocV (w := w1) (by with_unfolding_all rfl) 27 (by with_unfolding_all rfl) [.slice none 0 0] Tryd.zT_implStore ?_); intro w2 hA2 hB2 hS2; clear hS2; have HS2 := Sta.new HS1 hA2 hB2 (by simp); clear hA2 hB2)
    | ((with_reducible refine wpList_allocV (w := w2) (by with_unfolding_all rfl) 27 (by with_unfolding_all rfl) [.slice none 0 0] Tryd.zT_implStore ?_); intro w3 hA3 hB3 hS3; clear hS3; have HS3 := Sta.new HS2 hA3 hB3 (by simp); clear hA3 hB3; have cHS3_2_0 : w3.cell? ⟨w.heap.size, 0, none⟩ = some (.slice a n c) := Sta.c (i := 2) HS3 rfl rfl)
    | (go_at_call 27; have n4_0 : SA w3 a l := (Sta.t (i := 0) HS3 rfl :); (with_reducible refine (hC1 w3 n4_0).mono ?_); rintro r w4 ⟨g, rfl, q, hP4, hB4⟩; have Hq := hidP q; clear q; have HS4 := Sta.made HS3 hB4 hP4; clear hB4 hP4; clear cHS3_2_0)
    | ((with_reducible refine wpList_cellS (w := w4) (by with_unfolding_all rfl) 22 (.tmp 7) (.tmp 6) (by with_unfolding_all rfl) w2.heap.size 0 [.slice none 0 0] [.slice (some ⟨g, 0, none⟩) n n] (.slice (some ⟨g, 0, none⟩) n n) (by with_unfolding_all rfl) (by with_unfolding_all rfl) (by with_unfolding_all rfl) Tryd.s1_slstring (Sta.r (i := 0) HS4 (by with_unfolding_all rfl)) (by simp) (by with_unfolding_all rfl) ?_); intro w5 hA5 hO5; have HS5 := Sta.put 0 HS4 rfl hA5 (by simp) hO5; clear hA5 hO5)
    | ((with_reducible refine wpList_loadV (w := w5) (by with_unfolding_all rfl) 27 (.tmp 3) (by with_unfolding_all rfl) w2.heap.size [.slice (some ⟨g, 0, none⟩) n n] (by with_unfolding_all rfl) (Sta.r (i := 0) HS5 (by with_unfolding_all rfl)) Tryd.uT_implStore 1 Tryd.sT_implStore (by with_unfolding_all rfl) ?_))
    | ((with_reducible refine wpList_storeS (w := w5) (by with_unfolding_all rfl) 27 (.tmp 2) (.tmp 8) (by with_unfolding_all rfl) w1.heap.size [.slice none 0 0] [.slice (some ⟨g, 0, none⟩) n n] (by with_unfolding_all rfl) (by with_unfolding_all rfl) (Sta.r (i := 1) HS5 (by with_unfolding_all rfl)) 1 Tryd.sT_implStore (by with_unfolding_all rfl) (by with_unfolding_all rfl) (by with_unfolding_all rfl) ?_); intro w6 hA6 hO6; have HS6 := Sta.put 1 HS5 rfl hA6 (by simp) hO6; clear hA6 hO6))
  exact bodyPost_ret (results_V (t := 27) rfl _ w1.heap.size [.slice (some ⟨g, 0, none⟩) n n] rfl (Sta.r (i := 1) HS6 (by with_unfolding_all rfl)) Tryd.uT_implStore 1 Tryd.sT_implStore rfl) rfl ⟨g, rfl, ⟨Nat.le_trans (Sta.size HS3) Hq.out.1, Sta.lt (i := 0) HS6 rfl g Hq.out⟩, Sta.made_of (i := 0) HS6 rfl (fun k hk => Nat.le_trans (Sta.size HS3) hk.1), Sta.fin HS6⟩
set_option maxRecDepth 100000 in
set_option maxHeartbeats 4000000 in
theorem eqSto (a b : Option Addr) (c d : Nat) (l : List ByteArray) (w : World) (h : SA w a l) (h2 : SA w b l) (hb : l.length ≤ 1048576) :
    Calls Tryd.prog 11 #[.agg #[.slice a l.length c], .agg #[.slice b l.length d]] w fun r w' => r = .returned (.bool true) ∧ Below w.heap.size w w' := by
  have hC1 : ∀ w0, (SA w0 a l ∧ SA w0 b l) → Calls Tryd.prog 29 #[.slice a l.length c, .slice b l.length d] w0 fun r w' => r = .returned (.bool true) ∧ Below w0.heap.size w0 w' := fun w0 n0 => by have := eqS_any a b c d l l w0 n0.1 n0.2 (by omega) (by omega); rw [decide_eq_true rfl] at this; exact this
  have HS0 : Hid (Sta [] w [] [⟨fun k => k < w.heap.size, fun w' => SA w' a l ∧ SA w' b l⟩] w) := Sta.arg (fun w' => SA w' a l ∧ SA w' b l) (fun w' hb => ⟨h.below hb, h2.below hb⟩)
  clear h h2 hb
  go_enter Tryd.func11, Tryd.ntmps11
  go_wp2_with (first
    | ((with_reducible refine wpList_boxV (w := w) (by with_unfolding_all rfl) 27 (.tmp 0) (by with_unfolding_all rfl) [.slice a l.length c] (by with_unfolding_all rfl) ?_); intro w1 hA1 hB1 hS1; clear hS1; have HS1 := Sta.new HS0 hA1 hB1 (by simp); clear hA1 hB1)
    | ((with_reducible refine wpList_boxV (w := w1) (by with_unfolding_all rfl) 27 (.tmp 1) (by with_unfolding_all rfl) [.slice b l.length d] (by with_unfolding_all rfl) ?_); intro w2 hA2 hB2 hS2; clear hS2; have HS2 := Sta.new HS1 hA2 hB2 (by simp); clear hA2 hB2; have cHS2_1_0 : w2.cell? ⟨w.heap.size, 0, none⟩ = some (.slice a l.length c) := Sta.c (i := 1) HS2 rfl rfl; have cHS2_0_0 : w2.cell? ⟨w1.heap.size, 0, none⟩ = some (.slice b l.length d) := Sta.c (i := 0) HS2 rfl rfl)
    | (go_at_call 29; have n3_0 : SA w2 a l ∧ SA w2 b l := (Sta.t (i := 0) HS2 rfl :); (with_reducible refine (hC1 w2 n3_0).mono ?_); rintro r w3 ⟨rfl, hB3⟩; have HS3 := Sta.call HS2 hB3; clear hB3; clear cHS2_1_0 cHS2_0_0))
  go_ret
  exact ⟨rfl, Sta.fin HS3⟩
end Go.Proofs.YtchfpiadfmnphaaDoor
namespace Go.Proofs.YtchfpiadfmnphaaDoor
open Go.RowKit
set_option linter.unusedVariables false

set_option maxRecDepth 100000 in
set_option maxHeartbeats 4000000 in
theorem eqStO (Y : ByteArray) (C : Int) (w : World) :
    Calls Tryd.prog 14 #[.agg #[.slice none 0 0, .string Y, .int .i64 C], .agg #[.slice none 0 0, .string Y, .int .i64 C]] w fun r w' => r = .returned (.bool true) ∧ Below w.heap.size w w' := by
  have ht := txt_eq Y
  have hC1 : ∀ w0, Calls Tryd.prog 11 #[.agg #[.slice none 0 0], .agg #[.slice none 0 0]] w0 fun r w' => r = .returned (.bool true) ∧ Below w0.heap.size w0 w' := fun w0 => eqSto none none 0 0 [] w0 (SA.nil _ _) (SA.nil _ _) (by decide)
  have HS0 : Hid (Sta [] w [] [] w) := Sta.start w
  go_enter Tryd.func14, Tryd.ntmps14
  go_wp2_with (first
    | ((with_reducible refine wpList_boxV (w := w) (by with_unfolding_all rfl) 32 (.tmp 0) (by with_unfolding_all rfl) [.slice none 0 0, .string Y, .int .i64 C] (by with_unfolding_all rfl) ?_); intro w1 hA1 hB1 hS1; clear hS1; have HS1 := Sta.new HS0 hA1 hB1 (by simp); clear hA1 hB1)
    | ((with_reducible refine wpList_boxV (w := w1) (by with_unfolding_all rfl) 32 (.tmp 1) (by with_unfolding_all rfl) [.slice none 0 0, .string Y, .int .i64 C] (by with_unfolding_all rfl) ?_); intro w2 hA2 hB2 hS2; clear hS2; have HS2 := Sta.new HS1 hA2 hB2 (by simp); clear hA2 hB2)
    | ((with_reducible refine wpList_ldS (w := w2) (by with_unfolding_all rfl) 27 (.tmp 5) (by with_unfolding_all rfl) w.heap.size 0 [.slice none 0 0, .string Y, .int .i64 C] [.slice none 0 0] (by with_unfolding_all rfl) (Sta.r (i := 1) HS2 (by with_unfolding_all rfl)) Tryd.uT_implStore 1 Tryd.sT_implStore (by with_unfolding_all rfl) (by with_unfolding_all rfl) ?_))
    | ((with_reducible refine wpList_ldS (w := w2) (by with_unfolding_all rfl) 27 (.tmp 7) (by with_unfolding_all rfl) w1.heap.size 0 [.slice none 0 0, .string Y, .int .i64 C] [.slice none 0 0] (by with_unfolding_all rfl) (Sta.r (i := 0) HS2 (by with_unfolding_all rfl)) Tryd.uT_implStore 1 Tryd.sT_implStore (by with_unfolding_all rfl) (by with_unfolding_all rfl) ?_))
    | (go_at_call 11; (with_reducible refine (hC1 w2).mono ?_); rintro r w3 ⟨rfl, hB3⟩; have HS3 := Sta.call HS2 hB3; clear hB3; have cHS3_1_1 : w3.cell? ⟨w.heap.size, 1, none⟩ = some (.string Y) := Sta.c (i := 1) HS3 rfl rfl; have cHS3_0_1 : w3.cell? ⟨w1.heap.size, 1, none⟩ = some (.string Y) := Sta.c (i := 0) HS3 rfl rfl; have cHS3_1_2 : w3.cell? ⟨w.heap.size, 2, none⟩ = some (.int .i64 C) := Sta.c (i := 1) HS3 rfl rfl; have cHS3_0_2 : w3.cell? ⟨w1.heap.size, 2, none⟩ = some (.int .i64 C) := Sta.c (i := 0) HS3 rfl rfl))
  go_ret
  exact ⟨rfl, Sta.fin HS3⟩
set_option maxRecDepth 100000 in
set_option maxHeartbeats 2000000 in
theorem markSt0  (w : World) :
    Calls Tryd.prog 15 #[.agg #[.slice none 0 0], .int .i64 1] w fun r w' => r = .returned (.int .i64 1) ∧ Below w.heap.size w w' := by
  have hC1 : ∀ w0, Calls Tryd.prog 33 #[.slice none 0 0, .int .i64 1] w0 fun r w' => r = .returned (.int .i64 1) ∧ w0 = w' := fun w0 => markS_nil none 0 1 w0 (by omega)
  have HS0 : Hid (Sta [] w [] [] w) := Sta.start w
  go_enter Tryd.func15, Tryd.ntmps15
  go_wp2_with (first
    | ((with_reducible refine wpList_boxV (w := w) (by with_unfolding_all rfl) 27 (.tmp 0) (by with_unfolding_all rfl) [.slice none 0 0] (by with_unfolding_all rfl) ?_); intro w1 hA1 hB1 hS1; clear hS1; have HS1 := Sta.new HS0 hA1 hB1 (by simp); clear hA1 hB1; have cHS1_0_0 : w1.cell? ⟨w.heap.size, 0, none⟩ = some (.slice none 0 0) := Sta.c (i := 0) HS1 rfl rfl)
    | (go_at_call 33; (with_reducible refine (hC1 w1).mono ?_); rintro r w' ⟨rfl, rfl⟩))
  go_ret
  exact ⟨rfl, Sta.fin HS1⟩
set_option maxRecDepth 100000 in
set_option maxHeartbeats 2000000 in
theorem markStO (Y : ByteArray) (C : Int) (w : World) :
    Calls Tryd.prog 16 #[.agg #[.slice none 0 0, .string Y, .int .i64 C], .int .i64 1] w fun r w' => r = .returned (.int .i64 1) ∧ Below w.heap.size w w' := by
  have hC1 : ∀ w0, Calls Tryd.prog 15 #[.agg #[.slice none 0 0], .int .i64 1] w0 fun r w' => r = .returned (.int .i64 1) ∧ Below w0.heap.size w0 w' := fun w0 => markSt0 w0
  have HS0 : Hid (Sta [] w [] [] w) := Sta.start w
  go_enter Tryd.func16, Tryd.ntmps16
  go_wp2_with (first
    | ((with_reducible refine wpList_boxV (w := w) (by with_unfolding_all rfl) 32 (.tmp 0) (by with_unfolding_all rfl) [.slice none 0 0, .string Y, .int .i64 C] (by with_unfolding_all rfl) ?_); intro w1 hA1 hB1 hS1; clear hS1; have HS1 := Sta.new HS0 hA1 hB1 (by simp); clear hA1 hB1)
    | ((with_reducible refine wpList_ldS (w := w1) (by with_unfolding_all rfl) 27 (.tmp 5) (by with_unfolding_all rfl) w.heap.size 0 [.slice none 0 0, .string Y, .int .i64 C] [.slice none 0 0] (by with_unfolding_all rfl) (Sta.r (i := 0) HS1 (by with_unfolding_all rfl)) Tryd.uT_implStore 1 Tryd.sT_implStore (by with_unfolding_all rfl) (by with_unfolding_all rfl) ?_))
    | (go_at_call 15; (with_reducible refine (hC1 w1).mono ?_); rintro r w2 ⟨rfl, hB2⟩; have HS2 := Sta.call HS1 hB2; clear hB2))
  go_ret
  exact ⟨rfl, Sta.fin HS2⟩
set_option maxRecDepth 100000 in
set_option maxHeartbeats 2000000 in
theorem heldSt0  (w : World) :
    Calls Tryd.prog 34 #[.agg #[.slice none 0 0], .int .i64 1] w fun r w' => r = .returned (.int .i64 1) ∧ Below w.heap.size w w' := by
  have hC1 : ∀ w0, Calls Tryd.prog 41 #[.slice none 0 0, .int .i64 1] w0 fun r w' => r = .returned (.int .i64 1) ∧ Below w0.heap.size w0 w' := fun w0 => heldS_any none 0 0 1 w0 (SA.nil _ _) (by omega) (by omega) (by omega)
  have HS0 : Hid (Sta [] w [] [] w) := Sta.start w
  go_enter Tryd.func34, Tryd.ntmps34
  go_wp2_with (first
    | ((with_reducible refine wpList_boxV (w := w) (by with_unfolding_all rfl) 27 (.tmp 0) (by with_unfolding_all rfl) [.slice none 0 0] (by with_unfolding_all rfl) ?_); intro w1 hA1 hB1 hS1; clear hS1; have HS1 := Sta.new HS0 hA1 hB1 (by simp); clear hA1 hB1; have cHS1_0_0 : w1.cell? ⟨w.heap.size, 0, none⟩ = some (.slice none 0 0) := Sta.c (i := 0) HS1 rfl rfl)
    | (go_at_call 41; (with_reducible refine (hC1 w1).mono ?_); rintro r w2 ⟨rfl, hB2⟩; have HS2 := Sta.call HS1 hB2; clear hB2; clear cHS1_0_0))
  go_ret
  exact ⟨rfl, Sta.fin HS2⟩
set_option maxRecDepth 100000 in
set_option maxHeartbeats 2000000 in
theorem heldStO (Y : ByteArray) (C : Int) (w : World) :
    Calls Tryd.prog 17 #[.agg #[.slice none 0 0, .string Y, .int .i64 C], .int .i64 1] w fun r w' => r = .returned (.int .i64 1) ∧ Below w.heap.size w w' := by
  have hC1 : ∀ w0, Calls Tryd.prog 34 #[.agg #[.slice none 0 0], .int .i64 1] w0 fun r w' => r = .returned (.int .i64 1) ∧ Below w0.heap.size w0 w' := fun w0 => heldSt0 w0
  have HS0 : Hid (Sta [] w [] [] w) := Sta.start w
  go_enter Tryd.func17, Tryd.ntmps17
  go_wp2_with (first
    | ((with_reducible refine wpList_boxV (w := w) (by with_unfolding_all rfl) 32 (.tmp 0) (by with_unfolding_all rfl) [.slice none 0 0, .string Y, .int .i64 C] (by with_unfolding_all rfl) ?_); intro w1 hA1 hB1 hS1; clear hS1; have HS1 := Sta.new HS0 hA1 hB1 (by simp); clear hA1 hB1)
    | ((with_reducible refine wpList_ldS (w := w1) (by with_unfolding_all rfl) 27 (.tmp 5) (by with_unfolding_all rfl) w.heap.size 0 [.slice none 0 0, .string Y, .int .i64 C] [.slice none 0 0] (by with_unfolding_all rfl) (Sta.r (i := 0) HS1 (by with_unfolding_all rfl)) Tryd.uT_implStore 1 Tryd.sT_implStore (by with_unfolding_all rfl) (by with_unfolding_all rfl) ?_))
    | (go_at_call 34; (with_reducible refine (hC1 w1).mono ?_); rintro r w2 ⟨rfl, hB2⟩; have HS2 := Sta.call HS1 hB2; clear hB2))
  go_ret
  exact ⟨rfl, Sta.fin HS2⟩
/- Marks in a store's texts. -/
theorem markS_mrk (g n : Nat) (l : List ByteArray) (w : World) (hn : l.length = n) (h : RowV w g (svl l)) (hb : n ≤ 1048576) :
    Calls Tryd.prog 33 #[.slice (some ⟨g, 0, none⟩) n n, .int .i64 1] w fun e w' => e = .returned (.int .i64 ((1 + n : Nat) : Int)) ∧ (∀ w3, Mrk (fun k => k ≠ g) w' w3 → RowV w3 g (svl (mks 1 n))) ∧ Mrk (fun k => k = g) w w' := by
  by_cases h0 : n = 0
  · subst h0
    exact (markS_nil (some ⟨g, 0, none⟩) 0 1 w (by omega)).mono fun r w' ⟨h1, h2⟩ => ⟨h1, fun w3 _ => ⟨fun j v hv => by simp [svl, mks] at hv, fun j hj => by simp [svl, mks] at hj⟩, h2 ▸ Mrk.refl _ _⟩
  · have hl : svl l ≠ [] := fun e => by have := congrArg List.length e; rw [svl_length, hn] at this; exact h0 this
    exact (markS_row g n n 1 l w hn h (h.lt hl) hb (by omega) (by omega)).mono fun r w' ⟨h1, h2, h3⟩ => ⟨h1, fun w3 hw => hw.row h2 (fun e => by have := congrArg List.length e; rw [svl_length, mks_length] at this; exact h0 this) (fun hn => hn rfl), ⟨fun k hk hn => h3.2 k hn hk, fun B hB hb => h3.below (hb g rfl) hB, h3.size⟩⟩
set_option maxRecDepth 100000 in
set_option maxHeartbeats 2000000 in
theorem markSt (g n : Nat) (l : List ByteArray) (w : World) (hn : l.length = n) (h : RowV w g (svl l)) (hg : g < w.heap.size) (hb : n ≤ 1048576) :
    Calls Tryd.prog 15 #[.agg #[.slice (some ⟨g, 0, none⟩) n n], .int .i64 1] w fun r w' => ∃ z : Nat, r = .returned (.int .i64 (z : Int)) ∧ (∀ w3, Mrk (fun k => k ≠ g) w' w3 → RowV w3 g (svl (mks 1 n))) ∧ Mrk (fun k => k = g) w w' := by
  have hC : ∀ w0, RowV w0 g (svl l) → Calls Tryd.prog 33 #[.slice (some ⟨g, 0, none⟩) n n, .int .i64 1] w0 fun e w' => e = .returned (.int .i64 ((1 + n : Nat) : Int)) ∧ (∀ w3, Mrk (fun k => k ≠ g) w' w3 → RowV w3 g (svl (mks 1 n))) ∧ Mrk (fun k => k = g) w0 w' := fun w0 h0 => markS_mrk g n l w0 hn h0 hb
  generalize 1 + n = z at hC
  have HS0 : Hid (Sta [] w [] [⟨fun k => k < w.heap.size, fun w' => RowV w' g (svl l)⟩] w) := Sta.arg (fun w' => RowV w' g (svl l)) (fun w' hb => h.below hb hg)
  clear h hn hb
  go_enter Tryd.func15, Tryd.ntmps15
  go_wp2_with (first
    | ((with_reducible refine wpList_boxV (w := w) (by with_unfolding_all rfl) 27 (.tmp 0) (by with_unfolding_all rfl) [.slice (some ⟨g, 0, none⟩) n n] (by with_unfolding_all rfl) ?_); intro w1 hA1 hB1 hS1; clear hS1; have HB := hidP hB1; have HS1 := Sta.new HS0 hA1 hB1 (by simp); clear hA1 hB1; have cHS1_0_0 : w1.cell? ⟨w.heap.size, 0, none⟩ = some (.slice (some ⟨g, 0, none⟩) n n) := Sta.c (i := 0) HS1 rfl rfl)
    | (go_at_call 33; (with_reducible refine (hC w1 (Sta.t (i := 0) HS1 rfl :)).mono ?_); rintro r w2 ⟨rfl, hP, hM⟩; clear cHS1_0_0; have HE := hidP (And.intro hP hM); clear hP hM))
  go_ret
  exact ⟨z, rfl, HE.out.1, ((Mrk.of HB.out).mono (fun k hk => by have : False := hk; exact this.elim)).trans HE.out.2⟩
end Go.Proofs.YtchfpiadfmnphaaDoor
