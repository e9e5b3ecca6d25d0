/- What a store holds, by its digests. On the program's side. Is a store right? On the program's side. -/
import Derived.Test.YtchfpiadfmnphaaDoorJn10
import Derived.Test.YtchfpiadfmnphaaDoorSRow
namespace Go.Proofs.YtchfpiadfmnphaaDoor
open Go.RowKit
set_option linter.unusedVariables false

/- What shelve tells. -/
def ShP (l : List ByteArray) (w : World) (e : Ending) (w' : World) : Prop :=
  (StOk l ∧ ∃ B, e = .returned (.tuple #[.map (some B), .bool true]) ∧ Made w w' (fun w2 => MapK w2 B l)) ∨ (¬ StOk l ∧ e = .returned (.tuple #[.map none, .bool false]))
theorem SA.here {w : World} {b o : Nat} {l : List ByteArray} (h : SA w (some ⟨b, o, none⟩) l) (k : Nat) (hk : k < l.length) : w.cell? ⟨b, o + k, none⟩ = some (.string l[k]) := by
  obtain ⟨b', o', he, hc⟩ := h k hk
  injection he with he
  injection he with h1 h2
  subst h1 h2
  exact hc
set_option maxRecDepth 100000 in
set_option maxHeartbeats 8000000 in
theorem implShelve (a : Option Addr) (c n : Nat) (l : List ByteArray) (w : World) (hn : l.length = n) (h : SA w a l) (hm : n ≤ maxLen) (hx : ∀ x ∈ l, x.size ≤ maxLen) (hk : ArrU w 0 keys) (h0 : 0 < w.heap.size) :
    Calls Tryd.prog 28 #[.agg #[.slice a n c]] w fun r w' => ShP l w r w' ∧ Below w.heap.size w w' := by
  unfold maxLen at hm
  have HN := hidP hn
  have HX := hidP hx
  have hC1 : ∀ w0 (x0 : ByteArray) (d : ByteArray), (ArrU w0 0 keys ∧ 0 < w0.heap.size) → (x0.size ≤ maxLen) → (digA x0 = d) → Calls Tryd.prog 43 #[.string x0] w0 fun r w' => r = .returned (.string d) ∧ Below w0.heap.size w0 w' := fun w0 x0 d n0 n1 n2 => by rw [← n2]; exact digestI_any x0 w0 n1 n0.1 n0.2
  have hC2 : ∀ w0 (d : ByteArray), (d.size = 32) → Calls Tryd.prog 45 #[.string d] w0 fun r w' => r = .returned (.agg (kyv d).toArray) ∧ Below w0.heap.size w0 w' := fun w0 d n0 => keyOfI d w0 n0
  have HS0 : Hid (Sta [] w [] [⟨fun k => k < w.heap.size, fun w' => SA w' a l ∧ ArrU w' 0 keys ∧ 0 < w'.heap.size⟩] w) := Sta.arg (fun w' => SA w' a l ∧ ArrU w' 0 keys ∧ 0 < w'.heap.size) (fun w' hb => ⟨h.below hb, hk.below hb h0, Nat.lt_of_lt_of_le h0 hb.size⟩)
  clear hn h hx hk h0
  go_enter Tryd.func28, Tryd.ntmps28
  by_cases h5 : 60 < n
  · as_aux_lemma =>
    have d5 : decide ((60 : Int) < (n : Int)) = true := decide_eq_true (by omega)
    have HF := hidP (StOk.not_long HN.out h5)
    go_wp2_with (first
      | ((with_reducible refine wpList_boxV (w := w) (by with_unfolding_all rfl) 27 (.tmp 0) (by with_unfolding_all rfl) [.slice a n c] (by with_unfolding_all rfl) ?_); intro w1 hA1 hB1 hS1; clear hS1; have HS1 := Sta.new HS0 hA1 hB1 (by simp); clear hA1 hB1; have cHS1_0_0 : w1.cell? ⟨w.heap.size, 0, none⟩ = some (.slice a n c) := Sta.c (i := 0) HS1 rfl rfl))
    go_ret2
    exact ⟨Or.inr ⟨HF.out, rfl⟩, Sta.fin HS1⟩
  · have d5 : decide ((60 : Int) < (n : Int)) = false := decide_eq_false (by omega)
    have H5 := hidP h5
    go_wp2_with (first
      | ((with_reducible refine wpList_boxV (w := w) (by with_unfolding_all rfl) 27 (.tmp 0) (by with_unfolding_all rfl) [.slice a n c] (by with_unfolding_all rfl) ?_); intro w2 hA2 hB2 hS2; clear hS2; have HS2 := Sta.new HS0 hA2 hB2 (by simp); clear hA2 hB2; have cHS2_0_0 : w2.cell? ⟨w.heap.size, 0, none⟩ = some (.slice a n c) := Sta.c (i := 0) HS2 rfl rfl)
      | ((first | (with_reducible refine wpList_makeMapK (w := w2) (by with_unfolding_all rfl) 51 (by with_unfolding_all rfl) ?_) | (with_reducible refine upon_makeMapK (w := w2) 51 ?_)); intro B3 w3 hE3 hL3 hB3 hM3; have HMB3 := hidP (Nat.le_trans (Sta.size HS2) (Nat.le_of_eq hE3)); have HS3 := Sta.map0 HS2 hE3 hL3 hB3 hM3; clear hE3 hL3 hB3 hM3; clear cHS2_0_0; have cHS3_0_0 : w3.cell? ⟨w.heap.size, 0, none⟩ = some (.slice a n c) := Sta.c (i := 0) HS3 rfl rfl))
    clear cHS3_0_0
    go_loopw [17, 5] (fun v0 v1 wr => ∃ (k : Nat) (A : ByteArray), v0 = .int .i64 (k : Int) ∧ v1 = .string A ∧ k ≤ n ∧ Hid (PreOk l k) ∧ Hid (AhdOk l k A) ∧ Hid (Sta [] w [(w.heap.size, [.slice a n c])] [⟨fun k => k = B3, fun w' => MapK w' B3 (l.take k)⟩, ⟨fun k => k < w.heap.size, fun w' => SA w' a l ∧ ArrU w' 0 keys ∧ 0 < w'.heap.size⟩] wr)) (fun v0 v1 _ => n - (intOf v0).toNat)
    case atStart => exact ⟨0, ⟨#[]⟩, rfl, rfl, Nat.zero_le _, PreOk.zero l, AhdOk.zero l, HS3⟩
    case round =>
      rename Go.World => wl4
      clear HS3
      obtain ⟨k, A, rfl, rfl, hk4, HP, HA, HS4⟩ := hrel
      by_cases hlt4 : k < n
      case neg =>
        obtain rfl : n = k := by omega
        have HF := hidP (StOk.all HP.out HN.out H5.out)
        go_wp2_with fail
        go_ret2
        exact ⟨Or.inl ⟨HF.out, B3, rfl, (Sta.made_of (i := 0) HS4 rfl (fun k hk => by rw [show k = B3 from hk]; exact HMB3.out)).imp (fun w2 h2 => by have h3 : MapK w2 B3 (l.take n) := h2; rw [List.take_of_length_le (Nat.le_of_eq HN.out)] at h3; exact h3)⟩, Sta.fin HS4⟩
      have lk4 : (k : Int) < n := by omega
      have l04 : (0 : Int) ≤ k := by omega
      have hkl : k < l.length := by have := HN.out; omega
      obtain ⟨b, o, rfl, hz5⟩ := (Sta.t (i := 1) HS4 rfl :).1 k hkl
      clear hz5
      obtain ⟨x0, hx0⟩ : ∃ y, l[k] = y := ⟨_, rfl⟩
      have HS6 := Sta.imp 1 (fun w' => (SA w' (some ⟨b, o, none⟩) l ∧ ArrU w' 0 keys ∧ 0 < w'.heap.size) ∧ w'.cell? ⟨b, o + k, none⟩ = some (.string x0)) HS4 rfl (fun w' h => ⟨h, by rw [← hx0]; exact (SA.here h.1 k hkl)⟩)
      have W0 : Hid (x0.size ≤ maxLen) := by have := HX.out l[k] (List.getElem_mem hkl); rw [hx0] at this; exact this
      by_cases h6 : 3000 < x0.size
      · as_aux_lemma =>
        have d6 : decide ((3000 : Int) < (x0.size : Int)) = true := decide_eq_true (by omega)
        have HF := hidP (StOk.not_big hkl hx0 h6)
        have tcHS6_1_0 : wl4.cell? ⟨b, o + k, none⟩ = some (.string x0) := (Sta.t (i := 1) HS6 rfl :).2
        go_wp2_with fail
        go_ret2
        exact ⟨Or.inr ⟨HF.out, rfl⟩, Sta.fin HS6⟩
      · have d6 : decide ((3000 : Int) < (x0.size : Int)) = false := decide_eq_false (by omega)
        have H6 := hidP h6
        obtain ⟨d, hd⟩ : ∃ d, digA x0 = d := ⟨_, rfl⟩
        have HD := hidP hd
        have HD32 : Hid (d.size = 32) := by rw [← hd]; exact digA_32 (by omega)
        clear hd h6
        cases hlt2 : nmLt A d
        · as_aux_lemma =>
          have d7 : (Op.bytesLess d.toList A.toList || d.toList == A.toList) = true := by rw [leq_not]; unfold nmLt at hlt2; rw [hlt2]; rfl
          have h0k : 0 < k := by
            rcases Nat.eq_zero_or_pos k with e | e
            · rw [HA.out.1 e, nmLt_nil (by have := HD32.out; omega)] at hlt2; cases hlt2
            · exact e
          have HF := hidP (StOk.not_rise hkl hx0 HD.out HA.out h0k hlt2)
          have tcHS6_1_0 : wl4.cell? ⟨b, o + k, none⟩ = some (.string x0) := (Sta.t (i := 1) HS6 rfl :).2
          go_wp2_with (first
            | (go_at_call 43; have n7_0 : ArrU wl4 0 keys ∧ 0 < wl4.heap.size := (Sta.t (i := 1) HS6 rfl :).1.2; (with_reducible refine (hC1 wl4 x0 d n7_0 W0.out HD.out).mono ?_); rintro r w7 ⟨rfl, hB7⟩; have HS7 := Sta.call HS6 hB7; clear hB7; clear tcHS6_1_0))
          go_ret2
          exact ⟨Or.inr ⟨HF.out, rfl⟩, Sta.fin HS7⟩
        · as_aux_lemma =>
          have d7 : (Op.bytesLess d.toList A.toList || d.toList == A.toList) = false := by rw [leq_not]; unfold nmLt at hlt2; rw [hlt2]; rfl
          have HP2 := hidP (PreOk.step HP.out HA.out hkl hx0 HD.out (by have := H6.out; omega) (Or.inr hlt2))
          have HA2 := hidP (AhdOk.step hkl hx0 HD.out)
          have tcHS6_1_0 : wl4.cell? ⟨b, o + k, none⟩ = some (.string x0) := (Sta.t (i := 1) HS6 rfl :).2
          go_wp2_with (first
            | (go_at_call 43; have n8_0 : ArrU wl4 0 keys ∧ 0 < wl4.heap.size := (Sta.t (i := 1) HS6 rfl :).1.2; (with_reducible refine (hC1 wl4 x0 d n8_0 W0.out HD.out).mono ?_); rintro r w8 ⟨rfl, hB8⟩; have HS8 := Sta.call HS6 hB8; clear hB8; clear tcHS6_1_0)
            | (go_at_call 45; (with_reducible refine (hC2 w8 d HD32.out).mono ?_); rintro r w9 ⟨rfl, hB9⟩; have HS9 := Sta.call HS8 hB9; clear hB9)
            | ((with_reducible refine wpList_putK (w := w9) (by with_unfolding_all rfl) (.tmp 29) (.tmp 31) (.tmp 33) (by with_unfolding_all rfl) B3 (l.take k) d x0 (by with_unfolding_all rfl) (by with_unfolding_all rfl) (by with_unfolding_all rfl) (Sta.t (i := 0) HS9 rfl) HD.out HD32.out (by have := HN.out; have := H5.out; rw [List.length_take]; unfold maxLen; omega) ?_); intro w10 hM10 hG10; have HS10 := Sta.upd 0 HS9 rfl HMB3.out hM10 hG10; clear hM10 hG10))
          have HS11 := Sta.imp 1 (fun w' => SA w' (some ⟨b, o, none⟩) l ∧ ArrU w' 0 keys ∧ 0 < w'.heap.size) HS10 rfl (fun w' h => h.1)
          have HS12 := Sta.imp 0 (fun w' => MapK w' B3 (l.take (k + 1))) HS11 rfl (fun w' h => h.snoc hkl hx0)
          go_roundw
          case rel => exact ⟨k + 1, d, by go_num, by go_num, hlt4, HP2, HA2, HS12⟩
          case measure => simp [intOf]; omega
end Go.Proofs.YtchfpiadfmnphaaDoor
namespace Go.Proofs.YtchfpiadfmnphaaDoor
open Go.RowKit
set_option linter.unusedVariables false

theorem implShelve_yes (a : Option Addr) (c n : Nat) (l : List ByteArray) (w : World) (hn : l.length = n) (h : SA w a l) (hm : n ≤ maxLen) (hx : ∀ x ∈ l, x.size ≤ maxLen) (hk : ArrU w 0 keys) (h0 : 0 < w.heap.size) (hs : StOk l) :
    Calls Tryd.prog 28 #[.agg #[.slice a n c]] w fun r w' => ∃ B, r = .returned (.tuple #[.map (some B), .bool true]) ∧ Made w w' (fun w2 => MapK w2 B l) ∧ Below w.heap.size w w' :=
  (implShelve a c n l w hn h hm hx hk h0).mono fun r w' ⟨h1, h2⟩ => h1.elim (fun ⟨_, B, h3, h4⟩ => ⟨B, h3, h4, h2⟩) (fun h3 => absurd hs h3.1)
theorem implShelve_no (a : Option Addr) (c n : Nat) (l : List ByteArray) (w : World) (hn : l.length = n) (h : SA w a l) (hm : n ≤ maxLen) (hx : ∀ x ∈ l, x.size ≤ maxLen) (hk : ArrU w 0 keys) (h0 : 0 < w.heap.size) (hs : ¬ StOk l) :
    Calls Tryd.prog 28 #[.agg #[.slice a n c]] w fun r w' => r = .returned (.tuple #[.map none, .bool false]) ∧ Below w.heap.size w w' :=
  (implShelve a c n l w hn h hm hx hk h0).mono fun r w' ⟨h1, h2⟩ => h1.elim (fun h3 => absurd h3.1 hs) (fun h3 => ⟨h3.2, h2⟩)
set_option maxRecDepth 100000 in
set_option maxHeartbeats 4000000 in
theorem implStRight (a : Option Addr) (c n : Nat) (l : List ByteArray) (w : World) (hn : l.length = n) (h : SA w a l) (hm : n ≤ maxLen) (hx : ∀ x ∈ l, x.size ≤ maxLen) (hk : ArrU w 0 keys) (h0 : 0 < w.heap.size) :
    Calls Tryd.prog 10 #[.agg #[.slice a n c]] w fun r w' => r = .returned (.bool (boolP (StOk l))) ∧ Below w.heap.size w w' := by
  have HX := hidP hx
  have HM := hidP hm
  have HN := hidP hn
  have hC1 : ∀ w0, (SA w0 a l ∧ ArrU w0 0 keys ∧ 0 < w0.heap.size) → (l.length = n) → (n ≤ maxLen) → (∀ x ∈ l, x.size ≤ maxLen) → (StOk l) → Calls Tryd.prog 28 #[.agg #[.slice a n c]] w0 fun r w' => ∃ (B : Nat), r = .returned (.tuple #[.map (some B), .bool true]) ∧ Below w0.heap.size w0 w' := fun w0 n0 n1 n2 n3 n4 => (implShelve_yes a c n l w0 n1 n0.1 n2 n3 n0.2.1 n0.2.2 n4).mono fun r w' ⟨B, h1, h2, h3⟩ => ⟨B, h1, h3⟩
  have hC2 : ∀ w0, (SA w0 a l ∧ ArrU w0 0 keys ∧ 0 < w0.heap.size) → (l.length = n) → (n ≤ maxLen) → (∀ x ∈ l, x.size ≤ maxLen) → (¬ StOk l) → Calls Tryd.prog 28 #[.agg #[.slice a n c]] w0 fun r w' => r = .returned (.tuple #[.map none, .bool false]) ∧ Below w0.heap.size w0 w' := fun w0 n0 n1 n2 n3 n4 => implShelve_no a c n l w0 n1 n0.1 n2 n3 n0.2.1 n0.2.2 n4
  have HS0 : Hid (Sta [] w [] [⟨fun k => k < w.heap.size, fun w' => SA w' a l ∧ ArrU w' 0 keys ∧ 0 < w'.heap.size⟩] w) := Sta.arg (fun w' => SA w' a l ∧ ArrU w' 0 keys ∧ 0 < w'.heap.size) (fun w' hb => ⟨h.below hb, hk.below hb h0, Nat.lt_of_lt_of_le h0 hb.size⟩)
  clear h hx hk h0 hm hn
  go_enter Tryd.func10, Tryd.ntmps10
  by_cases hf : StOk l
  · as_aux_lemma =>
    have HF := hidP hf
    clear hf
    go_wp2_with (first
      | ((with_reducible refine wpList_boxV (w := w) (by with_unfolding_all rfl) 27 (.tmp 0) (by with_unfolding_all rfl) [.slice a n c] (by with_unfolding_all rfl) ?_); intro w1 hA1 hB1 hS1; clear hS1; have HS1 := Sta.new HS0 hA1 hB1 (by simp); clear hA1 hB1)
      | ((with_reducible refine wpList_loadV (w := w1) (by with_unfolding_all rfl) 27 (.tmp 1) (by with_unfolding_all rfl) w.heap.size [.slice a n c] (by with_unfolding_all rfl) (Sta.r (i := 0) HS1 (by with_unfolding_all rfl)) Tryd.uT_implStore 1 Tryd.sT_implStore (by with_unfolding_all rfl) ?_))
      | (go_at_call 28; have n2_0 : SA w1 a l ∧ ArrU w1 0 keys ∧ 0 < w1.heap.size := (Sta.t (i := 0) HS1 rfl :); (with_reducible refine (hC1 w1 n2_0 HN.out HM.out HX.out HF.out).mono ?_); rintro r w2 ⟨B, rfl, hB2⟩; have HS2 := Sta.call HS1 hB2; clear hB2))
    go_ret
    exact ⟨congrArg (fun b => Ending.returned (Value.bool b)) (boolP_yes HF.out).symm, Sta.fin HS2⟩
  · as_aux_lemma =>
    have HF := hidP hf
    clear hf
    go_wp2_with (first
      | ((with_reducible refine wpList_boxV (w := w) (by with_unfolding_all rfl) 27 (.tmp 0) (by with_unfolding_all rfl) [.slice a n c] (by with_unfolding_all rfl) ?_); intro w3 hA3 hB3 hS3; clear hS3; have HS3 := Sta.new HS0 hA3 hB3 (by simp); clear hA3 hB3)
      | ((with_reducible refine wpList_loadV (w := w3) (by with_unfolding_all rfl) 27 (.tmp 1) (by with_unfolding_all rfl) w.heap.size [.slice a n c] (by with_unfolding_all rfl) (Sta.r (i := 0) HS3 (by with_unfolding_all rfl)) Tryd.uT_implStore 1 Tryd.sT_implStore (by with_unfolding_all rfl) ?_))
      | (go_at_call 28; have n4_0 : SA w3 a l ∧ ArrU w3 0 keys ∧ 0 < w3.heap.size := (Sta.t (i := 0) HS3 rfl :); (with_reducible refine (hC2 w3 n4_0 HN.out HM.out HX.out HF.out).mono ?_); rintro r w4 ⟨rfl, hB4⟩; have HS4 := Sta.call HS3 hB4; clear hB4))
    go_ret
    exact ⟨congrArg (fun b => Ending.returned (Value.bool b)) (boolP_no HF.out).symm, Sta.fin HS4⟩
end Go.Proofs.YtchfpiadfmnphaaDoor
