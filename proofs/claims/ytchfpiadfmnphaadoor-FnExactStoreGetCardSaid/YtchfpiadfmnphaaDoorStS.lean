/- Is a store right? On the specification's side. -/
import Derived.Test.YtchfpiadfmnphaaDoorStI
namespace Go.Proofs.YtchfpiadfmnphaaDoor
open Go.RowKit
set_option linter.unusedVariables false

set_option maxRecDepth 100000 in
set_option maxHeartbeats 8000000 in
theorem specStRight (a : Option Addr) (c n : Nat) (l : List ByteArray) (w : World) (hn : l.length = n) (h : SA w a l) (hm : n ≤ maxLen) (hx : ∀ x ∈ l, x.size ≤ maxLen) :
    Calls Tryd.prog 8 #[.agg #[.slice a n c]] w fun r w' => r = .returned (.bool (boolP (StOk l))) ∧ Below w.heap.size w w' := by
  unfold maxLen at hm
  have HN := hidP hn
  have HX := hidP hx
  have hC1 : ∀ w0 (x0 : ByteArray) (d : ByteArray), (x0.size ≤ maxLen) → (digA x0 = d) → Calls Tryd.prog 26 #[.string x0] w0 fun r w' => r = .returned (.string d) ∧ Below w0.heap.size w0 w' := fun w0 x0 d n0 n1 => by rw [← n1]; exact digestS_any x0 w0 n0
  have HS0 : Hid (Sta [] w [] [⟨fun k => k < w.heap.size, fun w' => SA w' a l⟩] w) := Sta.arg (fun w' => SA w' a l) (fun w' hb => h.below hb)
  clear hn h hx
  go_enter Tryd.func8, Tryd.ntmps8
  by_cases h5 : 60 < n
  · as_aux_lemma =>
    have d5 : decide ((60 : Int) < (n : Int)) = true := decide_eq_true (by omega)
    have HF := hidP (StOk.not_long HN.out h5)
    go_wp2_with (first
      | ((with_reducible refine wpList_boxV (w := w) (by with_unfolding_all rfl) 27 (.tmp 0) (by with_unfolding_all rfl) [.slice a n c] (by with_unfolding_all rfl) ?_); intro w1 hA1 hB1 hS1; clear hS1; have HS1 := Sta.new HS0 hA1 hB1 (by simp); clear hA1 hB1; have cHS1_0_0 : w1.cell? ⟨w.heap.size, 0, none⟩ = some (.slice a n c) := Sta.c (i := 0) HS1 rfl rfl))
    go_ret
    exact ⟨congrArg (fun b => Ending.returned (Value.bool b)) (boolP_no HF.out).symm, Sta.fin HS1⟩
  · have d5 : decide ((60 : Int) < (n : Int)) = false := decide_eq_false (by omega)
    have H5 := hidP h5
    go_wp2_with (first
      | ((with_reducible refine wpList_boxV (w := w) (by with_unfolding_all rfl) 27 (.tmp 0) (by with_unfolding_all rfl) [.slice a n c] (by with_unfolding_all rfl) ?_); intro w2 hA2 hB2 hS2; clear hS2; have HS2 := Sta.new HS0 hA2 hB2 (by simp); clear hA2 hB2; have cHS2_0_0 : w2.cell? ⟨w.heap.size, 0, none⟩ = some (.slice a n c) := Sta.c (i := 0) HS2 rfl rfl))
    clear cHS2_0_0
    go_loopw [4, 3] (fun v0 v1 wr => ∃ (k : Nat) (A : ByteArray), v0 = .int .i64 (k : Int) ∧ v1 = .string A ∧ k ≤ n ∧ Hid (PreOk l k) ∧ Hid (AhdOk l k A) ∧ Hid (Sta [] w [(w.heap.size, [.slice a n c])] [⟨fun k => k < w.heap.size, fun w' => SA w' a l⟩] wr)) (fun v0 v1 _ => n - (intOf v0).toNat)
    case atStart => exact ⟨0, ⟨#[]⟩, rfl, rfl, Nat.zero_le _, PreOk.zero l, AhdOk.zero l, HS2⟩
    case round =>
      rename Go.World => wl3
      clear HS2
      obtain ⟨k, A, rfl, rfl, hk3, HP, HA, HS3⟩ := hrel
      by_cases hlt3 : k < n
      case neg =>
        obtain rfl : n = k := by omega
        have HF := hidP (StOk.all HP.out HN.out H5.out)
        have cHS3_0_0 : wl3.cell? ⟨w.heap.size, 0, none⟩ = some (.slice a n c) := Sta.c (i := 0) HS3 rfl rfl
        go_wp2_with fail
        go_ret
        exact ⟨congrArg (fun b => Ending.returned (Value.bool b)) (boolP_yes HF.out).symm, Sta.fin HS3⟩
      have lk3 : (k : Int) < n := by omega
      have l03 : (0 : Int) ≤ k := by omega
      have hkl : k < l.length := by have := HN.out; omega
      obtain ⟨b, o, rfl, hz4⟩ := (Sta.t (i := 0) HS3 rfl :) k hkl
      clear hz4
      obtain ⟨x0, hx0⟩ : ∃ y, l[k] = y := ⟨_, rfl⟩
      have HS5 := Sta.imp 0 (fun w' => (SA w' (some ⟨b, o, none⟩) l) ∧ w'.cell? ⟨b, o + k, none⟩ = some (.string x0)) HS3 rfl (fun w' h => ⟨h, by rw [← hx0]; exact (SA.here h k hkl)⟩)
      have W0 : Hid (x0.size ≤ maxLen) := by have := HX.out l[k] (List.getElem_mem hkl); rw [hx0] at this; exact this
      by_cases h6 : 3000 < x0.size
      · as_aux_lemma =>
        have d6 : decide ((3000 : Int) < (x0.size : Int)) = true := decide_eq_true (by omega)
        have HF := hidP (StOk.not_big hkl hx0 h6)
        have cHS5_0_0 : wl3.cell? ⟨w.heap.size, 0, none⟩ = some (.slice (some ⟨b, o, none⟩) n c) := Sta.c (i := 0) HS5 rfl rfl
        have tcHS5_0_0 : wl3.cell? ⟨b, o + k, none⟩ = some (.string x0) := (Sta.t (i := 0) HS5 rfl :).2
        go_wp2_with fail
        go_ret
        exact ⟨congrArg (fun b => Ending.returned (Value.bool b)) (boolP_no HF.out).symm, Sta.fin HS5⟩
      · have d6 : decide ((3000 : Int) < (x0.size : Int)) = false := decide_eq_false (by omega)
        have H6 := hidP h6
        obtain ⟨d, hd⟩ : ∃ d, digA x0 = d := ⟨_, rfl⟩
        have HD := hidP hd
        have HD32 : Hid (d.size = 32) := by rw [← hd]; exact digA_32 (by omega)
        clear hd h6
        have hb3 : k = 0 ∨ (0 < k ∧ nmLt A d = true) ∨ (0 < k ∧ nmLt A d = false) := by cases nmLt A d <;> simp <;> omega
        rcases hb3 with hk0 | ⟨hk0, hlt2⟩ | ⟨hk0, hlt2⟩
        · as_aux_lemma =>
          have d5b : decide ((0 : Int) < (k : Int)) = false := decide_eq_false (by omega)
          have HP2 := hidP (PreOk.step HP.out HA.out hkl hx0 HD.out (by have := H6.out; omega) (Or.inl hk0))
          have HA2 := hidP (AhdOk.step hkl hx0 HD.out)
          have hkn : ¬ (0 < k) := by omega
          clear hk0
          have cHS5_0_0 : wl3.cell? ⟨w.heap.size, 0, none⟩ = some (.slice (some ⟨b, o, none⟩) n c) := Sta.c (i := 0) HS5 rfl rfl
          have tcHS5_0_0 : wl3.cell? ⟨b, o + k, none⟩ = some (.string x0) := (Sta.t (i := 0) HS5 rfl :).2
          go_wp2_with (first
            | (go_at_call 26; (with_reducible refine (hC1 wl3 x0 d W0.out HD.out).mono ?_); rintro r w6 ⟨rfl, hB6⟩; have HS6 := Sta.call HS5 hB6; clear hB6; clear cHS5_0_0 tcHS5_0_0))
          have HS7 := Sta.imp 0 (fun w' => SA w' (some ⟨b, o, none⟩) l) HS6 rfl (fun w' h => h.1)
          go_roundw
          case rel => exact ⟨k + 1, d, by go_num, by go_num, hlt3, HP2, HA2, HS7⟩
          case measure => simp [intOf]; omega
        · as_aux_lemma =>
          have d5b : decide ((0 : Int) < (k : Int)) = true := decide_eq_true (by omega)
          have d7 : Op.bytesLess A.toList d.toList = true := hlt2
          have HP2 := hidP (PreOk.step HP.out HA.out hkl hx0 HD.out (by have := H6.out; omega) (Or.inr hlt2))
          have HA2 := hidP (AhdOk.step hkl hx0 HD.out)
          have cHS5_0_0 : wl3.cell? ⟨w.heap.size, 0, none⟩ = some (.slice (some ⟨b, o, none⟩) n c) := Sta.c (i := 0) HS5 rfl rfl
          have tcHS5_0_0 : wl3.cell? ⟨b, o + k, none⟩ = some (.string x0) := (Sta.t (i := 0) HS5 rfl :).2
          go_wp2_with (first
            | (go_at_call 26; (with_reducible refine (hC1 wl3 x0 d W0.out HD.out).mono ?_); rintro r w8 ⟨rfl, hB8⟩; have HS8 := Sta.call HS5 hB8; clear hB8; clear cHS5_0_0 tcHS5_0_0))
          have HS9 := Sta.imp 0 (fun w' => SA w' (some ⟨b, o, none⟩) l) HS8 rfl (fun w' h => h.1)
          go_roundw
          case rel => exact ⟨k + 1, d, by go_num, by go_num, hlt3, HP2, HA2, HS9⟩
          case measure => simp [intOf]; omega
        · as_aux_lemma =>
          have d5b : decide ((0 : Int) < (k : Int)) = true := decide_eq_true (by omega)
          have d7 : Op.bytesLess A.toList d.toList = false := hlt2
          have HF := hidP (StOk.not_rise hkl hx0 HD.out HA.out hk0 hlt2)
          have cHS5_0_0 : wl3.cell? ⟨w.heap.size, 0, none⟩ = some (.slice (some ⟨b, o, none⟩) n c) := Sta.c (i := 0) HS5 rfl rfl
          have tcHS5_0_0 : wl3.cell? ⟨b, o + k, none⟩ = some (.string x0) := (Sta.t (i := 0) HS5 rfl :).2
          go_wp2_with (first
            | (go_at_call 26; (with_reducible refine (hC1 wl3 x0 d W0.out HD.out).mono ?_); rintro r w10 ⟨rfl, hB10⟩; have HS10 := Sta.call HS5 hB10; clear hB10; clear cHS5_0_0 tcHS5_0_0))
          go_ret
          exact ⟨congrArg (fun b => Ending.returned (Value.bool b)) (boolP_no HF.out).symm, Sta.fin HS10⟩
end Go.Proofs.YtchfpiadfmnphaaDoor
