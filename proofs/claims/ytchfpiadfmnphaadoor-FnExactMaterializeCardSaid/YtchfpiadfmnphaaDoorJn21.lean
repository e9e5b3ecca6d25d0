/- Is a store right? On the specification's side. A text by its digest: in the list, in the map. StoreGet, on both sides. -/
import Derived.Test.YtchfpiadfmnphaaDoorJn9
import Derived.Test.YtchfpiadfmnphaaDoorJn10
import Derived.Test.YtchfpiadfmnphaaDoorOwnT
namespace Go.Proofs.YtchfpiadfmnphaaDoor
open Go.RowKit
set_option linter.unusedVariables false

set_option maxRecDepth 100000 in
set_option maxHeartbeats 8000000 in
theorem specStRight (a : Option Addr) (c n : Nat) (l : List ByteArray) (w : World) (hn : l.length = n) (h : SA w a l) (hm : n ≤ maxLen) (hx : ∀ x ∈ l, x.size ≤ maxLen) :
    Calls Tryd.prog 8 #[.agg #[.slice a n c]] w fun r w' => r = .returned (.bool (boolP (StOk l))) ∧ Below w.heap.size w w' := by
  unfold maxLen at hm
  have HN := hidP hn
  have HX := hidP hx
  have hC1 : ∀ w0 (x0 : ByteArray) (d : ByteArray), (x0.size ≤ maxLen) → (digA x0 = d) → Calls Tryd.prog 26 #[.string x0] w0 fun r w' => r = .returned (.string d) ∧ Below w0.heap.size w0 w' := fun w0 x0 d n0 n1 => by rw [← n1]; exact digestS_any x0 w0 n0
  have HS0 : Hid (Sta [] w [] [⟨fun k => k < w.heap.size, fun w' => SA w' a l⟩] w) := Sta.arg (fun w' => SA w' a l) (fun w' hb => h.below hb)
  clear hn h hx
  go_enter Tryd.func8, Tryd.ntmps8
  by_cases h5 : 60 < n
  · as_aux_lemma =>
    have d5 : decide ((60 : Int) < (n : Int)) = true := decide_eq_true (by omega)
    have HF := hidP (StOk.not_long HN.out h5)
    go_wp2_with (first
      | ((with_reducible refine wpList_boxV (w := w) (by with_unfolding_all rfl) 27 (.tmp 0) (by with_unfolding_all rfl) [.slice a n c] (by with_unfolding_all rfl) ?_); intro w1 hA1 hB1 hS1; clear hS1; have HS1 := Sta.new HS0 hA1 hB1 (by simp); clear hA1 hB1; have cHS1_0_0 : w1.cell? ⟨w.heap.size, 0, none⟩ = some (.slice a n c) := Sta.c (i := 0) HS1 rfl rfl))
    go_ret
    exact ⟨congrArg (fun b => Ending.returned (Value.bool b)) (boolP_no HF.out).symm, Sta.fin HS1⟩
  · have d5 : decide ((60 : Int) < (n : Int)) = false := decide_eq_false (by omega)
    have H5 := hidP h5
    go_wp2_with (first
      | ((with_reducible refine wpList_boxV (w := w) (by with_unfolding_all rfl) 27 (.tmp 0) (by with_unfolding_all rfl) [.slice a n c] (by with_unfolding_all rfl) ?_); intro w2 hA2 hB2 hS2; clear hS2; have HS2 := Sta.new HS0 hA2 hB2 (by simp); clear hA2 hB2; have cHS2_0_0 : w2.cell? ⟨w.heap.size, 0, none⟩ = some (.slice a n c) := Sta.c (i := 0) HS2 rfl rfl))
    clear cHS2_0_0
    go_loopw [4, 3] (fun v0 v1 wr => ∃ (k : Nat) (A : ByteArray), v0 = .int .i64 (k : Int) ∧ v1 = .string A ∧ k ≤ n ∧ Hid (PreOk l k) ∧ Hid (AhdOk l k A) ∧ Hid (Sta [] w [(w.heap.size, [.slice a n c])] [⟨fun k => k < w.heap.size, fun w' => SA w' a l⟩] wr)) (fun v0 v1 _ => n - (intOf v0).toNat)
    case atStart => exact ⟨0, ⟨#[]⟩, rfl, rfl, Nat.zero_le _, PreOk.zero l, AhdOk.zero l, HS2⟩
    case round =>
      rename Go.World => wl3
      clear HS2
      obtain ⟨k, A, rfl, rfl, hk3, HP, HA, HS3⟩ := hrel
      by_cases hlt3 : k < n
      case neg =>
        obtain rfl : n = k := by omega
        have HF := hidP (StOk.all HP.out HN.out H5.out)
        have cHS3_0_0 : wl3.cell? ⟨w.heap.size, 0, none⟩ = some (.slice a n c) := Sta.c (i := 0) HS3 rfl rfl
        go_wp2_with fail
        go_ret
        exact ⟨congrArg (fun b => Ending.returned (Value.bool b)) (boolP_yes HF.out).symm, Sta.fin HS3⟩
      have lk3 : (k : Int) < n := by omega
      have l03 : (0 : Int) ≤ k := by omega
      have hkl : k < l.length := by have := HN.out; omega
      obtain ⟨b, o, rfl, hz4⟩ := (Sta.t (i := 0) HS3 rfl :) k hkl
      clear hz4
      obtain ⟨x0, hx0⟩ : ∃ y, l[k] = y := ⟨_, rfl⟩
      have HS5 := Sta.imp 0 (fun w' => (SA w' (some ⟨b, o, none⟩) l) ∧ w'.cell? ⟨b, o + k, none⟩ = some (.string x0)) HS3 rfl (fun w' h => ⟨h, by rw [← hx0]; exact (SA.here h k hkl)⟩)
      have W0 : Hid (x0.size ≤ maxLen) := by have := HX.out l[k] (List.getElem_mem hkl); rw [hx0] at this; exact this
      by_cases h6 : 3000 < x0.size
      · as_aux_lemma =>
        have d6 : decide ((3000 : Int) < (x0.size : Int)) = true := decide_eq_true (by omega)
        have HF := hidP (StOk.not_big hkl hx0 h6)
        have cHS5_0_0 : wl3.cell? ⟨w.heap.size, 0, none⟩ = some (.slice (some ⟨b, o, none⟩) n c) := Sta.c (i := 0) HS5 rfl rfl
        have tcHS5_0_0 : wl3.cell? ⟨b, o + k, none⟩ = some (.string x0) := (Sta.t (i := 0) HS5 rfl :).2
        go_wp2_with fail
        go_ret
        exact ⟨congrArg (fun b => Ending.returned (Value.bool b)) (boolP_no HF.out).symm, Sta.fin HS5⟩
      · have d6 : decide ((3000 : Int) < (x0.size : Int)) = false := decide_eq_false (by omega)
        have H6 := hidP h6
        obtain ⟨d, hd⟩ : ∃ d, digA x0 = d := ⟨_, rfl⟩
        have HD := hidP hd
        have HD32 : Hid (d.size = 32) := by rw [← hd]; exact digA_32 (by omega)
        clear hd h6
        have hb3 : k = 0 ∨ (0 < k ∧ nmLt A d = true) ∨ (0 < k ∧ nmLt A d = false) := by cases nmLt A d <;> simp <;> omega
        rcases hb3 with hk0 | ⟨hk0, hlt2⟩ | ⟨hk0, hlt2⟩
        · as_aux_lemma =>
          have d5b : decide ((0 : Int) < (k : Int)) = false := decide_eq_false (by omega)
          have HP2 := hidP (PreOk.step HP.out HA.out hkl hx0 HD.out (by have := H6.out; omega) (Or.inl hk0))
          have HA2 := hidP (AhdOk.step hkl hx0 HD.out)
          have hkn : ¬ (0 < k) := by omega
          clear hk0
          have cHS5_0_0 : wl3.cell? ⟨w.heap.size, 0, none⟩ = some (.slice (some ⟨b, o, none⟩) n c) := Sta.c (i := 0) HS5 rfl rfl
          have tcHS5_0_0 : wl3.cell? ⟨b, o + k, none⟩ = some (.string x0) := (Sta.t (i := 0) HS5 rfl :).2
          go_wp2_with (first
            | (go_at_call 26; (with_reducible refine (hC1 wl3 x0 d W0.out HD.out).mono ?_); rintro r w6 ⟨rfl, hB6⟩; have HS6 := Sta.call HS5 hB6; clear hB6; clear cHS5_0_0 tcHS5_0_0))
          have HS7 := Sta.imp 0 (fun w' => SA w' (some ⟨b, o, none⟩) l) HS6 rfl (fun w' h => h.1)
          go_roundw
          case rel => exact ⟨k + 1, d, by go_num, by go_num, hlt3, HP2, HA2, HS7⟩
          case measure => simp [intOf]; omega
        · as_aux_lemma =>
          have d5b : decide ((0 : Int) < (k : Int)) = true := decide_eq_true (by omega)
          have d7 : Op.bytesLess A.toList d.toList = true := hlt2
          have HP2 := hidP (PreOk.step HP.out HA.out hkl hx0 HD.out (by have := H6.out; omega) (Or.inr hlt2))
          have HA2 := hidP (AhdOk.step hkl hx0 HD.out)
          have cHS5_0_0 : wl3.cell? ⟨w.heap.size, 0, none⟩ = some (.slice (some ⟨b, o, none⟩) n c) := Sta.c (i := 0) HS5 rfl rfl
          have tcHS5_0_0 : wl3.cell? ⟨b, o + k, none⟩ = some (.string x0) := (Sta.t (i := 0) HS5 rfl :).2
          go_wp2_with (first
            | (go_at_call 26; (with_reducible refine (hC1 wl3 x0 d W0.out HD.out).mono ?_); rintro r w8 ⟨rfl, hB8⟩; have HS8 := Sta.call HS5 hB8; clear hB8; clear cHS5_0_0 tcHS5_0_0))
          have HS9 := Sta.imp 0 (fun w' => SA w' (some ⟨b, o, none⟩) l) HS8 rfl (fun w' h => h.1)
          go_roundw
          case rel => exact ⟨k + 1, d, by go_num, by go_num, hlt3, HP2, HA2, HS9⟩
          case measure => simp [intOf]; omega
        · as_aux_lemma =>
          have d5b : decide ((0 : Int) < (k : Int)) = true := decide_eq_true (by omega)
          have d7 : Op.bytesLess A.toList d.toList = false := hlt2
          have HF := hidP (StOk.not_rise hkl hx0 HD.out HA.out hk0 hlt2)
          have cHS5_0_0 : wl3.cell? ⟨w.heap.size, 0, none⟩ = some (.slice (some ⟨b, o, none⟩) n c) := Sta.c (i := 0) HS5 rfl rfl
          have tcHS5_0_0 : wl3.cell? ⟨b, o + k, none⟩ = some (.string x0) := (Sta.t (i := 0) HS5 rfl :).2
          go_wp2_with (first
            | (go_at_call 26; (with_reducible refine (hC1 wl3 x0 d W0.out HD.out).mono ?_); rintro r w10 ⟨rfl, hB10⟩; have HS10 := Sta.call HS5 hB10; clear hB10; clear cHS5_0_0 tcHS5_0_0))
          go_ret
          exact ⟨congrArg (fun b => Ending.returned (Value.bool b)) (boolP_no HF.out).symm, Sta.fin HS10⟩
end Go.Proofs.YtchfpiadfmnphaaDoor
namespace Go.Proofs.YtchfpiadfmnphaaDoor
open Go.RowKit
set_option linter.unusedVariables false

set_option maxRecDepth 100000 in
set_option maxHeartbeats 8000000 in
theorem specFind (a : Option Addr) (c n : Nat) (l : List ByteArray) (t : ByteArray) (w : World) (hn : l.length = n) (h : SA w a l) (hm : n ≤ maxLen) (hx : ∀ x ∈ l, x.size ≤ maxLen) (ht : t.size ≤ maxLen) :
    Calls Tryd.prog 30 #[.agg #[.slice a n c], .string t] w fun r w' => r = .returned (getV (findO l t)) ∧ Below w.heap.size w w' := by
  have HM := hidP hm
  unfold maxLen at hm
  have HN := hidP hn
  have HX := hidP hx
  have HT := hidP ht
  unfold maxLen at ht
  have hC1 : ∀ w0 (x0 : ByteArray) (d : ByteArray), (x0.size ≤ maxLen) → (digA x0 = d) → Calls Tryd.prog 26 #[.string x0] w0 fun r w' => r = .returned (.string d) ∧ Below w0.heap.size w0 w' := fun w0 x0 d n0 n1 => by rw [← n1]; exact digestS_any x0 w0 n0
  have HS0 : Hid (Sta [] w [] [⟨fun k => k < w.heap.size, fun w' => SA w' a l⟩] w) := Sta.arg (fun w' => SA w' a l) (fun w' hb => h.below hb)
  clear hn h hx
  go_enter Tryd.func30, Tryd.ntmps30
  go_wp2_with (first
    | ((with_reducible refine wpList_boxV (w := w) (by with_unfolding_all rfl) 27 (.tmp 0) (by with_unfolding_all rfl) [.slice a n c] (by with_unfolding_all rfl) ?_); intro w1 hA1 hB1 hS1; clear hS1; have HS1 := Sta.new HS0 hA1 hB1 (by simp); clear hA1 hB1))
  go_loopw [6] (fun v0 wr => ∃ (k : Nat), v0 = .int .i64 (k : Int) ∧ k ≤ n ∧ Hid (findO (l.take k) t = none) ∧ Hid (Sta [] w [(w.heap.size, [.slice a n c])] [⟨fun k => k < w.heap.size, fun w' => SA w' a l⟩] wr)) (fun v0 _ => n - (intOf v0).toNat)
  case atStart => exact ⟨0, rfl, Nat.zero_le _, rfl, HS1⟩
  case round =>
    rename Go.World => wl2
    clear HS1
    obtain ⟨k, rfl, hk2, HNo, HS2⟩ := hrel
    by_cases hlt2 : k < n
    case neg =>
      obtain rfl : n = k := by omega
      have HF := hidP (findO_all HNo.out HN.out)
      have cHS2_0_0 : wl2.cell? ⟨w.heap.size, 0, none⟩ = some (.slice a n c) := Sta.c (i := 0) HS2 rfl rfl
      go_wp2_with fail
      go_ret2
      exact ⟨by rw [HF.out]; rfl, Sta.fin HS2⟩
    have lk2 : (k : Int) < n := by omega
    have l02 : (0 : Int) ≤ k := by omega
    have hkl : k < l.length := by have := HN.out; omega
    obtain ⟨b, o, rfl, hz3⟩ := (Sta.t (i := 0) HS2 rfl :) k hkl
    clear hz3
    obtain ⟨x0, hx0⟩ : ∃ y, l[k] = y := ⟨_, rfl⟩
    have HS4 := Sta.imp 0 (fun w' => (SA w' (some ⟨b, o, none⟩) l) ∧ w'.cell? ⟨b, o + k, none⟩ = some (.string x0)) HS2 rfl (fun w' h => ⟨h, by rw [← hx0]; exact (SA.here h k hkl)⟩)
    have W0 : Hid (x0.size ≤ maxLen) := by have := HX.out l[k] (List.getElem_mem hkl); rw [hx0] at this; exact this
    obtain ⟨d, hd⟩ : ∃ d, digA x0 = d := ⟨_, rfl⟩
    have HD := hidP hd
    clear hd
    by_cases he : d = t
    · as_aux_lemma =>
      have HF := hidP (findO_hit hkl hx0 HNo.out (HD.out.trans he))
      subst he
      have hq := txt_eq d
      have cHS4_0_0 : wl2.cell? ⟨w.heap.size, 0, none⟩ = some (.slice (some ⟨b, o, none⟩) n c) := Sta.c (i := 0) HS4 rfl rfl
      have tcHS4_0_0 : wl2.cell? ⟨b, o + k, none⟩ = some (.string x0) := (Sta.t (i := 0) HS4 rfl :).2
      go_wp2_with (first
        | (go_at_call 26; (with_reducible refine (hC1 wl2 x0 d W0.out HD.out).mono ?_); rintro r w5 ⟨rfl, hB5⟩; have HS5 := Sta.call HS4 hB5; clear hB5; clear cHS4_0_0 tcHS4_0_0; have cHS5_0_0 : w5.cell? ⟨w.heap.size, 0, none⟩ = some (.slice (some ⟨b, o, none⟩) n c) := Sta.c (i := 0) HS5 rfl rfl; have tcHS5_0_0 : w5.cell? ⟨b, o + k, none⟩ = some (.string x0) := (Sta.t (i := 0) HS5 rfl :).2))
      go_ret2
      exact ⟨by rw [HF.out]; rfl, Sta.fin HS5⟩
    · as_aux_lemma =>
      have HNo2 := hidP (findO_step hkl hx0 HNo.out (fun q => he (HD.out.symm.trans q)))
      have hq := txt_ne he
      have cHS4_0_0 : wl2.cell? ⟨w.heap.size, 0, none⟩ = some (.slice (some ⟨b, o, none⟩) n c) := Sta.c (i := 0) HS4 rfl rfl
      have tcHS4_0_0 : wl2.cell? ⟨b, o + k, none⟩ = some (.string x0) := (Sta.t (i := 0) HS4 rfl :).2
      go_wp2_with (first
        | (go_at_call 26; (with_reducible refine (hC1 wl2 x0 d W0.out HD.out).mono ?_); rintro r w6 ⟨rfl, hB6⟩; have HS6 := Sta.call HS4 hB6; clear hB6; clear cHS4_0_0 tcHS4_0_0))
      have HS7 := Sta.imp 0 (fun w' => SA w' (some ⟨b, o, none⟩) l) HS6 rfl (fun w' h => h.1)
      go_roundw
      case rel => exact ⟨k + 1, by go_num, hlt2, HNo2, HS7⟩
      case measure => simp [intOf]; omega
set_option maxRecDepth 100000 in
set_option maxHeartbeats 8000000 in
theorem implGet (B : Nat) (l : List ByteArray) (t : ByteArray) (w : World) (hM : MapK w B l) (hS : StOk l) (ht : t.size ≤ maxLen) :
    Calls Tryd.prog 44 #[.map (some B), .string t] w fun r w' => r = .returned (getV (findO l t)) ∧ Below w.heap.size w w' := by
  have HS9 := hidP hS
  have HT := hidP ht
  have hC1 : ∀ w0, (t.size ≤ maxLen) → (decide (t.size = 32) = false) → Calls Tryd.prog 63 #[.string t] w0 fun r w' => r = .returned (.bool false) ∧ w0 = w' := fun w0 n0 n1 => by rw [← n1]; exact sizedI t w0 n0
  have hC2 : ∀ w0, (t.size ≤ maxLen) → (decide (t.size = 32) = true) → Calls Tryd.prog 63 #[.string t] w0 fun r w' => r = .returned (.bool true) ∧ w0 = w' := fun w0 n0 n1 => by rw [← n1]; exact sizedI t w0 n0
  have hC3 : ∀ w0, (t.size = 32) → Calls Tryd.prog 45 #[.string t] w0 fun r w' => r = .returned (.agg (kyv t).toArray) ∧ Below w0.heap.size w0 w' := fun w0 n0 => keyOfI t w0 n0
  have HS0 : Hid (Sta [] w [] [⟨fun k => k < w.heap.size, fun w' => MapK w' B l⟩] w) := Sta.arg (fun w' => MapK w' B l) (fun w' hb => hM.same (hb.block B hM.lt))
  clear hM hS ht
  go_enter Tryd.func44, Tryd.ntmps44
  have hb3 : (¬ t.size = 32 ∧ findO l t = none) ∨ (t.size = 32 ∧ findO l t = none) ∨ (∃ X, t.size = 32 ∧ findO l t = some X) := by
    cases hf : findO l t with
    | none => by_cases g : t.size = 32 <;> simp [g]
    | some X => exact Or.inr (Or.inr ⟨X, findO_size HS9.out hf, rfl⟩)
  rcases hb3 with ⟨g, hf⟩ | ⟨g, hf⟩ | ⟨X, g, hf⟩
  · as_aux_lemma =>
    have hd : decide (t.size = 32) = false := decide_eq_false g
    have HF := hidP hf
    clear hf
    go_wp2_with (first
      | (go_at_call 63; (with_reducible refine (hC1 w HT.out hd).mono ?_); rintro r w' ⟨rfl, rfl⟩))
    go_ret2
    exact ⟨by rw [HF.out]; rfl, Sta.fin HS0⟩
  · as_aux_lemma =>
    have hd : decide (t.size = 32) = true := decide_eq_true g
    have HF := hidP hf
    have H32 := hidP g
    clear hf g
    go_wp2_with (first
      | (go_at_call 63; (with_reducible refine (hC2 w HT.out hd).mono ?_); rintro r w' ⟨rfl, rfl⟩)
      | (go_at_call 45; (with_reducible refine (hC3 w H32.out).mono ?_); rintro r w3 ⟨rfl, hB3⟩; have HS3 := Sta.call HS0 hB3; clear hB3)
      | ((with_reducible refine wpList_lookK (w := w3) (by with_unfolding_all rfl) (.tmp 12) (.tmp 14) (by with_unfolding_all rfl) B l t (.tuple #[.agg #[.string ⟨#[]⟩], .bool false]) (by with_unfolding_all rfl) (by with_unfolding_all rfl) (Sta.t (i := 0) HS3 rfl) H32.out HS9.out (by rw [HF.out]) ?_))
      | ((with_reducible refine wpList_allocV (w := w3) (by with_unfolding_all rfl) 69 (by with_unfolding_all rfl) [.string ⟨#[]⟩] Tryd.zT_implstored ?_); intro w4 hA4 hB4 hS4; clear hS4; have HS4 := Sta.new HS3 hA4 hB4 (by simp); clear hA4 hB4)
      | ((with_reducible refine wpList_storeS (w := w4) (by with_unfolding_all rfl) 69 (.tmp 6) (.tmp 16) (by with_unfolding_all rfl) w3.heap.size [.string ⟨#[]⟩] [.string ⟨#[]⟩] (by with_unfolding_all rfl) (by with_unfolding_all rfl) (Sta.r (i := 0) HS4 (by with_unfolding_all rfl)) 1 Tryd.sT_implstored (by with_unfolding_all rfl) (by with_unfolding_all rfl) (by with_unfolding_all rfl) ?_); intro w5 hA5 hO5; have HS5 := Sta.put 0 HS4 rfl hA5 (by simp) hO5; clear hA5 hO5; have cHS5_0_0 : w5.cell? ⟨w3.heap.size, 0, none⟩ = some (.string ⟨#[]⟩) := Sta.c (i := 0) HS5 rfl rfl))
    go_ret2
    exact ⟨by rw [HF.out]; rfl, Sta.fin HS5⟩
  · as_aux_lemma =>
    have hd : decide (t.size = 32) = true := decide_eq_true g
    have HF := hidP hf
    have H32 := hidP g
    clear hf g
    go_wp2_with (first
      | (go_at_call 63; (with_reducible refine (hC2 w HT.out hd).mono ?_); rintro r w' ⟨rfl, rfl⟩)
      | (go_at_call 45; (with_reducible refine (hC3 w H32.out).mono ?_); rintro r w7 ⟨rfl, hB7⟩; have HS7 := Sta.call HS0 hB7; clear hB7)
      | ((with_reducible refine wpList_lookK (w := w7) (by with_unfolding_all rfl) (.tmp 12) (.tmp 14) (by with_unfolding_all rfl) B l t (.tuple #[.agg #[.string X], .bool true]) (by with_unfolding_all rfl) (by with_unfolding_all rfl) (Sta.t (i := 0) HS7 rfl) H32.out HS9.out (by rw [HF.out]) ?_))
      | ((with_reducible refine wpList_allocV (w := w7) (by with_unfolding_all rfl) 69 (by with_unfolding_all rfl) [.string ⟨#[]⟩] Tryd.zT_implstored ?_); intro w8 hA8 hB8 hS8; clear hS8; have HS8 := Sta.new HS7 hA8 hB8 (by simp); clear hA8 hB8)
      | ((with_reducible refine wpList_storeS (w := w8) (by with_unfolding_all rfl) 69 (.tmp 6) (.tmp 16) (by with_unfolding_all rfl) w7.heap.size [.string ⟨#[]⟩] [.string X] (by with_unfolding_all rfl) (by with_unfolding_all rfl) (Sta.r (i := 0) HS8 (by with_unfolding_all rfl)) 1 Tryd.sT_implstored (by with_unfolding_all rfl) (by with_unfolding_all rfl) (by with_unfolding_all rfl) ?_); intro w9 hA9 hO9; have HS9 := Sta.put 0 HS8 rfl hA9 (by simp) hO9; clear hA9 hO9; have cHS9_0_0 : w9.cell? ⟨w7.heap.size, 0, none⟩ = some (.string X) := Sta.c (i := 0) HS9 rfl rfl))
    go_ret2
    exact ⟨by rw [HF.out]; rfl, Sta.fin HS9⟩
end Go.Proofs.YtchfpiadfmnphaaDoor
namespace Go.Proofs.YtchfpiadfmnphaaDoor
open Go.RowKit
set_option linter.unusedVariables false

set_option maxRecDepth 100000 in
set_option maxHeartbeats 8000000 in
theorem implFetch (a : Option Addr) (c n : Nat) (l : List ByteArray) (t : ByteArray) (w : World) (hn : l.length = n) (h : SA w a l) (hm : n ≤ maxLen) (hx : ∀ x ∈ l, x.size ≤ maxLen) (hk : ArrU w 0 keys) (h0 : 0 < w.heap.size) (ht : t.size ≤ maxLen) :
    Calls Tryd.prog 31 #[.agg #[.slice a n c], .string t] w fun r w' => ∃ (M : Value), r = .returned (.tuple #[M, .string (getY l t), .int .i64 (getC l t)]) ∧ (getC l t = 0 → StOk l ∧ ∃ B, M = .map (some B) ∧ Made w w' (fun w2 => MapK w2 B l)) ∧ Below w.heap.size w w' := by
  have HM := hidP hm
  unfold maxLen at hm
  have HN := hidP hn
  have HX := hidP hx
  have HT := hidP ht
  unfold maxLen at ht
  have hC1 : ∀ w0, (SA w0 a l ∧ ArrU w0 0 keys ∧ 0 < w0.heap.size) → (l.length = n) → (n ≤ maxLen) → (∀ x ∈ l, x.size ≤ maxLen) → (¬ StOk l) → Calls Tryd.prog 28 #[.agg #[.slice a n c]] w0 fun r w' => r = .returned (.tuple #[.map none, .bool false]) ∧ Below w0.heap.size w0 w' := fun w0 n0 n1 n2 n3 n4 => implShelve_no a c n l w0 n1 n0.1 n2 n3 n0.2.1 n0.2.2 n4
  have hC2 : ∀ w0, (SA w0 a l ∧ ArrU w0 0 keys ∧ 0 < w0.heap.size) → (l.length = n) → (n ≤ maxLen) → (∀ x ∈ l, x.size ≤ maxLen) → (StOk l) → Calls Tryd.prog 28 #[.agg #[.slice a n c]] w0 fun r w' => ∃ (B : Nat), r = .returned (.tuple #[.map (some B), .bool true]) ∧ Made w0 w' (fun w2 => MapK w2 B l) ∧ Below w0.heap.size w0 w' := fun w0 n0 n1 n2 n3 n4 => implShelve_yes a c n l w0 n1 n0.1 n2 n3 n0.2.1 n0.2.2 n4
  have hC3 : ∀ w0 (B : Nat), (MapK w0 B l) → (StOk l) → (t.size ≤ maxLen) → (findO l t = none) → Calls Tryd.prog 44 #[.map (some B), .string t] w0 fun r w' => r = .returned (.tuple #[.string ⟨#[]⟩, .bool false]) ∧ Below w0.heap.size w0 w' := fun w0 B n0 n1 n2 n3 => by have := implGet B l t w0 n0 n1 n2; rw [n3] at this; exact this
  have hC4 : ∀ w0 (X : ByteArray) (B : Nat), (MapK w0 B l) → (StOk l) → (t.size ≤ maxLen) → (findO l t = some X) → Calls Tryd.prog 44 #[.map (some B), .string t] w0 fun r w' => r = .returned (.tuple #[.string X, .bool true]) ∧ Below w0.heap.size w0 w' := fun w0 X B n0 n1 n2 n3 => by have := implGet B l t w0 n0 n1 n2; rw [n3] at this; exact this
  have HS0 : Hid (Sta [] w [] [⟨fun k => k < w.heap.size, fun w' => SA w' a l ∧ ArrU w' 0 keys ∧ 0 < w'.heap.size⟩] w) := Sta.arg (fun w' => SA w' a l ∧ ArrU w' 0 keys ∧ 0 < w'.heap.size) (fun w' hb => ⟨h.below hb, hk.below hb h0, Nat.lt_of_lt_of_le h0 hb.size⟩)
  clear hn h hx hk h0
  go_enter Tryd.func31, Tryd.ntmps31
  rcases get_cases l t with ⟨g, hc, hy⟩ | ⟨g, hs, hc, hy⟩ | ⟨g, hs, hf, hc, hy⟩ | ⟨X, g, hs, hf, hc, hy⟩
  · as_aux_lemma =>
    have d5 : decide ((20000 : Int) < (t.size : Int)) = true := decide_eq_true (by omega)
    have HC := hidP hc
    have HY := hidP hy
    clear hc hy
    go_wp2_with (first
      | ((with_reducible refine wpList_boxV (w := w) (by with_unfolding_all rfl) 27 (.tmp 0) (by with_unfolding_all rfl) [.slice a n c] (by with_unfolding_all rfl) ?_); intro w1 hA1 hB1 hS1; clear hS1; have HS1 := Sta.new HS0 hA1 hB1 (by simp); clear hA1 hB1))
    go_ret3
    exact ⟨.map none, by rw [HY.out, HC.out]; rfl, fun q => absurd (HC.out.symm.trans q) (by decide), Sta.fin HS1⟩
  · as_aux_lemma =>
    have d5 : decide ((20000 : Int) < (t.size : Int)) = false := decide_eq_false (by omega)
    have HF := hidP hs
    have HC := hidP hc
    have HY := hidP hy
    clear hc hy hs
    go_wp2_with (first
      | ((with_reducible refine wpList_boxV (w := w) (by with_unfolding_all rfl) 27 (.tmp 0) (by with_unfolding_all rfl) [.slice a n c] (by with_unfolding_all rfl) ?_); intro w2 hA2 hB2 hS2; clear hS2; have HS2 := Sta.new HS0 hA2 hB2 (by simp); clear hA2 hB2)
      | ((with_reducible refine wpList_loadV (w := w2) (by with_unfolding_all rfl) 27 (.tmp 2) (by with_unfolding_all rfl) w.heap.size [.slice a n c] (by with_unfolding_all rfl) (Sta.r (i := 0) HS2 (by with_unfolding_all rfl)) Tryd.uT_implStore 1 Tryd.sT_implStore (by with_unfolding_all rfl) ?_))
      | (go_at_call 28; have n3_0 : SA w2 a l ∧ ArrU w2 0 keys ∧ 0 < w2.heap.size := (Sta.t (i := 0) HS2 rfl :); (with_reducible refine (hC1 w2 n3_0 HN.out HM.out HX.out HF.out).mono ?_); rintro r w3 ⟨rfl, hB3⟩; have HS3 := Sta.call HS2 hB3; clear hB3))
    go_ret3
    exact ⟨.map none, by rw [HY.out, HC.out]; rfl, fun q => absurd (HC.out.symm.trans q) (by decide), Sta.fin HS3⟩
  · as_aux_lemma =>
    have d5 : decide ((20000 : Int) < (t.size : Int)) = false := decide_eq_false (by omega)
    have HF := hidP hs
    have HO := hidP hf
    have HC := hidP hc
    have HY := hidP hy
    clear hc hy hs hf
    go_wp2_with (first
      | ((with_reducible refine wpList_boxV (w := w) (by with_unfolding_all rfl) 27 (.tmp 0) (by with_unfolding_all rfl) [.slice a n c] (by with_unfolding_all rfl) ?_); intro w4 hA4 hB4 hS4; clear hS4; have HS4 := Sta.new HS0 hA4 hB4 (by simp); clear hA4 hB4)
      | ((with_reducible refine wpList_loadV (w := w4) (by with_unfolding_all rfl) 27 (.tmp 2) (by with_unfolding_all rfl) w.heap.size [.slice a n c] (by with_unfolding_all rfl) (Sta.r (i := 0) HS4 (by with_unfolding_all rfl)) Tryd.uT_implStore 1 Tryd.sT_implStore (by with_unfolding_all rfl) ?_))
      | (go_at_call 28; have n5_0 : SA w4 a l ∧ ArrU w4 0 keys ∧ 0 < w4.heap.size := (Sta.t (i := 0) HS4 rfl :); (with_reducible refine (hC2 w4 n5_0 HN.out HM.out HX.out HF.out).mono ?_); rintro r w5 ⟨B, rfl, hP5, hB5⟩; have HS5 := Sta.made HS4 hB5 hP5; clear hB5 hP5)
      | (go_at_call 44; have n6_0 : MapK w5 B l := (Sta.t (i := 0) HS5 rfl :); (with_reducible refine (hC3 w5 B n6_0 HF.out HT.out HO.out).mono ?_); rintro r w6 ⟨rfl, hB6⟩; have HS6 := Sta.call HS5 hB6; clear hB6))
    go_ret3
    exact ⟨.map none, by rw [HY.out, HC.out]; rfl, fun q => absurd (HC.out.symm.trans q) (by decide), Sta.fin HS6⟩
  · as_aux_lemma =>
    have d5 : decide ((20000 : Int) < (t.size : Int)) = false := decide_eq_false (by omega)
    have HF := hidP hs
    have HO := hidP hf
    have HC := hidP hc
    have HY := hidP hy
    clear hc hy hs hf
    go_wp2_with (first
      | ((with_reducible refine wpList_boxV (w := w) (by with_unfolding_all rfl) 27 (.tmp 0) (by with_unfolding_all rfl) [.slice a n c] (by with_unfolding_all rfl) ?_); intro w7 hA7 hB7 hS7; clear hS7; have HS7 := Sta.new HS0 hA7 hB7 (by simp); clear hA7 hB7)
      | ((with_reducible refine wpList_loadV (w := w7) (by with_unfolding_all rfl) 27 (.tmp 2) (by with_unfolding_all rfl) w.heap.size [.slice a n c] (by with_unfolding_all rfl) (Sta.r (i := 0) HS7 (by with_unfolding_all rfl)) Tryd.uT_implStore 1 Tryd.sT_implStore (by with_unfolding_all rfl) ?_))
      | (go_at_call 28; have n8_0 : SA w7 a l ∧ ArrU w7 0 keys ∧ 0 < w7.heap.size := (Sta.t (i := 0) HS7 rfl :); (with_reducible refine (hC2 w7 n8_0 HN.out HM.out HX.out HF.out).mono ?_); rintro r w8 ⟨B, rfl, hP8, hB8⟩; have HS8 := Sta.made HS7 hB8 hP8; clear hB8 hP8)
      | (go_at_call 44; have n9_0 : MapK w8 B l := (Sta.t (i := 0) HS8 rfl :); (with_reducible refine (hC4 w8 X B n9_0 HF.out HT.out HO.out).mono ?_); rintro r w9 ⟨rfl, hB9⟩; have HS9 := Sta.call HS8 hB9; clear hB9))
    go_ret3
    exact ⟨.map (some B), by rw [HY.out, HC.out]; rfl, fun _ => ⟨HF.out, B, rfl, Sta.made_of (i := 0) HS9 rfl (fun k hk => Nat.le_trans (Sta.size HS7) hk.1)⟩, Sta.fin HS9⟩
set_option maxRecDepth 100000 in
set_option maxHeartbeats 8000000 in
theorem implStGet (a : Option Addr) (c n : Nat) (l : List ByteArray) (t : ByteArray) (w : World) (hn : l.length = n) (h : SA w a l) (hm : n ≤ maxLen) (hx : ∀ x ∈ l, x.size ≤ maxLen) (hk : ArrU w 0 keys) (h0 : 0 < w.heap.size) (ht : t.size ≤ maxLen) :
    Calls Tryd.prog 13 #[.agg #[.slice a n c], .string t] w fun r w' => r = .returned (.agg #[.slice none 0 0, .string (getY l t), .int .i64 (getC l t)]) ∧ Below w.heap.size w w' := by
  have HM := hidP hm
  unfold maxLen at hm
  have HN := hidP hn
  have HX := hidP hx
  have HT := hidP ht
  unfold maxLen at ht
  obtain ⟨Y, hy⟩ : ∃ Y, getY l t = Y := ⟨_, rfl⟩
  obtain ⟨C, hc⟩ : ∃ C, getC l t = C := ⟨_, rfl⟩
  have HA := hidP (show getY l t = Y ∧ getC l t = C from ⟨hy, hc⟩)
  clear hy hc
  have hC1 : ∀ w0, (SA w0 a l ∧ ArrU w0 0 keys ∧ 0 < w0.heap.size) → (l.length = n) → (n ≤ maxLen) → (∀ x ∈ l, x.size ≤ maxLen) → (t.size ≤ maxLen) → (getY l t = Y ∧ getC l t = C) → Calls Tryd.prog 31 #[.agg #[.slice a n c], .string t] w0 fun r w' => ∃ (M : Value), r = .returned (.tuple #[M, .string Y, .int .i64 C]) ∧ Below w0.heap.size w0 w' := fun w0 n0 n1 n2 n3 n4 n5 => by rw [← n5.1, ← n5.2]; exact (implFetch a c n l t w0 n1 n0.1 n2 n3 n0.2.1 n0.2.2 n4).mono fun r w' ⟨M, h1, h2, h3⟩ => ⟨M, h1, h3⟩
  have hC2 : ∀ w0, Calls Tryd.prog 32 #[.string Y] w0 fun r w' => r = .returned (.string Y) ∧ Below w0.heap.size w0 w' := fun w0 => ownText_any Y w0
  have HS0 : Hid (Sta [] w [] [⟨fun k => k < w.heap.size, fun w' => SA w' a l ∧ ArrU w' 0 keys ∧ 0 < w'.heap.size⟩] w) := Sta.arg (fun w' => SA w' a l ∧ ArrU w' 0 keys ∧ 0 < w'.heap.size) (fun w' hb => ⟨h.below hb, hk.below hb h0, Nat.lt_of_lt_of_le h0 hb.size⟩)
  clear hn h hx hk h0
  go_enter Tryd.func13, Tryd.ntmps13
  go_wp2_with (first
    | ((with_reducible refine wpList_boxV (w := w) (by with_unfolding_all rfl) 27 (.tmp 0) (by with_unfolding_all rfl) [.slice a n c] (by with_unfolding_all rfl) ?_); intro w1 hA1 hB1 hS1; clear hS1; have HS1 := Sta.new HS0 hA1 hB1 (by simp); clear hA1 hB1)
    | ((with_reducible refine wpList_allocV (w := w1) (by with_unfolding_all rfl) 32 (by with_unfolding_all rfl) [.slice none 0 0, .string ⟨#[]⟩, .int .i64 0] Tryd.zT_implStoreOut ?_); intro w2 hA2 hB2 hS2; clear hS2; have HS2 := Sta.new HS1 hA2 hB2 (by simp); clear hA2 hB2)
    | ((with_reducible refine wpList_loadV (w := w2) (by with_unfolding_all rfl) 27 (.tmp 2) (by with_unfolding_all rfl) w.heap.size [.slice a n c] (by with_unfolding_all rfl) (Sta.r (i := 1) HS2 (by with_unfolding_all rfl)) Tryd.uT_implStore 1 Tryd.sT_implStore (by with_unfolding_all rfl) ?_))
    | (go_at_call 31; have n3_0 : SA w2 a l ∧ ArrU w2 0 keys ∧ 0 < w2.heap.size := (Sta.t (i := 0) HS2 rfl :); (with_reducible refine (hC1 w2 n3_0 HN.out HM.out HX.out HT.out HA.out).mono ?_); rintro r w3 ⟨M, rfl, hB3⟩; have HS3 := Sta.call HS2 hB3; clear hB3)
    | (go_at_call 32; (with_reducible refine (hC2 w3).mono ?_); rintro r w4 ⟨rfl, hB4⟩; have HS4 := Sta.call HS3 hB4; clear hB4)
    | ((with_reducible refine wpList_storeS (w := w4) (by with_unfolding_all rfl) 32 (.tmp 4) (.tmp 18) (by with_unfolding_all rfl) w1.heap.size [.slice none 0 0, .string ⟨#[]⟩, .int .i64 0] [.slice none 0 0, .string Y, .int .i64 C] (by with_unfolding_all rfl) (by with_unfolding_all rfl) (Sta.r (i := 0) HS4 (by with_unfolding_all rfl)) 3 Tryd.sT_implStoreOut (by with_unfolding_all rfl) (by with_unfolding_all rfl) (by with_unfolding_all rfl) ?_); intro w5 hA5 hO5; have HS5 := Sta.put 0 HS4 rfl hA5 (by simp) hO5; clear hA5 hO5))
  exact bodyPost_ret (results_V (t := 32) rfl _ w1.heap.size [.slice none 0 0, .string Y, .int .i64 C] rfl (Sta.r (i := 0) HS5 (by with_unfolding_all rfl)) Tryd.uT_implStoreOut 3 Tryd.sT_implStoreOut rfl) rfl ⟨by rw [HA.out.1, HA.out.2], Sta.fin HS5⟩
set_option maxRecDepth 100000 in
set_option maxHeartbeats 8000000 in
theorem specStGet (a : Option Addr) (c n : Nat) (l : List ByteArray) (t : ByteArray) (w : World) (hn : l.length = n) (h : SA w a l) (hm : n ≤ maxLen) (hx : ∀ x ∈ l, x.size ≤ maxLen) (ht : t.size ≤ maxLen) :
    Calls Tryd.prog 12 #[.agg #[.slice a n c], .string t] w fun r w' => r = .returned (.agg #[.slice none 0 0, .string (getY l t), .int .i64 (getC l t)]) ∧ Below w.heap.size w w' := by
  have HM := hidP hm
  unfold maxLen at hm
  have HN := hidP hn
  have HX := hidP hx
  have HT := hidP ht
  unfold maxLen at ht
  have hC1 : ∀ w0, (SA w0 a l) → (l.length = n) → (n ≤ maxLen) → (∀ x ∈ l, x.size ≤ maxLen) → (¬ StOk l) → Calls Tryd.prog 8 #[.agg #[.slice a n c]] w0 fun r w' => r = .returned (.bool false) ∧ Below w0.heap.size w0 w' := fun w0 n0 n1 n2 n3 n4 => by rw [← boolP_no n4]; exact specStRight a c n l w0 n1 n0 n2 n3
  have hC2 : ∀ w0, (SA w0 a l) → (l.length = n) → (n ≤ maxLen) → (∀ x ∈ l, x.size ≤ maxLen) → (StOk l) → Calls Tryd.prog 8 #[.agg #[.slice a n c]] w0 fun r w' => r = .returned (.bool true) ∧ Below w0.heap.size w0 w' := fun w0 n0 n1 n2 n3 n4 => by rw [← boolP_yes n4]; exact specStRight a c n l w0 n1 n0 n2 n3
  have hC3 : ∀ w0, (SA w0 a l) → (l.length = n) → (n ≤ maxLen) → (∀ x ∈ l, x.size ≤ maxLen) → (t.size ≤ maxLen) → (findO l t = none) → Calls Tryd.prog 30 #[.agg #[.slice a n c], .string t] w0 fun r w' => r = .returned (.tuple #[.string ⟨#[]⟩, .bool false]) ∧ Below w0.heap.size w0 w' := fun w0 n0 n1 n2 n3 n4 n5 => by have := specFind a c n l t w0 n1 n0 n2 n3 n4; rw [n5] at this; exact this
  have hC4 : ∀ w0 (X : ByteArray), (SA w0 a l) → (l.length = n) → (n ≤ maxLen) → (∀ x ∈ l, x.size ≤ maxLen) → (t.size ≤ maxLen) → (findO l t = some X) → Calls Tryd.prog 30 #[.agg #[.slice a n c], .string t] w0 fun r w' => r = .returned (.tuple #[.string X, .bool true]) ∧ Below w0.heap.size w0 w' := fun w0 X n0 n1 n2 n3 n4 n5 => by have := specFind a c n l t w0 n1 n0 n2 n3 n4; rw [n5] at this; exact this
  have HS0 : Hid (Sta [] w [] [⟨fun k => k < w.heap.size, fun w' => SA w' a l⟩] w) := Sta.arg (fun w' => SA w' a l) (fun w' hb => h.below hb)
  clear hn h hx
  go_enter Tryd.func12, Tryd.ntmps12
  rcases get_cases l t with ⟨g, hc, hy⟩ | ⟨g, hs, hc, hy⟩ | ⟨g, hs, hf, hc, hy⟩ | ⟨X, g, hs, hf, hc, hy⟩
  · as_aux_lemma =>
    have d5 : decide ((20000 : Int) < (t.size : Int)) = true := decide_eq_true (by omega)
    have HC := hidP hc
    have HY := hidP hy
    clear hc hy
    go_wp2_with (first
      | ((with_reducible refine wpList_boxV (w := w) (by with_unfolding_all rfl) 27 (.tmp 0) (by with_unfolding_all rfl) [.slice a n c] (by with_unfolding_all rfl) ?_); intro w1 hA1 hB1 hS1; clear hS1; have HS1 := Sta.new HS0 hA1 hB1 (by simp); clear hA1 hB1)
      | ((with_reducible refine wpList_allocV (w := w1) (by with_unfolding_all rfl) 32 (by with_unfolding_all rfl) [.slice none 0 0, .string ⟨#[]⟩, .int .i64 0] Tryd.zT_implStoreOut ?_); intro w2 hA2 hB2 hS2; clear hS2; have HS2 := Sta.new HS1 hA2 hB2 (by simp); clear hA2 hB2)
      | ((with_reducible refine wpList_storeS (w := w2) (by with_unfolding_all rfl) 32 (.tmp 4) (.tmp 10) (by with_unfolding_all rfl) w1.heap.size [.slice none 0 0, .string ⟨#[]⟩, .int .i64 0] [.slice none 0 0, .string ⟨#[]⟩, .int .i64 2] (by with_unfolding_all rfl) (by with_unfolding_all rfl) (Sta.r (i := 0) HS2 (by with_unfolding_all rfl)) 3 Tryd.sT_implStoreOut (by with_unfolding_all rfl) (by with_unfolding_all rfl) (by with_unfolding_all rfl) ?_); intro w3 hA3 hO3; have HS3 := Sta.put 0 HS2 rfl hA3 (by simp) hO3; clear hA3 hO3))
    exact bodyPost_ret (results_V (t := 32) rfl _ w1.heap.size [.slice none 0 0, .string ⟨#[]⟩, .int .i64 2] rfl (Sta.r (i := 0) HS3 (by with_unfolding_all rfl)) Tryd.uT_implStoreOut 3 Tryd.sT_implStoreOut rfl) rfl ⟨by rw [HY.out, HC.out], Sta.fin HS3⟩
  · as_aux_lemma =>
    have d5 : decide ((20000 : Int) < (t.size : Int)) = false := decide_eq_false (by omega)
    have HF := hidP hs
    have HC := hidP hc
    have HY := hidP hy
    clear hc hy hs
    go_wp2_with (first
      | ((with_reducible refine wpList_boxV (w := w) (by with_unfolding_all rfl) 27 (.tmp 0) (by with_unfolding_all rfl) [.slice a n c] (by with_unfolding_all rfl) ?_); intro w4 hA4 hB4 hS4; clear hS4; have HS4 := Sta.new HS0 hA4 hB4 (by simp); clear hA4 hB4)
      | ((with_reducible refine wpList_allocV (w := w4) (by with_unfolding_all rfl) 32 (by with_unfolding_all rfl) [.slice none 0 0, .string ⟨#[]⟩, .int .i64 0] Tryd.zT_implStoreOut ?_); intro w5 hA5 hB5 hS5; clear hS5; have HS5 := Sta.new HS4 hA5 hB5 (by simp); clear hA5 hB5)
      | ((with_reducible refine wpList_loadV (w := w5) (by with_unfolding_all rfl) 27 (.tmp 2) (by with_unfolding_all rfl) w.heap.size [.slice a n c] (by with_unfolding_all rfl) (Sta.r (i := 1) HS5 (by with_unfolding_all rfl)) Tryd.uT_implStore 1 Tryd.sT_implStore (by with_unfolding_all rfl) ?_))
      | (go_at_call 8; have n6_0 : SA w5 a l := (Sta.t (i := 0) HS5 rfl :); (with_reducible refine (hC1 w5 n6_0 HN.out HM.out HX.out HF.out).mono ?_); rintro r w6 ⟨rfl, hB6⟩; have HS6 := Sta.call HS5 hB6; clear hB6)
      | ((with_reducible refine wpList_storeS (w := w6) (by with_unfolding_all rfl) 32 (.tmp 4) (.tmp 14) (by with_unfolding_all rfl) w4.heap.size [.slice none 0 0, .string ⟨#[]⟩, .int .i64 0] [.slice none 0 0, .string ⟨#[]⟩, .int .i64 1] (by with_unfolding_all rfl) (by with_unfolding_all rfl) (Sta.r (i := 0) HS6 (by with_unfolding_all rfl)) 3 Tryd.sT_implStoreOut (by with_unfolding_all rfl) (by with_unfolding_all rfl) (by with_unfolding_all rfl) ?_); intro w7 hA7 hO7; have HS7 := Sta.put 0 HS6 rfl hA7 (by simp) hO7; clear hA7 hO7))
    exact bodyPost_ret (results_V (t := 32) rfl _ w4.heap.size [.slice none 0 0, .string ⟨#[]⟩, .int .i64 1] rfl (Sta.r (i := 0) HS7 (by with_unfolding_all rfl)) Tryd.uT_implStoreOut 3 Tryd.sT_implStoreOut rfl) rfl ⟨by rw [HY.out, HC.out], Sta.fin HS7⟩
  · as_aux_lemma =>
    have d5 : decide ((20000 : Int) < (t.size : Int)) = false := decide_eq_false (by omega)
    have HF := hidP hs
    have HO := hidP hf
    have HC := hidP hc
    have HY := hidP hy
    clear hc hy hs hf
    go_wp2_with (first
      | ((with_reducible refine wpList_boxV (w := w) (by with_unfolding_all rfl) 27 (.tmp 0) (by with_unfolding_all rfl) [.slice a n c] (by with_unfolding_all rfl) ?_); intro w8 hA8 hB8 hS8; clear hS8; have HS8 := Sta.new HS0 hA8 hB8 (by simp); clear hA8 hB8)
      | ((with_reducible refine wpList_allocV (w := w8) (by with_unfolding_all rfl) 32 (by with_unfolding_all rfl) [.slice none 0 0, .string ⟨#[]⟩, .int .i64 0] Tryd.zT_implStoreOut ?_); intro w9 hA9 hB9 hS9; clear hS9; have HS9 := Sta.new HS8 hA9 hB9 (by simp); clear hA9 hB9)
      | ((with_reducible refine wpList_loadV (w := w9) (by with_unfolding_all rfl) 27 (.tmp 2) (by with_unfolding_all rfl) w.heap.size [.slice a n c] (by with_unfolding_all rfl) (Sta.r (i := 1) HS9 (by with_unfolding_all rfl)) Tryd.uT_implStore 1 Tryd.sT_implStore (by with_unfolding_all rfl) ?_))
      | (go_at_call 8; have n10_0 : SA w9 a l := (Sta.t (i := 0) HS9 rfl :); (with_reducible refine (hC2 w9 n10_0 HN.out HM.out HX.out HF.out).mono ?_); rintro r w10 ⟨rfl, hB10⟩; have HS10 := Sta.call HS9 hB10; clear hB10)
      | ((with_reducible refine wpList_loadV (w := w10) (by with_unfolding_all rfl) 27 (.tmp 2) (by with_unfolding_all rfl) w.heap.size [.slice a n c] (by with_unfolding_all rfl) (Sta.r (i := 1) HS10 (by with_unfolding_all rfl)) Tryd.uT_implStore 1 Tryd.sT_implStore (by with_unfolding_all rfl) ?_))
      | (go_at_call 30; have n11_0 : SA w10 a l := (Sta.t (i := 0) HS10 rfl :); (with_reducible refine (hC3 w10 n11_0 HN.out HM.out HX.out HT.out HO.out).mono ?_); rintro r w11 ⟨rfl, hB11⟩; have HS11 := Sta.call HS10 hB11; clear hB11)
      | ((with_reducible refine wpList_storeS (w := w11) (by with_unfolding_all rfl) 32 (.tmp 4) (.tmp 23) (by with_unfolding_all rfl) w8.heap.size [.slice none 0 0, .string ⟨#[]⟩, .int .i64 0] [.slice none 0 0, .string ⟨#[]⟩, .int .i64 9] (by with_unfolding_all rfl) (by with_unfolding_all rfl) (Sta.r (i := 0) HS11 (by with_unfolding_all rfl)) 3 Tryd.sT_implStoreOut (by with_unfolding_all rfl) (by with_unfolding_all rfl) (by with_unfolding_all rfl) ?_); intro w12 hA12 hO12; have HS12 := Sta.put 0 HS11 rfl hA12 (by simp) hO12; clear hA12 hO12))
    exact bodyPost_ret (results_V (t := 32) rfl _ w8.heap.size [.slice none 0 0, .string ⟨#[]⟩, .int .i64 9] rfl (Sta.r (i := 0) HS12 (by with_unfolding_all rfl)) Tryd.uT_implStoreOut 3 Tryd.sT_implStoreOut rfl) rfl ⟨by rw [HY.out, HC.out], Sta.fin HS12⟩
  · as_aux_lemma =>
    have d5 : decide ((20000 : Int) < (t.size : Int)) = false := decide_eq_false (by omega)
    have HF := hidP hs
    have HO := hidP hf
    have HC := hidP hc
    have HY := hidP hy
    clear hc hy hs hf
    go_wp2_with (first
      | ((with_reducible refine wpList_boxV (w := w) (by with_unfolding_all rfl) 27 (.tmp 0) (by with_unfolding_all rfl) [.slice a n c] (by with_unfolding_all rfl) ?_); intro w13 hA13 hB13 hS13; clear hS13; have HS13 := Sta.new HS0 hA13 hB13 (by simp); clear hA13 hB13)
      | ((with_reducible refine wpList_allocV (w := w13) (by with_unfolding_all rfl) 32 (by with_unfolding_all rfl) [.slice none 0 0, .string ⟨#[]⟩, .int .i64 0] Tryd.zT_implStoreOut ?_); intro w14 hA14 hB14 hS14; clear hS14; have HS14 := Sta.new HS13 hA14 hB14 (by simp); clear hA14 hB14)
      | ((with_reducible refine wpList_loadV (w := w14) (by with_unfolding_all rfl) 27 (.tmp 2) (by with_unfolding_all rfl) w.heap.size [.slice a n c] (by with_unfolding_all rfl) (Sta.r (i := 1) HS14 (by with_unfolding_all rfl)) Tryd.uT_implStore 1 Tryd.sT_implStore (by with_unfolding_all rfl) ?_))
      | (go_at_call 8; have n15_0 : SA w14 a l := (Sta.t (i := 0) HS14 rfl :); (with_reducible refine (hC2 w14 n15_0 HN.out HM.out HX.out HF.out).mono ?_); rintro r w15 ⟨rfl, hB15⟩; have HS15 := Sta.call HS14 hB15; clear hB15)
      | ((with_reducible refine wpList_loadV (w := w15) (by with_unfolding_all rfl) 27 (.tmp 2) (by with_unfolding_all rfl) w.heap.size [.slice a n c] (by with_unfolding_all rfl) (Sta.r (i := 1) HS15 (by with_unfolding_all rfl)) Tryd.uT_implStore 1 Tryd.sT_implStore (by with_unfolding_all rfl) ?_))
      | (go_at_call 30; have n16_0 : SA w15 a l := (Sta.t (i := 0) HS15 rfl :); (with_reducible refine (hC4 w15 X n16_0 HN.out HM.out HX.out HT.out HO.out).mono ?_); rintro r w16 ⟨rfl, hB16⟩; have HS16 := Sta.call HS15 hB16; clear hB16)
      | ((with_reducible refine wpList_storeS (w := w16) (by with_unfolding_all rfl) 32 (.tmp 4) (.tmp 25) (by with_unfolding_all rfl) w13.heap.size [.slice none 0 0, .string ⟨#[]⟩, .int .i64 0] [.slice none 0 0, .string X, .int .i64 0] (by with_unfolding_all rfl) (by with_unfolding_all rfl) (Sta.r (i := 0) HS16 (by with_unfolding_all rfl)) 3 Tryd.sT_implStoreOut (by with_unfolding_all rfl) (by with_unfolding_all rfl) (by with_unfolding_all rfl) ?_); intro w17 hA17 hO17; have HS17 := Sta.put 0 HS16 rfl hA17 (by simp) hO17; clear hA17 hO17))
    exact bodyPost_ret (results_V (t := 32) rfl _ w13.heap.size [.slice none 0 0, .string X, .int .i64 0] rfl (Sta.r (i := 0) HS17 (by with_unfolding_all rfl)) Tryd.uT_implStoreOut 3 Tryd.sT_implStoreOut rfl) rfl ⟨by rw [HY.out, HC.out], Sta.fin HS17⟩
end Go.Proofs.YtchfpiadfmnphaaDoor
