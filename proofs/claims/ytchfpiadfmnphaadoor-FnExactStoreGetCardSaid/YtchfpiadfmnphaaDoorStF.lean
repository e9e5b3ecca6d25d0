/- A text by its digest: in the list, in the map. -/
import Derived.Test.YtchfpiadfmnphaaDoorStG
import Derived.Test.YtchfpiadfmnphaaDoorStR
import Derived.Test.YtchfpiadfmnphaaDoorStS
namespace Go.Proofs.YtchfpiadfmnphaaDoor
open Go.RowKit
set_option linter.unusedVariables false

set_option maxRecDepth 100000 in
set_option maxHeartbeats 8000000 in
theorem specFind (a : Option Addr) (c n : Nat) (l : List ByteArray) (t : ByteArray) (w : World) (hn : l.length = n) (h : SA w a l) (hm : n ≤ maxLen) (hx : ∀ x ∈ l, x.size ≤ maxLen) (ht : t.size ≤ maxLen) :
    Calls Tryd.prog 30 #[.agg #[.slice a n c], .string t] w fun r w' => r = .returned (getV (findO l t)) ∧ Below w.heap.size w w' := by
  have HM := hidP hm
  unfold maxLen at hm
  have HN := hidP hn
  have HX := hidP hx
  have HT := hidP ht
  unfold maxLen at ht
  have hC1 : ∀ w0 (x0 : ByteArray) (d : ByteArray), (x0.size ≤ maxLen) → (digA x0 = d) → Calls Tryd.prog 26 #[.string x0] w0 fun r w' => r = .returned (.string d) ∧ Below w0.heap.size w0 w' := fun w0 x0 d n0 n1 => by rw [← n1]; exact digestS_any x0 w0 n0
  have HS0 : Hid (Sta [] w [] [⟨fun k => k < w.heap.size, fun w' => SA w' a l⟩] w) := Sta.arg (fun w' => SA w' a l) (fun w' hb => h.below hb)
  clear hn h hx
  go_enter Tryd.func30, Tryd.ntmps30
  go_wp2_with (first
    | ((with_reducible refine wpList_boxV (w := w) (by with_unfolding_all rfl) 27 (.tmp 0) (by with_unfolding_all rfl) [.slice a n c] (by with_unfolding_all rfl) ?_); intro w1 hA1 hB1 hS1; clear hS1; have HS1 := Sta.new HS0 hA1 hB1 (by simp); clear hA1 hB1))
  go_loopw [6] (fun v0 wr => ∃ (k : Nat), v0 = .int .i64 (k : Int) ∧ k ≤ n ∧ Hid (findO (l.take k) t = none) ∧ Hid (Sta [] w [(w.heap.size, [.slice a n c])] [⟨fun k => k < w.heap.size, fun w' => SA w' a l⟩] wr)) (fun v0 _ => n - (intOf v0).toNat)
  case atStart => exact ⟨0, rfl, Nat.zero_le _, rfl, HS1⟩
  case round =>
    rename Go.World => wl2
    clear HS1
    obtain ⟨k, rfl, hk2, HNo, HS2⟩ := hrel
    by_cases hlt2 : k < n
    case neg =>
      obtain rfl : n = k := by omega
      have HF := hidP (findO_all HNo.out HN.out)
      have cHS2_0_0 : wl2.cell? ⟨w.heap.size, 0, none⟩ = some (.slice a n c) := Sta.c (i := 0) HS2 rfl rfl
      go_wp2_with fail
      go_ret2
      exact ⟨by rw [HF.out]; rfl, Sta.fin HS2⟩
    have lk2 : (k : Int) < n := by omega
    have l02 : (0 : Int) ≤ k := by omega
    have hkl : k < l.length := by have := HN.out; omega
    obtain ⟨b, o, rfl, hz3⟩ := (Sta.t (i := 0) HS2 rfl :) k hkl
    clear hz3
    obtain ⟨x0, hx0⟩ : ∃ y, l[k] = y := ⟨_, rfl⟩
    have HS4 := Sta.imp 0 (fun w' => (SA w' (some ⟨b, o, none⟩) l) ∧ w'.cell? ⟨b, o + k, none⟩ = some (.string x0)) HS2 rfl (fun w' h => ⟨h, by rw [← hx0]; exact (SA.here h k hkl)⟩)
    have W0 : Hid (x0.size ≤ maxLen) := by have := HX.out l[k] (List.getElem_mem hkl); rw [hx0] at this; exact this
    obtain ⟨d, hd⟩ : ∃ d, digA x0 = d := ⟨_, rfl⟩
    have HD := hidP hd
    clear hd
    by_cases he : d = t
    · as_aux_lemma =>
      have HF := hidP (findO_hit hkl hx0 HNo.out (HD.out.trans he))
      subst he
      have hq := txt_eq d
      have cHS4_0_0 : wl2.cell? ⟨w.heap.size, 0, none⟩ = some (.slice (some ⟨b, o, none⟩) n c) := Sta.c (i := 0) HS4 rfl rfl
      have tcHS4_0_0 : wl2.cell? ⟨b, o + k, none⟩ = some (.string x0) := (Sta.t (i := 0) HS4 rfl :).2
      go_wp2_with (first
        | (go_at_call 26; (with_reducible refine (hC1 wl2 x0 d W0.out HD.out).mono ?_); rintro r w5 ⟨rfl, hB5⟩; have HS5 := Sta.call HS4 hB5; clear hB5; clear cHS4_0_0 tcHS4_0_0; have cHS5_0_0 : w5.cell? ⟨w.heap.size, 0, none⟩ = some (.slice (some ⟨b, o, none⟩) n c) := Sta.c (i := 0) HS5 rfl rfl; have tcHS5_0_0 : w5.cell? ⟨b, o + k, none⟩ = some (.string x0) := (Sta.t (i := 0) HS5 rfl :).2))
      go_ret2
      exact ⟨by rw [HF.out]; rfl, Sta.fin HS5⟩
    · as_aux_lemma =>
      have HNo2 := hidP (findO_step hkl hx0 HNo.out (fun q => he (HD.out.symm.trans q)))
      have hq := txt_ne he
      have cHS4_0_0 : wl2.cell? ⟨w.heap.size, 0, none⟩ = some (.slice (some ⟨b, o, none⟩) n c) := Sta.c (i := 0) HS4 rfl rfl
      have tcHS4_0_0 : wl2.cell? ⟨b, o + k, none⟩ = some (.string x0) := (Sta.t (i := 0) HS4 rfl :).2
      go_wp2_with (first
        | (go_at_call 26; (with_reducible refine (hC1 wl2 x0 d W0.out HD.out).mono ?_); rintro r w6 ⟨rfl, hB6⟩; have HS6 := Sta.call HS4 hB6; clear hB6; clear cHS4_0_0 tcHS4_0_0))
      have HS7 := Sta.imp 0 (fun w' => SA w' (some ⟨b, o, none⟩) l) HS6 rfl (fun w' h => h.1)
      go_roundw
      case rel => exact ⟨k + 1, by go_num, hlt2, HNo2, HS7⟩
      case measure => simp [intOf]; omega
set_option maxRecDepth 100000 in
set_option maxHeartbeats 8000000 in
theorem implGet (B : Nat) (l : List ByteArray) (t : ByteArray) (w : World) (hM : MapK w B l) (hS : StOk l) (ht : t.size ≤ maxLen) :
    Calls Tryd.prog 44 #[.map (some B), .string t] w fun r w' => r = .returned (getV (findO l t)) ∧ Below w.heap.size w w' := by
  have HS9 := hidP hS
  have HT := hidP ht
  have hC1 : ∀ w0, (t.size ≤ maxLen) → (decide (t.size = 32) = false) → Calls Tryd.prog 63 #[.string t] w0 fun r w' => r = .returned (.bool false) ∧ w0 = w' := fun w0 n0 n1 => by rw [← n1]; exact sizedI t w0 n0
  have hC2 : ∀ w0, (t.size ≤ maxLen) → (decide (t.size = 32) = true) → Calls Tryd.prog 63 #[.string t] w0 fun r w' => r = .returned (.bool true) ∧ w0 = w' := fun w0 n0 n1 => by rw [← n1]; exact sizedI t w0 n0
  have hC3 : ∀ w0, (t.size = 32) → Calls Tryd.prog 45 #[.string t] w0 fun r w' => r = .returned (.agg (kyv t).toArray) ∧ Below w0.heap.size w0 w' := fun w0 n0 => keyOfI t w0 n0
  have HS0 : Hid (Sta [] w [] [⟨fun k => k < w.heap.size, fun w' => MapK w' B l⟩] w) := Sta.arg (fun w' => MapK w' B l) (fun w' hb => hM.same (hb.block B hM.lt))
  clear hM hS ht
  go_enter Tryd.func44, Tryd.ntmps44
  have hb3 : (¬ t.size = 32 ∧ findO l t = none) ∨ (t.size = 32 ∧ findO l t = none) ∨ (∃ X, t.size = 32 ∧ findO l t = some X) := by
    cases hf : findO l t with
    | none => by_cases g : t.size = 32 <;> simp [g]
    | some X => exact Or.inr (Or.inr ⟨X, findO_size HS9.out hf, rfl⟩)
  rcases hb3 with ⟨g, hf⟩ | ⟨g, hf⟩ | ⟨X, g, hf⟩
  · as_aux_lemma =>
    have hd : decide (t.size = 32) = false := decide_eq_false g
    have HF := hidP hf
    clear hf
    go_wp2_with (first
      | (go_at_call 63; (with_reducible refine (hC1 w HT.out hd).mono ?_); rintro r w' ⟨rfl, rfl⟩))
    go_ret2
    exact ⟨by rw [HF.out]; rfl, Sta.fin HS0⟩
  · as_aux_lemma =>
    have hd : decide (t.size = 32) = true := decide_eq_true g
    have HF := hidP hf
    have H32 := hidP g
    clear hf g
    go_wp2_with (first
      | (go_at_call 63; (with_reducible refine (hC2 w HT.out hd).mono ?_); rintro r w' ⟨rfl, rfl⟩)
      | (go_at_call 45; (with_reducible refine (hC3 w H32.out).mono ?_); rintro r w3 ⟨rfl, hB3⟩; have HS3 := Sta.call HS0 hB3; clear hB3)
      | ((with_reducible refine wpList_lookK (w := w3) (by with_unfolding_all rfl) (.tmp 12) (.tmp 14) (by with_unfolding_all rfl) B l t (.tuple #[.agg #[.string ⟨#[]⟩], .bool false]) (by with_unfolding_all rfl) (by with_unfolding_all rfl) (Sta.t (i := 0) HS3 rfl) H32.out HS9.out (by rw [HF.out]) ?_))
      | ((with_reducible refine wpList_allocV (w := w3) (by with_unfolding_all rfl) 69 (by with_unfolding_all rfl) [.string ⟨#[]⟩] Tryd.zT_implstored ?_); intro w4 hA4 hB4 hS4; clear hS4; have HS4 := Sta.new HS3 hA4 hB4 (by simp); clear hA4 hB4)
      | ((with_reducible refine wpList_storeS (w := w4) (by with_unfolding_all rfl) 69 (.tmp 6) (.tmp 16) (by with_unfolding_all rfl) w3.heap.size [.string ⟨#[]⟩] [.string ⟨#[]⟩] (by with_unfolding_all rfl) (by with_unfolding_all rfl) (Sta.r (i := 0) HS4 (by with_unfolding_all rfl)) 1 Tryd.sT_implstored (by with_unfolding_all rfl) (by with_unfolding_all rfl) (by with_unfolding_all rfl) ?_); intro w5 hA5 hO5; have HS5 := Sta.put 0 HS4 rfl hA5 (by simp) hO5; clear hA5 hO5; have cHS5_0_0 : w5.cell? ⟨w3.heap.size, 0, none⟩ = some (.string ⟨#[]⟩) := Sta.c (i := 0) HS5 rfl rfl))
    go_ret2
    exact ⟨by rw [HF.out]; rfl, Sta.fin HS5⟩
  · as_aux_lemma =>
    have hd : decide (t.size = 32) = true := decide_eq_true g
    have HF := hidP hf
    have H32 := hidP g
    clear hf g
    go_wp2_with (first
      | (go_at_call 63; (with_reducible refine (hC2 w HT.out hd).mono ?_); rintro r w' ⟨rfl, rfl⟩)
      | (go_at_call 45; (with_reducible refine (hC3 w H32.out).mono ?_); rintro r w7 ⟨rfl, hB7⟩; have HS7 := Sta.call HS0 hB7; clear hB7)
      | ((with_reducible refine wpList_lookK (w := w7) (by with_unfolding_all rfl) (.tmp 12) (.tmp 14) (by with_unfolding_all rfl) B l t (.tuple #[.agg #[.string X], .bool true]) (by with_unfolding_all rfl) (by with_unfolding_all rfl) (Sta.t (i := 0) HS7 rfl) H32.out HS9.out (by rw [HF.out]) ?_))
      | ((with_reducible refine wpList_allocV (w := w7) (by with_unfolding_all rfl) 69 (by with_unfolding_all rfl) [.string ⟨#[]⟩] Tryd.zT_implstored ?_); intro w8 hA8 hB8 hS8; clear hS8; have HS8 := Sta.new HS7 hA8 hB8 (by simp); clear hA8 hB8)
      | ((with_reducible refine wpList_storeS (w := w8) (by with_unfolding_all rfl) 69 (.tmp 6) (.tmp 16) (by with_unfolding_all rfl) w7.heap.size [.string ⟨#[]⟩] [.string X] (by with_unfolding_all rfl) (by with_unfolding_all rfl) (Sta.r (i := 0) HS8 (by with_unfolding_all rfl)) 1 Tryd.sT_implstored (by with_unfolding_all rfl) (by with_unfolding_all rfl) (by with_unfolding_all rfl) ?_); intro w9 hA9 hO9; have HS9 := Sta.put 0 HS8 rfl hA9 (by simp) hO9; clear hA9 hO9; have cHS9_0_0 : w9.cell? ⟨w7.heap.size, 0, none⟩ = some (.string X) := Sta.c (i := 0) HS9 rfl rfl))
    go_ret2
    exact ⟨by rw [HF.out]; rfl, Sta.fin HS9⟩
end Go.Proofs.YtchfpiadfmnphaaDoor
