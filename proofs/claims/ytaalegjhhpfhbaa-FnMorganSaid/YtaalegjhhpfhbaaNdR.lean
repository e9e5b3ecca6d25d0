/- Is an instruction right by itself? On both sides. -/
import Derived.Test.YtaalegjhhpfhbaaNdM
import Derived.Test.YtaalegjhhpfhbaaNmB
import Derived.Test.YtaalegjhhpfhbaaTy
namespace Go.Proofs.Ytaalegjhhpfhbaa
open Go.RowKit
set_option linter.unusedVariables false

theorem ins_cases (x0 : Int) (x1 x2 : ByteArray) :
    (x0 = 1 ∧ nameB x1 = false ∧ ¬ InsOk x0 x1 x2) ∨ (x0 = 1 ∧ nameB x1 = true ∧ x1 = ⟨#[110, 111, 116]⟩ ∧ ¬ InsOk x0 x1 x2) ∨ (x0 = 1 ∧ nameB x1 = true ∧ ¬ x1 = ⟨#[110, 111, 116]⟩ ∧ x1 = ⟨#[104, 97, 115]⟩ ∧ ¬ InsOk x0 x1 x2) ∨
    (x0 = 1 ∧ nameB x1 = true ∧ ¬ x1 = ⟨#[110, 111, 116]⟩ ∧ ¬ x1 = ⟨#[104, 97, 115]⟩ ∧ nameB x2 = false ∧ ¬ InsOk x0 x1 x2) ∨ (x0 = 1 ∧ nameB x1 = true ∧ ¬ x1 = ⟨#[110, 111, 116]⟩ ∧ ¬ x1 = ⟨#[104, 97, 115]⟩ ∧ nameB x2 = true ∧ InsOk x0 x1 x2) ∨
    (x0 = 2 ∧ nameB x1 = false ∧ ¬ InsOk x0 x1 x2) ∨ (x0 = 2 ∧ nameB x1 = true ∧ ¬ x2 = ⟨#[]⟩ ∧ ¬ InsOk x0 x1 x2) ∨ (x0 = 2 ∧ nameB x1 = true ∧ x2 = ⟨#[]⟩ ∧ InsOk x0 x1 x2) ∨
    ((x0 = 3 ∨ x0 = 4 ∨ x0 = 5) ∧ ¬ x1 = ⟨#[]⟩ ∧ ¬ InsOk x0 x1 x2) ∨ ((x0 = 3 ∨ x0 = 4 ∨ x0 = 5) ∧ x1 = ⟨#[]⟩ ∧ ¬ x2 = ⟨#[]⟩ ∧ ¬ InsOk x0 x1 x2) ∨ ((x0 = 3 ∨ x0 = 4 ∨ x0 = 5) ∧ x1 = ⟨#[]⟩ ∧ x2 = ⟨#[]⟩ ∧ InsOk x0 x1 x2) ∨
    ((x0 < 1 ∨ 5 < x0) ∧ ¬ InsOk x0 x1 x2) := by
  by_cases h1 : x0 = 1
  · cases hk : nameB x1
    · exact Or.inl ⟨h1, rfl, fun h => by rcases h with ⟨_, a, _⟩ | ⟨a, _⟩ | ⟨a, _⟩ <;> first | (rw [hk] at a; cases a) | omega⟩
    · by_cases hn : x1 = ⟨#[110, 111, 116]⟩
      · exact Or.inr (Or.inl ⟨h1, rfl, hn, fun h => by rcases h with ⟨_, _, a, _⟩ | ⟨a, _⟩ | ⟨a, _⟩ <;> first | exact a hn | omega⟩)
      · by_cases hh : x1 = ⟨#[104, 97, 115]⟩
        · exact Or.inr (Or.inr (Or.inl ⟨h1, rfl, hn, hh, fun h => by rcases h with ⟨_, _, _, a, _⟩ | ⟨a, _⟩ | ⟨a, _⟩ <;> first | exact a hh | omega⟩))
        · cases hv : nameB x2
          · exact Or.inr (Or.inr (Or.inr (Or.inl ⟨h1, rfl, hn, hh, rfl, fun h => by rcases h with ⟨_, _, _, _, a⟩ | ⟨a, _⟩ | ⟨a, _⟩ <;> first | (rw [hv] at a; cases a) | omega⟩)))
          · exact Or.inr (Or.inr (Or.inr (Or.inr (Or.inl ⟨h1, rfl, hn, hh, rfl, Or.inl ⟨h1, hk, hn, hh, hv⟩⟩))))
  · by_cases h2 : x0 = 2
    · cases hk : nameB x1
      · exact Or.inr (Or.inr (Or.inr (Or.inr (Or.inr (Or.inl ⟨h2, rfl, fun h => by rcases h with ⟨a, _⟩ | ⟨_, a, _⟩ | ⟨a, _⟩ <;> first | (rw [hk] at a; cases a) | omega⟩)))))
      · by_cases hv : x2 = ⟨#[]⟩
        · exact Or.inr (Or.inr (Or.inr (Or.inr (Or.inr (Or.inr (Or.inr (Or.inl ⟨h2, rfl, hv, Or.inr (Or.inl ⟨h2, hk, hv⟩)⟩)))))))
        · exact Or.inr (Or.inr (Or.inr (Or.inr (Or.inr (Or.inr (Or.inl ⟨h2, rfl, hv, fun h => by rcases h with ⟨a, _⟩ | ⟨_, _, a⟩ | ⟨a, _⟩ <;> first | exact hv a | omega⟩))))))
    · by_cases h3 : x0 = 3 ∨ x0 = 4 ∨ x0 = 5
      · by_cases hk : x1 = ⟨#[]⟩
        · by_cases hv : x2 = ⟨#[]⟩
          · exact Or.inr (Or.inr (Or.inr (Or.inr (Or.inr (Or.inr (Or.inr (Or.inr (Or.inr (Or.inr (Or.inl ⟨h3, hk, hv, Or.inr (Or.inr ⟨h3, hk, hv⟩)⟩))))))))))
          · exact Or.inr (Or.inr (Or.inr (Or.inr (Or.inr (Or.inr (Or.inr (Or.inr (Or.inr (Or.inl ⟨h3, hk, hv, fun h => by rcases h with ⟨a, _⟩ | ⟨a, _⟩ | ⟨_, _, a⟩ <;> first | exact hv a | omega⟩)))))))))
        · exact Or.inr (Or.inr (Or.inr (Or.inr (Or.inr (Or.inr (Or.inr (Or.inr (Or.inl ⟨h3, hk, fun h => by rcases h with ⟨a, _⟩ | ⟨a, _⟩ | ⟨_, a, _⟩ <;> first | exact hk a | omega⟩))))))))
      · exact Or.inr (Or.inr (Or.inr (Or.inr (Or.inr (Or.inr (Or.inr (Or.inr (Or.inr (Or.inr (Or.inr ⟨by omega, fun h => by rcases h with ⟨a, _⟩ | ⟨a, _⟩ | ⟨a, _⟩ <;> omega⟩))))))))))
theorem txt_z' {x : ByteArray} (h : ¬ x = ⟨#[]⟩) : ¬ x.toList = [] := fun e => by
  rw [ByteArray.toList_eq] at e
  exact h (ByteArray.ext (Array.ext' e))
set_option maxRecDepth 100000 in
set_option maxHeartbeats 8000000 in
theorem implInsR (x0 : Int) (x1 x2 : ByteArray) (w : World) (h1 : x1.size ≤ maxLen) (h2 : x2.size ≤ maxLen) :
    Calls Try.prog 101 #[.agg #[.int .i64 x0, .string x1, .string x2]] w fun r w' => r = .returned (.bool (boolP (InsOk x0 x1 x2))) ∧ Below w.heap.size w w' := by
  have W1 := hidP h1
  have W2 := hidP h2
  have hC1 : ∀ w0, (x1.size ≤ maxLen) → (nameB x1 = false) → Calls Try.prog 69 #[.string x1] w0 fun r w' => r = .returned (.bool false) ∧ w0 = w' := fun w0 n0 n1 => by rw [← n1]; exact implNameB x1 w0 n0
  have hC2 : ∀ w0, (x1.size ≤ maxLen) → (nameB x1 = true) → Calls Try.prog 69 #[.string x1] w0 fun r w' => r = .returned (.bool true) ∧ w0 = w' := fun w0 n0 n1 => by rw [← n1]; exact implNameB x1 w0 n0
  have hC3 : ∀ w0, (x2.size ≤ maxLen) → (nameB x2 = false) → Calls Try.prog 69 #[.string x2] w0 fun r w' => r = .returned (.bool false) ∧ w0 = w' := fun w0 n0 n1 => by rw [← n1]; exact implNameB x2 w0 n0
  have hC4 : ∀ w0, (x2.size ≤ maxLen) → (nameB x2 = true) → Calls Try.prog 69 #[.string x2] w0 fun r w' => r = .returned (.bool true) ∧ w0 = w' := fun w0 n0 n1 => by rw [← n1]; exact implNameB x2 w0 n0
  have HS0 : Hid (Sta [] w [] [] w) := Sta.start w
  clear h1 h2
  go_enter Try.func101, Try.ntmps101
  rcases ins_cases x0 x1 x2 with ⟨h, g, hf⟩ | ⟨h, g, k1, hf⟩ | ⟨h, g, k1, k2, hf⟩ | ⟨h, g, k1, k2, g2, hf⟩ | ⟨h, g, k1, k2, g2, hf⟩ | ⟨h, g, hf⟩ | ⟨h, g, k1, hf⟩ | ⟨h, g, k1, hf⟩ | ⟨h | h | h, k1, hf⟩ | ⟨h | h | h, k1, k2, hf⟩ | ⟨h | h | h, k1, k2, hf⟩ | ⟨h | h, hf⟩
  · as_aux_lemma =>
    have HF := hidP hf
    clear hf
    subst h
    go_wp2_with (first
      | ((with_reducible refine wpList_boxV (w := w) (by with_unfolding_all rfl) 41 (.tmp 0) (by with_unfolding_all rfl) [.int .i64 1, .string x1, .string x2] (by with_unfolding_all rfl) ?_); intro w1 hA1 hB1 hS1; clear hS1; have HS1 := Sta.new HS0 hA1 hB1 (by simp); clear hA1 hB1; have cHS1_0_0 : w1.cell? ⟨w.heap.size, 0, none⟩ = some (.int .i64 1) := Sta.c (i := 0) HS1 rfl rfl; have cHS1_0_1 : w1.cell? ⟨w.heap.size, 1, none⟩ = some (.string x1) := Sta.c (i := 0) HS1 rfl rfl)
      | (go_at_call 69; (with_reducible refine (hC1 w1 W1.out g).mono ?_); rintro r w' ⟨rfl, rfl⟩))
    go_ret
    exact ⟨congrArg (fun b => Ending.returned (Value.bool b)) (boolP_no HF.out).symm, Sta.fin HS1⟩
  · as_aux_lemma =>
    have HF := hidP hf
    clear hf
    subst h
    have k10 : x1.toList = [110, 111, 116] := by rw [k1]; exact Lib.toList_data _
    have k11 : (x1.toList == [110, 111, 116]) = true := by rw [k10]; rfl
    clear k1 k10
    go_wp2_with (first
      | ((with_reducible refine wpList_boxV (w := w) (by with_unfolding_all rfl) 41 (.tmp 0) (by with_unfolding_all rfl) [.int .i64 1, .string x1, .string x2] (by with_unfolding_all rfl) ?_); intro w3 hA3 hB3 hS3; clear hS3; have HS3 := Sta.new HS0 hA3 hB3 (by simp); clear hA3 hB3; have cHS3_0_0 : w3.cell? ⟨w.heap.size, 0, none⟩ = some (.int .i64 1) := Sta.c (i := 0) HS3 rfl rfl; have cHS3_0_1 : w3.cell? ⟨w.heap.size, 1, none⟩ = some (.string x1) := Sta.c (i := 0) HS3 rfl rfl)
      | (go_at_call 69; (with_reducible refine (hC2 w3 W1.out g).mono ?_); rintro r w' ⟨rfl, rfl⟩))
    go_ret
    exact ⟨congrArg (fun b => Ending.returned (Value.bool b)) (boolP_no HF.out).symm, Sta.fin HS3⟩
  · as_aux_lemma =>
    have HF := hidP hf
    clear hf
    subst h
    have k10 : ¬ x1.toList = [110, 111, 116] := fun e => k1 (by rw [ByteArray.toList_eq] at e; exact ByteArray.ext (Array.ext' e))
    have k11 : (x1.toList == [110, 111, 116]) = false := beq_eq_false_iff_ne.2 k10
    have k20 : x1.toList = [104, 97, 115] := by rw [k2]; exact Lib.toList_data _
    have k21 : (x1.toList == [104, 97, 115]) = true := by rw [k20]; rfl
    clear k2 k20
    go_wp2_with (first
      | ((with_reducible refine wpList_boxV (w := w) (by with_unfolding_all rfl) 41 (.tmp 0) (by with_unfolding_all rfl) [.int .i64 1, .string x1, .string x2] (by with_unfolding_all rfl) ?_); intro w5 hA5 hB5 hS5; clear hS5; have HS5 := Sta.new HS0 hA5 hB5 (by simp); clear hA5 hB5; have cHS5_0_0 : w5.cell? ⟨w.heap.size, 0, none⟩ = some (.int .i64 1) := Sta.c (i := 0) HS5 rfl rfl; have cHS5_0_1 : w5.cell? ⟨w.heap.size, 1, none⟩ = some (.string x1) := Sta.c (i := 0) HS5 rfl rfl)
      | (go_at_call 69; (with_reducible refine (hC2 w5 W1.out g).mono ?_); rintro r w' ⟨rfl, rfl⟩))
    go_ret
    exact ⟨congrArg (fun b => Ending.returned (Value.bool b)) (boolP_no HF.out).symm, Sta.fin HS5⟩
  · as_aux_lemma =>
    have HF := hidP hf
    clear hf
    subst h
    have k10 : ¬ x1.toList = [110, 111, 116] := fun e => k1 (by rw [ByteArray.toList_eq] at e; exact ByteArray.ext (Array.ext' e))
    have k11 : (x1.toList == [110, 111, 116]) = false := beq_eq_false_iff_ne.2 k10
    have k20 : ¬ x1.toList = [104, 97, 115] := fun e => k2 (by rw [ByteArray.toList_eq] at e; exact ByteArray.ext (Array.ext' e))
    have k21 : (x1.toList == [104, 97, 115]) = false := beq_eq_false_iff_ne.2 k20
    go_wp2_with (first
      | ((with_reducible refine wpList_boxV (w := w) (by with_unfolding_all rfl) 41 (.tmp 0) (by with_unfolding_all rfl) [.int .i64 1, .string x1, .string x2] (by with_unfolding_all rfl) ?_); intro w7 hA7 hB7 hS7; clear hS7; have HS7 := Sta.new HS0 hA7 hB7 (by simp); clear hA7 hB7; have cHS7_0_0 : w7.cell? ⟨w.heap.size, 0, none⟩ = some (.int .i64 1) := Sta.c (i := 0) HS7 rfl rfl; have cHS7_0_1 : w7.cell? ⟨w.heap.size, 1, none⟩ = some (.string x1) := Sta.c (i := 0) HS7 rfl rfl; have cHS7_0_2 : w7.cell? ⟨w.heap.size, 2, none⟩ = some (.string x2) := Sta.c (i := 0) HS7 rfl rfl)
      | (go_at_call 69; (with_reducible refine (hC2 w7 W1.out g).mono ?_); rintro r w' ⟨rfl, rfl⟩)
      | (go_at_call 69; (with_reducible refine (hC3 w7 W2.out g2).mono ?_); rintro r w' ⟨rfl, rfl⟩))
    go_ret
    exact ⟨congrArg (fun b => Ending.returned (Value.bool b)) (boolP_no HF.out).symm, Sta.fin HS7⟩
  · as_aux_lemma =>
    have HF := hidP hf
    clear hf
    subst h
    have k10 : ¬ x1.toList = [110, 111, 116] := fun e => k1 (by rw [ByteArray.toList_eq] at e; exact ByteArray.ext (Array.ext' e))
    have k11 : (x1.toList == [110, 111, 116]) = false := beq_eq_false_iff_ne.2 k10
    have k20 : ¬ x1.toList = [104, 97, 115] := fun e => k2 (by rw [ByteArray.toList_eq] at e; exact ByteArray.ext (Array.ext' e))
    have k21 : (x1.toList == [104, 97, 115]) = false := beq_eq_false_iff_ne.2 k20
    go_wp2_with (first
      | ((with_reducible refine wpList_boxV (w := w) (by with_unfolding_all rfl) 41 (.tmp 0) (by with_unfolding_all rfl) [.int .i64 1, .string x1, .string x2] (by with_unfolding_all rfl) ?_); intro w10 hA10 hB10 hS10; clear hS10; have HS10 := Sta.new HS0 hA10 hB10 (by simp); clear hA10 hB10; have cHS10_0_0 : w10.cell? ⟨w.heap.size, 0, none⟩ = some (.int .i64 1) := Sta.c (i := 0) HS10 rfl rfl; have cHS10_0_1 : w10.cell? ⟨w.heap.size, 1, none⟩ = some (.string x1) := Sta.c (i := 0) HS10 rfl rfl; have cHS10_0_2 : w10.cell? ⟨w.heap.size, 2, none⟩ = some (.string x2) := Sta.c (i := 0) HS10 rfl rfl)
      | (go_at_call 69; (with_reducible refine (hC2 w10 W1.out g).mono ?_); rintro r w' ⟨rfl, rfl⟩)
      | (go_at_call 69; (with_reducible refine (hC4 w10 W2.out g2).mono ?_); rintro r w' ⟨rfl, rfl⟩))
    go_ret
    exact ⟨congrArg (fun b => Ending.returned (Value.bool b)) (boolP_yes HF.out).symm, Sta.fin HS10⟩
  · as_aux_lemma =>
    have HF := hidP hf
    clear hf
    subst h
    go_wp2_with (first
      | ((with_reducible refine wpList_boxV (w := w) (by with_unfolding_all rfl) 41 (.tmp 0) (by with_unfolding_all rfl) [.int .i64 2, .string x1, .string x2] (by with_unfolding_all rfl) ?_); intro w13 hA13 hB13 hS13; clear hS13; have HS13 := Sta.new HS0 hA13 hB13 (by simp); clear hA13 hB13; have cHS13_0_0 : w13.cell? ⟨w.heap.size, 0, none⟩ = some (.int .i64 2) := Sta.c (i := 0) HS13 rfl rfl; have cHS13_0_1 : w13.cell? ⟨w.heap.size, 1, none⟩ = some (.string x1) := Sta.c (i := 0) HS13 rfl rfl)
      | (go_at_call 69; (with_reducible refine (hC1 w13 W1.out g).mono ?_); rintro r w' ⟨rfl, rfl⟩))
    go_ret
    exact ⟨congrArg (fun b => Ending.returned (Value.bool b)) (boolP_no HF.out).symm, Sta.fin HS13⟩
  · as_aux_lemma =>
    have HF := hidP hf
    clear hf
    subst h
    have k11 : ¬ x2.toList = [] := txt_z' k1
    have k12 : (x2.toList == []) = false := by cases hh : x2.toList with | nil => exact absurd hh k11 | cons a b => rfl
    go_wp2_with (first
      | ((with_reducible refine wpList_boxV (w := w) (by with_unfolding_all rfl) 41 (.tmp 0) (by with_unfolding_all rfl) [.int .i64 2, .string x1, .string x2] (by with_unfolding_all rfl) ?_); intro w15 hA15 hB15 hS15; clear hS15; have HS15 := Sta.new HS0 hA15 hB15 (by simp); clear hA15 hB15; have cHS15_0_0 : w15.cell? ⟨w.heap.size, 0, none⟩ = some (.int .i64 2) := Sta.c (i := 0) HS15 rfl rfl; have cHS15_0_1 : w15.cell? ⟨w.heap.size, 1, none⟩ = some (.string x1) := Sta.c (i := 0) HS15 rfl rfl; have cHS15_0_2 : w15.cell? ⟨w.heap.size, 2, none⟩ = some (.string x2) := Sta.c (i := 0) HS15 rfl rfl)
      | (go_at_call 69; (with_reducible refine (hC2 w15 W1.out g).mono ?_); rintro r w' ⟨rfl, rfl⟩))
    go_ret
    exact ⟨congrArg (fun b => Ending.returned (Value.bool b)) (boolP_no HF.out).symm, Sta.fin HS15⟩
  · as_aux_lemma =>
    have HF := hidP hf
    clear hf
    subst h
    have k11 : x2.toList = [] := by rw [k1]; exact Lib.toList_data _
    have k12 : (x2.toList == []) = true := by rw [k11]; rfl
    go_wp2_with (first
      | ((with_reducible refine wpList_boxV (w := w) (by with_unfolding_all rfl) 41 (.tmp 0) (by with_unfolding_all rfl) [.int .i64 2, .string x1, .string x2] (by with_unfolding_all rfl) ?_); intro w17 hA17 hB17 hS17; clear hS17; have HS17 := Sta.new HS0 hA17 hB17 (by simp); clear hA17 hB17; have cHS17_0_0 : w17.cell? ⟨w.heap.size, 0, none⟩ = some (.int .i64 2) := Sta.c (i := 0) HS17 rfl rfl; have cHS17_0_1 : w17.cell? ⟨w.heap.size, 1, none⟩ = some (.string x1) := Sta.c (i := 0) HS17 rfl rfl; have cHS17_0_2 : w17.cell? ⟨w.heap.size, 2, none⟩ = some (.string x2) := Sta.c (i := 0) HS17 rfl rfl)
      | (go_at_call 69; (with_reducible refine (hC2 w17 W1.out g).mono ?_); rintro r w' ⟨rfl, rfl⟩))
    go_ret
    exact ⟨congrArg (fun b => Ending.returned (Value.bool b)) (boolP_yes HF.out).symm, Sta.fin HS17⟩
  · as_aux_lemma =>
    have HF := hidP hf
    clear hf
    subst h
    have k11 : ¬ x1.toList = [] := txt_z' k1
    have k12 : (x1.toList == []) = false := by cases hh : x1.toList with | nil => exact absurd hh k11 | cons a b => rfl
    go_wp2_with (first
      | ((with_reducible refine wpList_boxV (w := w) (by with_unfolding_all rfl) 41 (.tmp 0) (by with_unfolding_all rfl) [.int .i64 3, .string x1, .string x2] (by with_unfolding_all rfl) ?_); intro w19 hA19 hB19 hS19; clear hS19; have HS19 := Sta.new HS0 hA19 hB19 (by simp); clear hA19 hB19; have cHS19_0_0 : w19.cell? ⟨w.heap.size, 0, none⟩ = some (.int .i64 3) := Sta.c (i := 0) HS19 rfl rfl; have cHS19_0_1 : w19.cell? ⟨w.heap.size, 1, none⟩ = some (.string x1) := Sta.c (i := 0) HS19 rfl rfl))
    go_ret
    exact ⟨congrArg (fun b => Ending.returned (Value.bool b)) (boolP_no HF.out).symm, Sta.fin HS19⟩
  · as_aux_lemma =>
    have HF := hidP hf
    clear hf
    subst h
    have k11 : ¬ x1.toList = [] := txt_z' k1
    have k12 : (x1.toList == []) = false := by cases hh : x1.toList with | nil => exact absurd hh k11 | cons a b => rfl
    go_wp2_with (first
      | ((with_reducible refine wpList_boxV (w := w) (by with_unfolding_all rfl) 41 (.tmp 0) (by with_unfolding_all rfl) [.int .i64 4, .string x1, .string x2] (by with_unfolding_all rfl) ?_); intro w20 hA20 hB20 hS20; clear hS20; have HS20 := Sta.new HS0 hA20 hB20 (by simp); clear hA20 hB20; have cHS20_0_0 : w20.cell? ⟨w.heap.size, 0, none⟩ = some (.int .i64 4) := Sta.c (i := 0) HS20 rfl rfl; have cHS20_0_1 : w20.cell? ⟨w.heap.size, 1, none⟩ = some (.string x1) := Sta.c (i := 0) HS20 rfl rfl))
    go_ret
    exact ⟨congrArg (fun b => Ending.returned (Value.bool b)) (boolP_no HF.out).symm, Sta.fin HS20⟩
  · as_aux_lemma =>
    have HF := hidP hf
    clear hf
    subst h
    have k11 : ¬ x1.toList = [] := txt_z' k1
    have k12 : (x1.toList == []) = false := by cases hh : x1.toList with | nil => exact absurd hh k11 | cons a b => rfl
    go_wp2_with (first
      | ((with_reducible refine wpList_boxV (w := w) (by with_unfolding_all rfl) 41 (.tmp 0) (by with_unfolding_all rfl) [.int .i64 5, .string x1, .string x2] (by with_unfolding_all rfl) ?_); intro w21 hA21 hB21 hS21; clear hS21; have HS21 := Sta.new HS0 hA21 hB21 (by simp); clear hA21 hB21; have cHS21_0_0 : w21.cell? ⟨w.heap.size, 0, none⟩ = some (.int .i64 5) := Sta.c (i := 0) HS21 rfl rfl; have cHS21_0_1 : w21.cell? ⟨w.heap.size, 1, none⟩ = some (.string x1) := Sta.c (i := 0) HS21 rfl rfl))
    go_ret
    exact ⟨congrArg (fun b => Ending.returned (Value.bool b)) (boolP_no HF.out).symm, Sta.fin HS21⟩
  · as_aux_lemma =>
    have HF := hidP hf
    clear hf
    subst h
    have k11 : x1.toList = [] := by rw [k1]; exact Lib.toList_data _
    have k12 : (x1.toList == []) = true := by rw [k11]; rfl
    have k21 : ¬ x2.toList = [] := txt_z' k2
    have k22 : (x2.toList == []) = false := by cases hh : x2.toList with | nil => exact absurd hh k21 | cons a b => rfl
    go_wp2_with (first
      | ((with_reducible refine wpList_boxV (w := w) (by with_unfolding_all rfl) 41 (.tmp 0) (by with_unfolding_all rfl) [.int .i64 3, .string x1, .string x2] (by with_unfolding_all rfl) ?_); intro w22 hA22 hB22 hS22; clear hS22; have HS22 := Sta.new HS0 hA22 hB22 (by simp); clear hA22 hB22; have cHS22_0_0 : w22.cell? ⟨w.heap.size, 0, none⟩ = some (.int .i64 3) := Sta.c (i := 0) HS22 rfl rfl; have cHS22_0_1 : w22.cell? ⟨w.heap.size, 1, none⟩ = some (.string x1) := Sta.c (i := 0) HS22 rfl rfl; have cHS22_0_2 : w22.cell? ⟨w.heap.size, 2, none⟩ = some (.string x2) := Sta.c (i := 0) HS22 rfl rfl))
    go_ret
    exact ⟨congrArg (fun b => Ending.returned (Value.bool b)) (boolP_no HF.out).symm, Sta.fin HS22⟩
  · as_aux_lemma =>
    have HF := hidP hf
    clear hf
    subst h
    have k11 : x1.toList = [] := by rw [k1]; exact Lib.toList_data _
    have k12 : (x1.toList == []) = true := by rw [k11]; rfl
    have k21 : ¬ x2.toList = [] := txt_z' k2
    have k22 : (x2.toList == []) = false := by cases hh : x2.toList with | nil => exact absurd hh k21 | cons a b => rfl
    go_wp2_with (first
      | ((with_reducible refine wpList_boxV (w := w) (by with_unfolding_all rfl) 41 (.tmp 0) (by with_unfolding_all rfl) [.int .i64 4, .string x1, .string x2] (by with_unfolding_all rfl) ?_); intro w23 hA23 hB23 hS23; clear hS23; have HS23 := Sta.new HS0 hA23 hB23 (by simp); clear hA23 hB23; have cHS23_0_0 : w23.cell? ⟨w.heap.size, 0, none⟩ = some (.int .i64 4) := Sta.c (i := 0) HS23 rfl rfl; have cHS23_0_1 : w23.cell? ⟨w.heap.size, 1, none⟩ = some (.string x1) := Sta.c (i := 0) HS23 rfl rfl; have cHS23_0_2 : w23.cell? ⟨w.heap.size, 2, none⟩ = some (.string x2) := Sta.c (i := 0) HS23 rfl rfl))
    go_ret
    exact ⟨congrArg (fun b => Ending.returned (Value.bool b)) (boolP_no HF.out).symm, Sta.fin HS23⟩
  · as_aux_lemma =>
    have HF := hidP hf
    clear hf
    subst h
    have k11 : x1.toList = [] := by rw [k1]; exact Lib.toList_data _
    have k12 : (x1.toList == []) = true := by rw [k11]; rfl
    have k21 : ¬ x2.toList = [] := txt_z' k2
    have k22 : (x2.toList == []) = false := by cases hh : x2.toList with | nil => exact absurd hh k21 | cons a b => rfl
    go_wp2_with (first
      | ((with_reducible refine wpList_boxV (w := w) (by with_unfolding_all rfl) 41 (.tmp 0) (by with_unfolding_all rfl) [.int .i64 5, .string x1, .string x2] (by with_unfolding_all rfl) ?_); intro w24 hA24 hB24 hS24; clear hS24; have HS24 := Sta.new HS0 hA24 hB24 (by simp); clear hA24 hB24; have cHS24_0_0 : w24.cell? ⟨w.heap.size, 0, none⟩ = some (.int .i64 5) := Sta.c (i := 0) HS24 rfl rfl; have cHS24_0_1 : w24.cell? ⟨w.heap.size, 1, none⟩ = some (.string x1) := Sta.c (i := 0) HS24 rfl rfl; have cHS24_0_2 : w24.cell? ⟨w.heap.size, 2, none⟩ = some (.string x2) := Sta.c (i := 0) HS24 rfl rfl))
    go_ret
    exact ⟨congrArg (fun b => Ending.returned (Value.bool b)) (boolP_no HF.out).symm, Sta.fin HS24⟩
  · as_aux_lemma =>
    have HF := hidP hf
    clear hf
    subst h
    have k11 : x1.toList = [] := by rw [k1]; exact Lib.toList_data _
    have k12 : (x1.toList == []) = true := by rw [k11]; rfl
    have k21 : x2.toList = [] := by rw [k2]; exact Lib.toList_data _
    have k22 : (x2.toList == []) = true := by rw [k21]; rfl
    go_wp2_with (first
      | ((with_reducible refine wpList_boxV (w := w) (by with_unfolding_all rfl) 41 (.tmp 0) (by with_unfolding_all rfl) [.int .i64 3, .string x1, .string x2] (by with_unfolding_all rfl) ?_); intro w25 hA25 hB25 hS25; clear hS25; have HS25 := Sta.new HS0 hA25 hB25 (by simp); clear hA25 hB25; have cHS25_0_0 : w25.cell? ⟨w.heap.size, 0, none⟩ = some (.int .i64 3) := Sta.c (i := 0) HS25 rfl rfl; have cHS25_0_1 : w25.cell? ⟨w.heap.size, 1, none⟩ = some (.string x1) := Sta.c (i := 0) HS25 rfl rfl; have cHS25_0_2 : w25.cell? ⟨w.heap.size, 2, none⟩ = some (.string x2) := Sta.c (i := 0) HS25 rfl rfl))
    go_ret
    exact ⟨congrArg (fun b => Ending.returned (Value.bool b)) (boolP_yes HF.out).symm, Sta.fin HS25⟩
  · as_aux_lemma =>
    have HF := hidP hf
    clear hf
    subst h
    have k11 : x1.toList = [] := by rw [k1]; exact Lib.toList_data _
    have k12 : (x1.toList == []) = true := by rw [k11]; rfl
    have k21 : x2.toList = [] := by rw [k2]; exact Lib.toList_data _
    have k22 : (x2.toList == []) = true := by rw [k21]; rfl
    go_wp2_with (first
      | ((with_reducible refine wpList_boxV (w := w) (by with_unfolding_all rfl) 41 (.tmp 0) (by with_unfolding_all rfl) [.int .i64 4, .string x1, .string x2] (by with_unfolding_all rfl) ?_); intro w26 hA26 hB26 hS26; clear hS26; have HS26 := Sta.new HS0 hA26 hB26 (by simp); clear hA26 hB26; have cHS26_0_0 : w26.cell? ⟨w.heap.size, 0, none⟩ = some (.int .i64 4) := Sta.c (i := 0) HS26 rfl rfl; have cHS26_0_1 : w26.cell? ⟨w.heap.size, 1, none⟩ = some (.string x1) := Sta.c (i := 0) HS26 rfl rfl; have cHS26_0_2 : w26.cell? ⟨w.heap.size, 2, none⟩ = some (.string x2) := Sta.c (i := 0) HS26 rfl rfl))
    go_ret
    exact ⟨congrArg (fun b => Ending.returned (Value.bool b)) (boolP_yes HF.out).symm, Sta.fin HS26⟩
  · as_aux_lemma =>
    have HF := hidP hf
    clear hf
    subst h
    have k11 : x1.toList = [] := by rw [k1]; exact Lib.toList_data _
    have k12 : (x1.toList == []) = true := by rw [k11]; rfl
    have k21 : x2.toList = [] := by rw [k2]; exact Lib.toList_data _
    have k22 : (x2.toList == []) = true := by rw [k21]; rfl
    go_wp2_with (first
      | ((with_reducible refine wpList_boxV (w := w) (by with_unfolding_all rfl) 41 (.tmp 0) (by with_unfolding_all rfl) [.int .i64 5, .string x1, .string x2] (by with_unfolding_all rfl) ?_); intro w27 hA27 hB27 hS27; clear hS27; have HS27 := Sta.new HS0 hA27 hB27 (by simp); clear hA27 hB27; have cHS27_0_0 : w27.cell? ⟨w.heap.size, 0, none⟩ = some (.int .i64 5) := Sta.c (i := 0) HS27 rfl rfl; have cHS27_0_1 : w27.cell? ⟨w.heap.size, 1, none⟩ = some (.string x1) := Sta.c (i := 0) HS27 rfl rfl; have cHS27_0_2 : w27.cell? ⟨w.heap.size, 2, none⟩ = some (.string x2) := Sta.c (i := 0) HS27 rfl rfl))
    go_ret
    exact ⟨congrArg (fun b => Ending.returned (Value.bool b)) (boolP_yes HF.out).symm, Sta.fin HS27⟩
  · as_aux_lemma =>
    have HF := hidP hf
    clear hf
    have d1a : decide (x0 = 1) = false := decide_eq_false (by omega)
    have d2a : decide (x0 = 2) = false := decide_eq_false (by omega)
    have d3a : decide (x0 = 3) = false := decide_eq_false (by omega)
    have d4a : decide (x0 = 4) = false := decide_eq_false (by omega)
    have d5a : decide (x0 = 5) = false := decide_eq_false (by omega)
    have d1b : (x0 == 1) = false := beq_eq_false_iff_ne.2 (by omega)
    have d2b : (x0 == 2) = false := beq_eq_false_iff_ne.2 (by omega)
    have d3b : (x0 == 3) = false := beq_eq_false_iff_ne.2 (by omega)
    have d4b : (x0 == 4) = false := beq_eq_false_iff_ne.2 (by omega)
    have d5b : (x0 == 5) = false := beq_eq_false_iff_ne.2 (by omega)
    have d1c : ¬ x0 = 1 := by omega
    have d2c : ¬ x0 = 2 := by omega
    have d3c : ¬ x0 = 3 := by omega
    have d4c : ¬ x0 = 4 := by omega
    have d5c : ¬ x0 = 5 := by omega
    go_wp2_with (first
      | ((with_reducible refine wpList_boxV (w := w) (by with_unfolding_all rfl) 41 (.tmp 0) (by with_unfolding_all rfl) [.int .i64 x0, .string x1, .string x2] (by with_unfolding_all rfl) ?_); intro w28 hA28 hB28 hS28; clear hS28; have HS28 := Sta.new HS0 hA28 hB28 (by simp); clear hA28 hB28; have cHS28_0_0 : w28.cell? ⟨w.heap.size, 0, none⟩ = some (.int .i64 x0) := Sta.c (i := 0) HS28 rfl rfl))
    go_ret
    exact ⟨congrArg (fun b => Ending.returned (Value.bool b)) (boolP_no HF.out).symm, Sta.fin HS28⟩
  · as_aux_lemma =>
    have HF := hidP hf
    clear hf
    have d1a : decide (x0 = 1) = false := decide_eq_false (by omega)
    have d2a : decide (x0 = 2) = false := decide_eq_false (by omega)
    have d3a : decide (x0 = 3) = false := decide_eq_false (by omega)
    have d4a : decide (x0 = 4) = false := decide_eq_false (by omega)
    have d5a : decide (x0 = 5) = false := decide_eq_false (by omega)
    have d1b : (x0 == 1) = false := beq_eq_false_iff_ne.2 (by omega)
    have d2b : (x0 == 2) = false := beq_eq_false_iff_ne.2 (by omega)
    have d3b : (x0 == 3) = false := beq_eq_false_iff_ne.2 (by omega)
    have d4b : (x0 == 4) = false := beq_eq_false_iff_ne.2 (by omega)
    have d5b : (x0 == 5) = false := beq_eq_false_iff_ne.2 (by omega)
    have d1c : ¬ x0 = 1 := by omega
    have d2c : ¬ x0 = 2 := by omega
    have d3c : ¬ x0 = 3 := by omega
    have d4c : ¬ x0 = 4 := by omega
    have d5c : ¬ x0 = 5 := by omega
    go_wp2_with (first
      | ((with_reducible refine wpList_boxV (w := w) (by with_unfolding_all rfl) 41 (.tmp 0) (by with_unfolding_all rfl) [.int .i64 x0, .string x1, .string x2] (by with_unfolding_all rfl) ?_); intro w29 hA29 hB29 hS29; clear hS29; have HS29 := Sta.new HS0 hA29 hB29 (by simp); clear hA29 hB29; have cHS29_0_0 : w29.cell? ⟨w.heap.size, 0, none⟩ = some (.int .i64 x0) := Sta.c (i := 0) HS29 rfl rfl))
    go_ret
    exact ⟨congrArg (fun b => Ending.returned (Value.bool b)) (boolP_no HF.out).symm, Sta.fin HS29⟩
set_option maxRecDepth 100000 in
set_option maxHeartbeats 8000000 in
theorem specIns (x0 : Int) (x1 x2 : ByteArray) (w : World) (h1 : x1.size ≤ maxLen) (h2 : x2.size ≤ maxLen) :
    Calls Try.prog 48 #[.agg #[.int .i64 x0, .string x1, .string x2]] w fun r w' => r = .returned (.bool (boolP (InsOk x0 x1 x2))) ∧ Below w.heap.size w w' := by
  have W1 := hidP h1
  have W2 := hidP h2
  have hC1 : ∀ w0, (x1.size ≤ maxLen) → (nameB x1 = false) → Calls Try.prog 99 #[.string x1] w0 fun r w' => r = .returned (.bool false) ∧ w0 = w' := fun w0 n0 n1 => by rw [← n1]; exact (specNameB x1 w0 n0).mono fun r w' ⟨h1, h2⟩ => ⟨h1, h2.symm⟩
  have hC2 : ∀ w0, (x1.size ≤ maxLen) → (nameB x1 = true) → Calls Try.prog 99 #[.string x1] w0 fun r w' => r = .returned (.bool true) ∧ w0 = w' := fun w0 n0 n1 => by rw [← n1]; exact (specNameB x1 w0 n0).mono fun r w' ⟨h1, h2⟩ => ⟨h1, h2.symm⟩
  have hC3 : ∀ w0, (x2.size ≤ maxLen) → (nameB x2 = false) → Calls Try.prog 99 #[.string x2] w0 fun r w' => r = .returned (.bool false) ∧ w0 = w' := fun w0 n0 n1 => by rw [← n1]; exact (specNameB x2 w0 n0).mono fun r w' ⟨h1, h2⟩ => ⟨h1, h2.symm⟩
  have hC4 : ∀ w0, (x2.size ≤ maxLen) → (nameB x2 = true) → Calls Try.prog 99 #[.string x2] w0 fun r w' => r = .returned (.bool true) ∧ w0 = w' := fun w0 n0 n1 => by rw [← n1]; exact (specNameB x2 w0 n0).mono fun r w' ⟨h1, h2⟩ => ⟨h1, h2.symm⟩
  have HS0 : Hid (Sta [] w [] [] w) := Sta.start w
  clear h1 h2
  go_enter Try.func48, Try.ntmps48
  rcases ins_cases x0 x1 x2 with ⟨h, g, hf⟩ | ⟨h, g, k1, hf⟩ | ⟨h, g, k1, k2, hf⟩ | ⟨h, g, k1, k2, g2, hf⟩ | ⟨h, g, k1, k2, g2, hf⟩ | ⟨h, g, hf⟩ | ⟨h, g, k1, hf⟩ | ⟨h, g, k1, hf⟩ | ⟨h | h | h, k1, hf⟩ | ⟨h | h | h, k1, k2, hf⟩ | ⟨h | h | h, k1, k2, hf⟩ | ⟨h | h, hf⟩
  · as_aux_lemma =>
    have HF := hidP hf
    clear hf
    subst h
    go_wp2_with (first
      | ((with_reducible refine wpList_boxV (w := w) (by with_unfolding_all rfl) 41 (.tmp 0) (by with_unfolding_all rfl) [.int .i64 1, .string x1, .string x2] (by with_unfolding_all rfl) ?_); intro w1 hA1 hB1 hS1; clear hS1; have HS1 := Sta.new HS0 hA1 hB1 (by simp); clear hA1 hB1; have cHS1_0_0 : w1.cell? ⟨w.heap.size, 0, none⟩ = some (.int .i64 1) := Sta.c (i := 0) HS1 rfl rfl; have cHS1_0_1 : w1.cell? ⟨w.heap.size, 1, none⟩ = some (.string x1) := Sta.c (i := 0) HS1 rfl rfl)
      | (go_at_call 99; (with_reducible refine (hC1 w1 W1.out g).mono ?_); rintro r w' ⟨rfl, rfl⟩))
    go_ret
    exact ⟨congrArg (fun b => Ending.returned (Value.bool b)) (boolP_no HF.out).symm, Sta.fin HS1⟩
  · as_aux_lemma =>
    have HF := hidP hf
    clear hf
    subst h
    have k10 : x1.toList = [110, 111, 116] := by rw [k1]; exact Lib.toList_data _
    have k11 : (x1.toList == [110, 111, 116]) = true := by rw [k10]; rfl
    clear k1 k10
    go_wp2_with (first
      | ((with_reducible refine wpList_boxV (w := w) (by with_unfolding_all rfl) 41 (.tmp 0) (by with_unfolding_all rfl) [.int .i64 1, .string x1, .string x2] (by with_unfolding_all rfl) ?_); intro w3 hA3 hB3 hS3; clear hS3; have HS3 := Sta.new HS0 hA3 hB3 (by simp); clear hA3 hB3; have cHS3_0_0 : w3.cell? ⟨w.heap.size, 0, none⟩ = some (.int .i64 1) := Sta.c (i := 0) HS3 rfl rfl; have cHS3_0_1 : w3.cell? ⟨w.heap.size, 1, none⟩ = some (.string x1) := Sta.c (i := 0) HS3 rfl rfl)
      | (go_at_call 99; (with_reducible refine (hC2 w3 W1.out g).mono ?_); rintro r w' ⟨rfl, rfl⟩))
    go_ret
    exact ⟨congrArg (fun b => Ending.returned (Value.bool b)) (boolP_no HF.out).symm, Sta.fin HS3⟩
  · as_aux_lemma =>
    have HF := hidP hf
    clear hf
    subst h
    have k10 : ¬ x1.toList = [110, 111, 116] := fun e => k1 (by rw [ByteArray.toList_eq] at e; exact ByteArray.ext (Array.ext' e))
    have k11 : (x1.toList == [110, 111, 116]) = false := beq_eq_false_iff_ne.2 k10
    have k20 : x1.toList = [104, 97, 115] := by rw [k2]; exact Lib.toList_data _
    have k21 : (x1.toList == [104, 97, 115]) = true := by rw [k20]; rfl
    clear k2 k20
    go_wp2_with (first
      | ((with_reducible refine wpList_boxV (w := w) (by with_unfolding_all rfl) 41 (.tmp 0) (by with_unfolding_all rfl) [.int .i64 1, .string x1, .string x2] (by with_unfolding_all rfl) ?_); intro w5 hA5 hB5 hS5; clear hS5; have HS5 := Sta.new HS0 hA5 hB5 (by simp); clear hA5 hB5; have cHS5_0_0 : w5.cell? ⟨w.heap.size, 0, none⟩ = some (.int .i64 1) := Sta.c (i := 0) HS5 rfl rfl; have cHS5_0_1 : w5.cell? ⟨w.heap.size, 1, none⟩ = some (.string x1) := Sta.c (i := 0) HS5 rfl rfl)
      | (go_at_call 99; (with_reducible refine (hC2 w5 W1.out g).mono ?_); rintro r w' ⟨rfl, rfl⟩))
    go_ret
    exact ⟨congrArg (fun b => Ending.returned (Value.bool b)) (boolP_no HF.out).symm, Sta.fin HS5⟩
  · as_aux_lemma =>
    have HF := hidP hf
    clear hf
    subst h
    have k10 : ¬ x1.toList = [110, 111, 116] := fun e => k1 (by rw [ByteArray.toList_eq] at e; exact ByteArray.ext (Array.ext' e))
    have k11 : (x1.toList == [110, 111, 116]) = false := beq_eq_false_iff_ne.2 k10
    have k20 : ¬ x1.toList = [104, 97, 115] := fun e => k2 (by rw [ByteArray.toList_eq] at e; exact ByteArray.ext (Array.ext' e))
    have k21 : (x1.toList == [104, 97, 115]) = false := beq_eq_false_iff_ne.2 k20
    go_wp2_with (first
      | ((with_reducible refine wpList_boxV (w := w) (by with_unfolding_all rfl) 41 (.tmp 0) (by with_unfolding_all rfl) [.int .i64 1, .string x1, .string x2] (by with_unfolding_all rfl) ?_); intro w7 hA7 hB7 hS7; clear hS7; have HS7 := Sta.new HS0 hA7 hB7 (by simp); clear hA7 hB7; have cHS7_0_0 : w7.cell? ⟨w.heap.size, 0, none⟩ = some (.int .i64 1) := Sta.c (i := 0) HS7 rfl rfl; have cHS7_0_1 : w7.cell? ⟨w.heap.size, 1, none⟩ = some (.string x1) := Sta.c (i := 0) HS7 rfl rfl; have cHS7_0_2 : w7.cell? ⟨w.heap.size, 2, none⟩ = some (.string x2) := Sta.c (i := 0) HS7 rfl rfl)
      | (go_at_call 99; (with_reducible refine (hC2 w7 W1.out g).mono ?_); rintro r w' ⟨rfl, rfl⟩)
      | (go_at_call 99; (with_reducible refine (hC3 w7 W2.out g2).mono ?_); rintro r w' ⟨rfl, rfl⟩))
    go_ret
    exact ⟨congrArg (fun b => Ending.returned (Value.bool b)) (boolP_no HF.out).symm, Sta.fin HS7⟩
  · as_aux_lemma =>
    have HF := hidP hf
    clear hf
    subst h
    have k10 : ¬ x1.toList = [110, 111, 116] := fun e => k1 (by rw [ByteArray.toList_eq] at e; exact ByteArray.ext (Array.ext' e))
    have k11 : (x1.toList == [110, 111, 116]) = false := beq_eq_false_iff_ne.2 k10
    have k20 : ¬ x1.toList = [104, 97, 115] := fun e => k2 (by rw [ByteArray.toList_eq] at e; exact ByteArray.ext (Array.ext' e))
    have k21 : (x1.toList == [104, 97, 115]) = false := beq_eq_false_iff_ne.2 k20
    go_wp2_with (first
      | ((with_reducible refine wpList_boxV (w := w) (by with_unfolding_all rfl) 41 (.tmp 0) (by with_unfolding_all rfl) [.int .i64 1, .string x1, .string x2] (by with_unfolding_all rfl) ?_); intro w10 hA10 hB10 hS10; clear hS10; have HS10 := Sta.new HS0 hA10 hB10 (by simp); clear hA10 hB10; have cHS10_0_0 : w10.cell? ⟨w.heap.size, 0, none⟩ = some (.int .i64 1) := Sta.c (i := 0) HS10 rfl rfl; have cHS10_0_1 : w10.cell? ⟨w.heap.size, 1, none⟩ = some (.string x1) := Sta.c (i := 0) HS10 rfl rfl; have cHS10_0_2 : w10.cell? ⟨w.heap.size, 2, none⟩ = some (.string x2) := Sta.c (i := 0) HS10 rfl rfl)
      | (go_at_call 99; (with_reducible refine (hC2 w10 W1.out g).mono ?_); rintro r w' ⟨rfl, rfl⟩)
      | (go_at_call 99; (with_reducible refine (hC4 w10 W2.out g2).mono ?_); rintro r w' ⟨rfl, rfl⟩))
    go_ret
    exact ⟨congrArg (fun b => Ending.returned (Value.bool b)) (boolP_yes HF.out).symm, Sta.fin HS10⟩
  · as_aux_lemma =>
    have HF := hidP hf
    clear hf
    subst h
    go_wp2_with (first
      | ((with_reducible refine wpList_boxV (w := w) (by with_unfolding_all rfl) 41 (.tmp 0) (by with_unfolding_all rfl) [.int .i64 2, .string x1, .string x2] (by with_unfolding_all rfl) ?_); intro w13 hA13 hB13 hS13; clear hS13; have HS13 := Sta.new HS0 hA13 hB13 (by simp); clear hA13 hB13; have cHS13_0_0 : w13.cell? ⟨w.heap.size, 0, none⟩ = some (.int .i64 2) := Sta.c (i := 0) HS13 rfl rfl; have cHS13_0_1 : w13.cell? ⟨w.heap.size, 1, none⟩ = some (.string x1) := Sta.c (i := 0) HS13 rfl rfl)
      | (go_at_call 99; (with_reducible refine (hC1 w13 W1.out g).mono ?_); rintro r w' ⟨rfl, rfl⟩))
    go_ret
    exact ⟨congrArg (fun b => Ending.returned (Value.bool b)) (boolP_no HF.out).symm, Sta.fin HS13⟩
  · as_aux_lemma =>
    have HF := hidP hf
    clear hf
    subst h
    have k11 : ¬ x2.toList = [] := txt_z' k1
    have k12 : (x2.toList == []) = false := by cases hh : x2.toList with | nil => exact absurd hh k11 | cons a b => rfl
    go_wp2_with (first
      | ((with_reducible refine wpList_boxV (w := w) (by with_unfolding_all rfl) 41 (.tmp 0) (by with_unfolding_all rfl) [.int .i64 2, .string x1, .string x2] (by with_unfolding_all rfl) ?_); intro w15 hA15 hB15 hS15; clear hS15; have HS15 := Sta.new HS0 hA15 hB15 (by simp); clear hA15 hB15; have cHS15_0_0 : w15.cell? ⟨w.heap.size, 0, none⟩ = some (.int .i64 2) := Sta.c (i := 0) HS15 rfl rfl; have cHS15_0_1 : w15.cell? ⟨w.heap.size, 1, none⟩ = some (.string x1) := Sta.c (i := 0) HS15 rfl rfl; have cHS15_0_2 : w15.cell? ⟨w.heap.size, 2, none⟩ = some (.string x2) := Sta.c (i := 0) HS15 rfl rfl)
      | (go_at_call 99; (with_reducible refine (hC2 w15 W1.out g).mono ?_); rintro r w' ⟨rfl, rfl⟩))
    go_ret
    exact ⟨congrArg (fun b => Ending.returned (Value.bool b)) (boolP_no HF.out).symm, Sta.fin HS15⟩
  · as_aux_lemma =>
    have HF := hidP hf
    clear hf
    subst h
    have k11 : x2.toList = [] := by rw [k1]; exact Lib.toList_data _
    have k12 : (x2.toList == []) = true := by rw [k11]; rfl
    go_wp2_with (first
      | ((with_reducible refine wpList_boxV (w := w) (by with_unfolding_all rfl) 41 (.tmp 0) (by with_unfolding_all rfl) [.int .i64 2, .string x1, .string x2] (by with_unfolding_all rfl) ?_); intro w17 hA17 hB17 hS17; clear hS17; have HS17 := Sta.new HS0 hA17 hB17 (by simp); clear hA17 hB17; have cHS17_0_0 : w17.cell? ⟨w.heap.size, 0, none⟩ = some (.int .i64 2) := Sta.c (i := 0) HS17 rfl rfl; have cHS17_0_1 : w17.cell? ⟨w.heap.size, 1, none⟩ = some (.string x1) := Sta.c (i := 0) HS17 rfl rfl; have cHS17_0_2 : w17.cell? ⟨w.heap.size, 2, none⟩ = some (.string x2) := Sta.c (i := 0) HS17 rfl rfl)
      | (go_at_call 99; (with_reducible refine (hC2 w17 W1.out g).mono ?_); rintro r w' ⟨rfl, rfl⟩))
    go_ret
    exact ⟨congrArg (fun b => Ending.returned (Value.bool b)) (boolP_yes HF.out).symm, Sta.fin HS17⟩
  · as_aux_lemma =>
    have HF := hidP hf
    clear hf
    subst h
    have k11 : ¬ x1.toList = [] := txt_z' k1
    have k12 : (x1.toList == []) = false := by cases hh : x1.toList with | nil => exact absurd hh k11 | cons a b => rfl
    go_wp2_with (first
      | ((with_reducible refine wpList_boxV (w := w) (by with_unfolding_all rfl) 41 (.tmp 0) (by with_unfolding_all rfl) [.int .i64 3, .string x1, .string x2] (by with_unfolding_all rfl) ?_); intro w19 hA19 hB19 hS19; clear hS19; have HS19 := Sta.new HS0 hA19 hB19 (by simp); clear hA19 hB19; have cHS19_0_0 : w19.cell? ⟨w.heap.size, 0, none⟩ = some (.int .i64 3) := Sta.c (i := 0) HS19 rfl rfl; have cHS19_0_1 : w19.cell? ⟨w.heap.size, 1, none⟩ = some (.string x1) := Sta.c (i := 0) HS19 rfl rfl))
    go_ret
    exact ⟨congrArg (fun b => Ending.returned (Value.bool b)) (boolP_no HF.out).symm, Sta.fin HS19⟩
  · as_aux_lemma =>
    have HF := hidP hf
    clear hf
    subst h
    have k11 : ¬ x1.toList = [] := txt_z' k1
    have k12 : (x1.toList == []) = false := by cases hh : x1.toList with | nil => exact absurd hh k11 | cons a b => rfl
    go_wp2_with (first
      | ((with_reducible refine wpList_boxV (w := w) (by with_unfolding_all rfl) 41 (.tmp 0) (by with_unfolding_all rfl) [.int .i64 4, .string x1, .string x2] (by with_unfolding_all rfl) ?_); intro w20 hA20 hB20 hS20; clear hS20; have HS20 := Sta.new HS0 hA20 hB20 (by simp); clear hA20 hB20; have cHS20_0_0 : w20.cell? ⟨w.heap.size, 0, none⟩ = some (.int .i64 4) := Sta.c (i := 0) HS20 rfl rfl; have cHS20_0_1 : w20.cell? ⟨w.heap.size, 1, none⟩ = some (.string x1) := Sta.c (i := 0) HS20 rfl rfl))
    go_ret
    exact ⟨congrArg (fun b => Ending.returned (Value.bool b)) (boolP_no HF.out).symm, Sta.fin HS20⟩
  · as_aux_lemma =>
    have HF := hidP hf
    clear hf
    subst h
    have k11 : ¬ x1.toList = [] := txt_z' k1
    have k12 : (x1.toList == []) = false := by cases hh : x1.toList with | nil => exact absurd hh k11 | cons a b => rfl
    go_wp2_with (first
      | ((with_reducible refine wpList_boxV (w := w) (by with_unfolding_all rfl) 41 (.tmp 0) (by with_unfolding_all rfl) [.int .i64 5, .string x1, .string x2] (by with_unfolding_all rfl) ?_); intro w21 hA21 hB21 hS21; clear hS21; have HS21 := Sta.new HS0 hA21 hB21 (by simp); clear hA21 hB21; have cHS21_0_0 : w21.cell? ⟨w.heap.size, 0, none⟩ = some (.int .i64 5) := Sta.c (i := 0) HS21 rfl rfl; have cHS21_0_1 : w21.cell? ⟨w.heap.size, 1, none⟩ = some (.string x1) := Sta.c (i := 0) HS21 rfl rfl))
    go_ret
    exact ⟨congrArg (fun b => Ending.returned (Value.bool b)) (boolP_no HF.out).symm, Sta.fin HS21⟩
  · as_aux_lemma =>
    have HF := hidP hf
    clear hf
    subst h
    have k11 : x1.toList = [] := by rw [k1]; exact Lib.toList_data _
    have k12 : (x1.toList == []) = true := by rw [k11]; rfl
    have k21 : ¬ x2.toList = [] := txt_z' k2
    have k22 : (x2.toList == []) = false := by cases hh : x2.toList with | nil => exact absurd hh k21 | cons a b => rfl
    go_wp2_with (first
      | ((with_reducible refine wpList_boxV (w := w) (by with_unfolding_all rfl) 41 (.tmp 0) (by with_unfolding_all rfl) [.int .i64 3, .string x1, .string x2] (by with_unfolding_all rfl) ?_); intro w22 hA22 hB22 hS22; clear hS22; have HS22 := Sta.new HS0 hA22 hB22 (by simp); clear hA22 hB22; have cHS22_0_0 : w22.cell? ⟨w.heap.size, 0, none⟩ = some (.int .i64 3) := Sta.c (i := 0) HS22 rfl rfl; have cHS22_0_1 : w22.cell? ⟨w.heap.size, 1, none⟩ = some (.string x1) := Sta.c (i := 0) HS22 rfl rfl; have cHS22_0_2 : w22.cell? ⟨w.heap.size, 2, none⟩ = some (.string x2) := Sta.c (i := 0) HS22 rfl rfl))
    go_ret
    exact ⟨congrArg (fun b => Ending.returned (Value.bool b)) (boolP_no HF.out).symm, Sta.fin HS22⟩
  · as_aux_lemma =>
    have HF := hidP hf
    clear hf
    subst h
    have k11 : x1.toList = [] := by rw [k1]; exact Lib.toList_data _
    have k12 : (x1.toList == []) = true := by rw [k11]; rfl
    have k21 : ¬ x2.toList = [] := txt_z' k2
    have k22 : (x2.toList == []) = false := by cases hh : x2.toList with | nil => exact absurd hh k21 | cons a b => rfl
    go_wp2_with (first
      | ((with_reducible refine wpList_boxV (w := w) (by with_unfolding_all rfl) 41 (.tmp 0) (by with_unfolding_all rfl) [.int .i64 4, .string x1, .string x2] (by with_unfolding_all rfl) ?_); intro w23 hA23 hB23 hS23; clear hS23; have HS23 := Sta.new HS0 hA23 hB23 (by simp); clear hA23 hB23; have cHS23_0_0 : w23.cell? ⟨w.heap.size, 0, none⟩ = some (.int .i64 4) := Sta.c (i := 0) HS23 rfl rfl; have cHS23_0_1 : w23.cell? ⟨w.heap.size, 1, none⟩ = some (.string x1) := Sta.c (i := 0) HS23 rfl rfl; have cHS23_0_2 : w23.cell? ⟨w.heap.size, 2, none⟩ = some (.string x2) := Sta.c (i := 0) HS23 rfl rfl))
    go_ret
    exact ⟨congrArg (fun b => Ending.returned (Value.bool b)) (boolP_no HF.out).symm, Sta.fin HS23⟩
  · as_aux_lemma =>
    have HF := hidP hf
    clear hf
    subst h
    have k11 : x1.toList = [] := by rw [k1]; exact Lib.toList_data _
    have k12 : (x1.toList == []) = true := by rw [k11]; rfl
    have k21 : ¬ x2.toList = [] := txt_z' k2
    have k22 : (x2.toList == []) = false := by cases hh : x2.toList with | nil => exact absurd hh k21 | cons a b => rfl
    go_wp2_with (first
      | ((with_reducible refine wpList_boxV (w := w) (by with_unfolding_all rfl) 41 (.tmp 0) (by with_unfolding_all rfl) [.int .i64 5, .string x1, .string x2] (by with_unfolding_all rfl) ?_); intro w24 hA24 hB24 hS24; clear hS24; have HS24 := Sta.new HS0 hA24 hB24 (by simp); clear hA24 hB24; have cHS24_0_0 : w24.cell? ⟨w.heap.size, 0, none⟩ = some (.int .i64 5) := Sta.c (i := 0) HS24 rfl rfl; have cHS24_0_1 : w24.cell? ⟨w.heap.size, 1, none⟩ = some (.string x1) := Sta.c (i := 0) HS24 rfl rfl; have cHS24_0_2 : w24.cell? ⟨w.heap.size, 2, none⟩ = some (.string x2) := Sta.c (i := 0) HS24 rfl rfl))
    go_ret
    exact ⟨congrArg (fun b => Ending.returned (Value.bool b)) (boolP_no HF.out).symm, Sta.fin HS24⟩
  · as_aux_lemma =>
    have HF := hidP hf
    clear hf
    subst h
    have k11 : x1.toList = [] := by rw [k1]; exact Lib.toList_data _
    have k12 : (x1.toList == []) = true := by rw [k11]; rfl
    have k21 : x2.toList = [] := by rw [k2]; exact Lib.toList_data _
    have k22 : (x2.toList == []) = true := by rw [k21]; rfl
    go_wp2_with (first
      | ((with_reducible refine wpList_boxV (w := w) (by with_unfolding_all rfl) 41 (.tmp 0) (by with_unfolding_all rfl) [.int .i64 3, .string x1, .string x2] (by with_unfolding_all rfl) ?_); intro w25 hA25 hB25 hS25; clear hS25; have HS25 := Sta.new HS0 hA25 hB25 (by simp); clear hA25 hB25; have cHS25_0_0 : w25.cell? ⟨w.heap.size, 0, none⟩ = some (.int .i64 3) := Sta.c (i := 0) HS25 rfl rfl; have cHS25_0_1 : w25.cell? ⟨w.heap.size, 1, none⟩ = some (.string x1) := Sta.c (i := 0) HS25 rfl rfl; have cHS25_0_2 : w25.cell? ⟨w.heap.size, 2, none⟩ = some (.string x2) := Sta.c (i := 0) HS25 rfl rfl))
    go_ret
    exact ⟨congrArg (fun b => Ending.returned (Value.bool b)) (boolP_yes HF.out).symm, Sta.fin HS25⟩
  · as_aux_lemma =>
    have HF := hidP hf
    clear hf
    subst h
    have k11 : x1.toList = [] := by rw [k1]; exact Lib.toList_data _
    have k12 : (x1.toList == []) = true := by rw [k11]; rfl
    have k21 : x2.toList = [] := by rw [k2]; exact Lib.toList_data _
    have k22 : (x2.toList == []) = true := by rw [k21]; rfl
    go_wp2_with (first
      | ((with_reducible refine wpList_boxV (w := w) (by with_unfolding_all rfl) 41 (.tmp 0) (by with_unfolding_all rfl) [.int .i64 4, .string x1, .string x2] (by with_unfolding_all rfl) ?_); intro w26 hA26 hB26 hS26; clear hS26; have HS26 := Sta.new HS0 hA26 hB26 (by simp); clear hA26 hB26; have cHS26_0_0 : w26.cell? ⟨w.heap.size, 0, none⟩ = some (.int .i64 4) := Sta.c (i := 0) HS26 rfl rfl; have cHS26_0_1 : w26.cell? ⟨w.heap.size, 1, none⟩ = some (.string x1) := Sta.c (i := 0) HS26 rfl rfl; have cHS26_0_2 : w26.cell? ⟨w.heap.size, 2, none⟩ = some (.string x2) := Sta.c (i := 0) HS26 rfl rfl))
    go_ret
    exact ⟨congrArg (fun b => Ending.returned (Value.bool b)) (boolP_yes HF.out).symm, Sta.fin HS26⟩
  · as_aux_lemma =>
    have HF := hidP hf
    clear hf
    subst h
    have k11 : x1.toList = [] := by rw [k1]; exact Lib.toList_data _
    have k12 : (x1.toList == []) = true := by rw [k11]; rfl
    have k21 : x2.toList = [] := by rw [k2]; exact Lib.toList_data _
    have k22 : (x2.toList == []) = true := by rw [k21]; rfl
    go_wp2_with (first
      | ((with_reducible refine wpList_boxV (w := w) (by with_unfolding_all rfl) 41 (.tmp 0) (by with_unfolding_all rfl) [.int .i64 5, .string x1, .string x2] (by with_unfolding_all rfl) ?_); intro w27 hA27 hB27 hS27; clear hS27; have HS27 := Sta.new HS0 hA27 hB27 (by simp); clear hA27 hB27; have cHS27_0_0 : w27.cell? ⟨w.heap.size, 0, none⟩ = some (.int .i64 5) := Sta.c (i := 0) HS27 rfl rfl; have cHS27_0_1 : w27.cell? ⟨w.heap.size, 1, none⟩ = some (.string x1) := Sta.c (i := 0) HS27 rfl rfl; have cHS27_0_2 : w27.cell? ⟨w.heap.size, 2, none⟩ = some (.string x2) := Sta.c (i := 0) HS27 rfl rfl))
    go_ret
    exact ⟨congrArg (fun b => Ending.returned (Value.bool b)) (boolP_yes HF.out).symm, Sta.fin HS27⟩
  · as_aux_lemma =>
    have HF := hidP hf
    clear hf
    have d1a : decide (x0 = 1) = false := decide_eq_false (by omega)
    have d2a : decide (x0 = 2) = false := decide_eq_false (by omega)
    have d3a : decide (x0 = 3) = false := decide_eq_false (by omega)
    have d4a : decide (x0 = 4) = false := decide_eq_false (by omega)
    have d5a : decide (x0 = 5) = false := decide_eq_false (by omega)
    have d1b : (x0 == 1) = false := beq_eq_false_iff_ne.2 (by omega)
    have d2b : (x0 == 2) = false := beq_eq_false_iff_ne.2 (by omega)
    have d3b : (x0 == 3) = false := beq_eq_false_iff_ne.2 (by omega)
    have d4b : (x0 == 4) = false := beq_eq_false_iff_ne.2 (by omega)
    have d5b : (x0 == 5) = false := beq_eq_false_iff_ne.2 (by omega)
    have d1c : ¬ x0 = 1 := by omega
    have d2c : ¬ x0 = 2 := by omega
    have d3c : ¬ x0 = 3 := by omega
    have d4c : ¬ x0 = 4 := by omega
    have d5c : ¬ x0 = 5 := by omega
    have hge : decide ((3 : Int) ≤ x0) = false := decide_eq_false (by omega)
    go_wp2_with (first
      | ((with_reducible refine wpList_boxV (w := w) (by with_unfolding_all rfl) 41 (.tmp 0) (by with_unfolding_all rfl) [.int .i64 x0, .string x1, .string x2] (by with_unfolding_all rfl) ?_); intro w28 hA28 hB28 hS28; clear hS28; have HS28 := Sta.new HS0 hA28 hB28 (by simp); clear hA28 hB28; have cHS28_0_0 : w28.cell? ⟨w.heap.size, 0, none⟩ = some (.int .i64 x0) := Sta.c (i := 0) HS28 rfl rfl))
    go_ret
    exact ⟨congrArg (fun b => Ending.returned (Value.bool b)) (boolP_no HF.out).symm, Sta.fin HS28⟩
  · as_aux_lemma =>
    have HF := hidP hf
    clear hf
    have d1a : decide (x0 = 1) = false := decide_eq_false (by omega)
    have d2a : decide (x0 = 2) = false := decide_eq_false (by omega)
    have d3a : decide (x0 = 3) = false := decide_eq_false (by omega)
    have d4a : decide (x0 = 4) = false := decide_eq_false (by omega)
    have d5a : decide (x0 = 5) = false := decide_eq_false (by omega)
    have d1b : (x0 == 1) = false := beq_eq_false_iff_ne.2 (by omega)
    have d2b : (x0 == 2) = false := beq_eq_false_iff_ne.2 (by omega)
    have d3b : (x0 == 3) = false := beq_eq_false_iff_ne.2 (by omega)
    have d4b : (x0 == 4) = false := beq_eq_false_iff_ne.2 (by omega)
    have d5b : (x0 == 5) = false := beq_eq_false_iff_ne.2 (by omega)
    have d1c : ¬ x0 = 1 := by omega
    have d2c : ¬ x0 = 2 := by omega
    have d3c : ¬ x0 = 3 := by omega
    have d4c : ¬ x0 = 4 := by omega
    have d5c : ¬ x0 = 5 := by omega
    have hge : decide ((3 : Int) ≤ x0) = true := decide_eq_true (by omega)
    have hle : decide (x0 ≤ (5 : Int)) = false := decide_eq_false (by omega)
    go_wp2_with (first
      | ((with_reducible refine wpList_boxV (w := w) (by with_unfolding_all rfl) 41 (.tmp 0) (by with_unfolding_all rfl) [.int .i64 x0, .string x1, .string x2] (by with_unfolding_all rfl) ?_); intro w29 hA29 hB29 hS29; clear hS29; have HS29 := Sta.new HS0 hA29 hB29 (by simp); clear hA29 hB29; have cHS29_0_0 : w29.cell? ⟨w.heap.size, 0, none⟩ = some (.int .i64 x0) := Sta.c (i := 0) HS29 rfl rfl))
    go_ret
    exact ⟨congrArg (fun b => Ending.returned (Value.bool b)) (boolP_no HF.out).symm, Sta.fin HS29⟩
end Go.Proofs.Ytaalegjhhpfhbaa
