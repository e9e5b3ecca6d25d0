/- LinkRead, on both sides: one answer. -/
import Derived.Test.YtnlalnkoggkdfaaSpL
namespace Go.Proofs.Ytnlalnkoggkdfaa
open Go.RowKit
set_option linter.unusedVariables false

def lov (v e x c : Int) : List Value := [.int .i64 v, .int .i64 e, .int .i64 x, .int .i64 c]
theorem lov_ne (v e x c : Int) : lov v e x c ≠ [] := by simp [lov]
theorem lov_one (v e x c : Int) : ∀ y ∈ lov v e x c, y.oneCell' = true := by
  intro y hy
  simp [lov] at hy
  rcases hy with h | h | h | h <;> (rw [h]; rfl)
theorem RowV.lo {w : World} {g : Nat} {v e x c : Int} (h : RowV w g (lov v e x c)) : w.cell? ⟨g, 0, none⟩ = some (.int .i64 v) ∧ w.cell? ⟨g, 1, none⟩ = some (.int .i64 e) ∧ w.cell? ⟨g, 2, none⟩ = some (.int .i64 x) ∧ w.cell? ⟨g, 3, none⟩ = some (.int .i64 c) := ⟨h.cell (k := 0) rfl, h.cell (k := 1) rfl, h.cell (k := 2) rfl, h.cell (k := 3) rfl⟩
theorem Try.infoLo : (Try.prog.info? 82).map (fun i => i.zero) = some (some (.agg (lov 0 0 0 0).toArray)) := by kernel_rfl
theorem Try.undLo : ∃ d, Try.prog.underlying 82 = some d ∧ d.isRow = true := ⟨_, Try.underlying82, rfl⟩
theorem Try.sizeLo : (Try.prog.info? 82).map (·.size) = some 4 := by kernel_rfl
/- What LinkRead answers. -/
def LkAns (k : Int) (t : ByteArray) (v e x c : Int) : Prop := (20000 < t.size ∧ v = 0 ∧ e = 0 ∧ x = 0 ∧ c = 2) ∨ (t.size ≤ 20000 ∧ LinkOk k t v e x ∧ c = 0) ∨ (t.size ≤ 20000 ∧ (¬ ∃ v e x, LinkOk k t v e x) ∧ v = 0 ∧ e = 0 ∧ x = 0 ∧ c = 3)
theorem linkOk_one {k : Int} {t : ByteArray} {v e x v' e' x' : Int} (h : LinkOk k t v e x) (h' : LinkOk k t v' e' x') : v = v' ∧ e = e' ∧ x = x' := by
  obtain ⟨y, b1, b2, b3, -, -, h1, h2, h3, -, -⟩ := h
  obtain ⟨z, c1, c2, c3, -, -, k1, k2, k3, -, -⟩ := h'
  rw [h1] at k1
  injection k1 with k1
  injection k1 with e1 e2
  subst e1 e2
  rw [h2] at k2
  injection k2 with k2
  injection k2 with e1 e2
  subst e1 e2
  rw [h3] at k3
  injection k3 with k3
  injection k3 with e1 e2
  exact ⟨rfl, rfl, e1⟩
theorem lkAns_one {k : Int} {t : ByteArray} {v e x c v' e' x' c' : Int} (h : LkAns k t v e x c) (h' : LkAns k t v' e' x' c') : v = v' ∧ e = e' ∧ x = x' ∧ c = c' := by
  rcases h with ⟨h0, rfl, rfl, rfl, rfl⟩ | ⟨h0, h1, rfl⟩ | ⟨h0, h1, rfl, rfl, rfl, rfl⟩
  · rcases h' with ⟨_, rfl, rfl, rfl, rfl⟩ | ⟨k0, _, _⟩ | ⟨k0, _⟩
    · exact ⟨rfl, rfl, rfl, rfl⟩
    · omega
    · omega
  · rcases h' with ⟨k0, _⟩ | ⟨k0, k1, rfl⟩ | ⟨k0, k1, _⟩
    · omega
    · obtain ⟨a, b, d⟩ := linkOk_one h1 k1
      exact ⟨a, b, d, rfl⟩
    · exact absurd ⟨_, _, _, h1⟩ k1
  · rcases h' with ⟨k0, _⟩ | ⟨k0, k1, rfl⟩ | ⟨k0, k1, rfl, rfl, rfl, rfl⟩
    · omega
    · exact absurd ⟨_, _, _, k1⟩ h1
    · exact ⟨rfl, rfl, rfl, rfl⟩
/- readWhole of a link, whatever the text. -/
theorem rwAll (k : Int) (t : ByteArray) (w : World) (hs : t.size ≤ maxLen) :
    Calls Try.prog 104 #[.string t, .string (kindB k), .func (.func 105) #[] #[]] w fun r w' => ∃ v e x c, r = .returned (.tuple #[.agg #[.int .i64 v, .int .i64 e, .int .i64 x], .int .i64 c]) ∧ LkAns k t v e x c ∧ Below w.heap.size w w' := by
  by_cases hbig : 20000 < t.size
  · refine (rwBig t _ _ w hs hbig).mono ?_
    rintro r w' ⟨rfl, hB⟩
    exact ⟨0, 0, 0, 2, rfl, Or.inl ⟨hbig, rfl, rfl, rfl, rfl⟩, hB⟩
  have hs2 : t.size ≤ 20000 := by omega
  have bad : (¬ ∃ v e x, LinkOk k t v e x) → Calls Try.prog 104 #[.string t, .string (kindB k), .func (.func 105) #[] #[]] w (fun e w' => e = .returned (.tuple #[.agg #[.int .i64 0, .int .i64 0, .int .i64 0], .int .i64 3]) ∧ Below w.heap.size w w') → Calls Try.prog 104 #[.string t, .string (kindB k), .func (.func 105) #[] #[]] w (fun r w' => ∃ v e x c, r = .returned (.tuple #[.agg #[.int .i64 v, .int .i64 e, .int .i64 x], .int .i64 c]) ∧ LkAns k t v e x c ∧ Below w.heap.size w w') := fun hn hc => hc.mono (by
    rintro r w' ⟨rfl, hB⟩
    exact ⟨0, 0, 0, 3, rfl, Or.inr (Or.inr ⟨hs2, hn, rfl, rfl, rfl, rfl⟩), hB⟩)
  rcases kind_ways k with hk | ⟨y, hk⟩
  · refine bad (no_kind hk) (rwPassNo t _ w hs2 (fun g w0 h0 => ?_))
    rw [hk]
    exact (passNone _ w0).mono (fun e w' h => ⟨h.1, by rw [← h.2]; exact Only.refl _ _⟩)
  by_cases hf : FirstB t y
  case neg =>
    refine bad ?_ (rwPassNo t _ w hs2 (fun g w0 h0 => ?_))
    · rintro ⟨_, _, _, z, _, _, _, k1, k2, _⟩
      rw [hk] at k1
      have : y = z := by simpa using congrArg (fun b : ByteArray => b.data.toList) k1
      exact hf (by rw [this]; exact k2)
    · rw [hk]
      exact passNo g t y w0 hs hf h0
  have hP : ∀ g w0, RowV w0 g (cuv t 0) → Calls Try.prog 128 #[.pointer (some ⟨g, 0, none⟩), .string (kindB k)] w0 fun e w' => e = .returned (.tuple #[]) ∧ RowV w' g (cuv t 1) ∧ Only g w0 w' := fun g w0 h0 => by
    rw [hk]
    exact passYes g t y w0 hs hf h0
  have h1 := hf.1
  cases hn1 : numO t 1 with
  | none =>
    refine bad ?_ (rwLinkNo t _ w hs2 hP (fun g w0 h0 => lnN0 g 1 t w0 hs hn1 h1 h0))
    rintro ⟨_, _, _, z, _, _, _, _, _, k3, _⟩
    rw [hn1] at k3; cases k3
  | some x1 =>
  obtain ⟨v, b1⟩ := x1
  have l1 := (numO_some hn1).2.1
  cases hn2 : numO t b1 with
  | none =>
    refine bad ?_ (rwLinkNo t _ w hs2 hP (fun g w0 h0 => lnN1 g 1 b1 t v w0 hs ⟨hn1, h1⟩ hn2 l1 h0))
    rintro ⟨_, _, _, z, _, _, _, _, _, k3, k4, _⟩
    rw [hn1] at k3
    injection k3 with k3
    injection k3 with _ e2
    subst e2
    rw [hn2] at k4; cases k4
  | some x2 =>
  obtain ⟨e, b2⟩ := x2
  have l2 := (numO_some hn2).2.1
  cases hn3 : numO t b2 with
  | none =>
    refine bad ?_ (rwLinkNo t _ w hs2 hP (fun g w0 h0 => lnN2 g 1 b1 b2 t v e w0 hs ⟨hn1, h1⟩ ⟨hn2, l1⟩ hn3 l2 h0))
    rintro ⟨_, _, _, z, _, _, _, _, _, k3, k4, k5, _⟩
    rw [hn1] at k3
    injection k3 with k3
    injection k3 with _ e2
    subst e2
    rw [hn2] at k4
    injection k4 with k4
    injection k4 with _ e2
    subst e2
    rw [hn3] at k5; cases k5
  | some x3 =>
  obtain ⟨x, b3⟩ := x3
  have l3 := (numO_some hn3).2.1
  have only1 : ∀ {v' e' x' : Int}, LinkOk k t v' e' x' → v' = v ∧ e' = e ∧ x' = x ∧ b3 = t.size := by
    rintro v' e' x' ⟨z, c1, c2, c3, _, _, k3, k4, k5, k6, _⟩
    rw [hn1] at k3
    injection k3 with k3
    injection k3 with e1 e2
    subst e1 e2
    rw [hn2] at k4
    injection k4 with k4
    injection k4 with e1 e2
    subst e1 e2
    rw [hn3] at k5
    injection k5 with k5
    injection k5 with e1 e2
    subst e1 e2
    exact ⟨rfl, rfl, rfl, k6⟩
  cases hl : linkB v e x with
  | false =>
    refine bad ?_ (rwLinkNo t _ w hs2 hP (fun g w0 h0 => lnN3 g 1 b1 b2 b3 t v e x w0 hs ⟨hn1, h1⟩ ⟨hn2, l1⟩ ⟨hn3, l2⟩ (fun w1 => by have := implLink v e x w1; rw [hl] at this; exact this) h0))
    rintro ⟨v', e', x', hh⟩
    obtain ⟨rfl, rfl, rfl, _⟩ := only1 hh
    obtain ⟨_, _, _, _, _, _, _, _, _, _, k7⟩ := hh
    rw [hl] at k7; cases k7
  | true =>
  have hY : ∀ g w0, RowV w0 g (cuv t 1) → Calls Try.prog 105 #[.pointer (some ⟨g, 0, none⟩)] w0 fun r w' => r = .returned (.agg #[.int .i64 v, .int .i64 e, .int .i64 x]) ∧ RowV w' g (cuv t b3) ∧ Only g w0 w' := fun g w0 h0 => lnY g 1 b1 b2 b3 t v e x w0 hs ⟨hn1, h1⟩ ⟨hn2, l1⟩ ⟨hn3, l2⟩ (fun w1 => by have := implLink v e x w1; rw [hl] at this; exact this) h0
  by_cases hb : b3 = t.size
  · refine (rwYes t _ w hs2 hP v e x b3 hY hb).mono ?_
    rintro r w' ⟨rfl, hB⟩
    exact ⟨v, e, x, 0, rfl, Or.inr (Or.inl ⟨hs2, ⟨y, b1, b2, b3, hk, hf, hn1, hn2, hn3, hb, hl⟩, rfl⟩), hB⟩
  · refine bad ?_ (rwEndNo t _ w hs2 hP v e x b3 hY l3 hb)
    rintro ⟨v', e', x', hh⟩
    exact hb (only1 hh).2.2.2
set_option maxRecDepth 100000 in
set_option maxHeartbeats 1000000 in
theorem implLinkRd (k : Int) (t : ByteArray) (w : World) (hs : t.size ≤ maxLen) :
    Calls Try.prog 51 #[.int .i64 k, .string t] w fun r w' => ∃ v e x c, r = .returned (.agg #[.int .i64 v, .int .i64 e, .int .i64 x, .int .i64 c]) ∧ LkAns k t v e x c ∧ Below w.heap.size w w' := by
  have hK : ∀ w0, Calls Try.prog 77 #[.int .i64 k] w0 fun e w' => e = .returned (.string (kindB k)) ∧ w0 = w' := fun w0 => implKind k w0
  have hR : ∀ w0, Calls Try.prog 104 #[.string t, .string (kindB k), .func (.func 105) #[] #[]] w0 fun r w' => ∃ v e x c, r = .returned (.tuple #[.agg #[.int .i64 v, .int .i64 e, .int .i64 x], .int .i64 c]) ∧ LkAns k t v e x c ∧ Below w0.heap.size w0 w' := fun w0 => rwAll k t w0 hs
  generalize kindB k = M at *
  go_enter Try.func51, Try.ntmps51
  go_wp2_with (first
    | (with_reducible refine wpList_allocV (w := w) (by with_unfolding_all rfl) 82 (by with_unfolding_all rfl) (lov 0 0 0 0) Try.infoLo ?_; intro w1 hA1 hB1 hS1; have z1 : w.heap.size < w1.heap.size := (by omega); clear hS1)
    | (go_at_call 77; with_reducible refine (hK _).mono ?_; rintro r w' ⟨rfl, rfl⟩)
    | (go_at_call 104; with_reducible refine (hR w1).mono ?_; rintro r w2 ⟨v, e, x, c, rfl, hAn, hB2⟩; have HAn := hidP hAn; clear hAn; have R2 := hA1.below hB2 z1; have B2 : Below w.heap.size w w2 := hB1.trans (hB2.mono (Nat.le_of_lt z1)))
    | (with_reducible refine wpList_allocV (w := w2) (by with_unfolding_all rfl) 49 (by with_unfolding_all rfl) (lkv 0 0 0) Try.infoLkz ?_; intro w3 hA3 hB3 hS3; clear hS3; have R3 := R2.below hB3 (R2.lt (lov_ne _ _ _ _)))
    | (with_reducible refine wpList_storeH (w := w3) (by with_unfolding_all rfl) 49 (.tmp 5) (.tmp 12) (by with_unfolding_all rfl) w2.heap.size (lkv 0 0 0) (lkv v e x) (by with_unfolding_all rfl) (by with_unfolding_all rfl) hA3 3 Try.sizeLkI (by with_unfolding_all rfl) (by with_unfolding_all rfl) (lkv_one _ _ _) ?_; intro w4 hA4 hB4 hF4 hS4; have R4 := (Only.set hB4 hF4 hS4).row R3 (lov_ne _ _ _ _) (Nat.ne_of_lt (R2.lt (lov_ne _ _ _ _))); have B4 : Below w.heap.size w w4 := (B2.trans (hB3.mono B2.size)).trans (hB4 _ B2.size); obtain ⟨p0, p1, p2⟩ := hA4.lk)
    | (with_reducible refine wpList_storeH (w := w4) (by with_unfolding_all rfl) 82 (.tmp 4) (.tmp 16) (by with_unfolding_all rfl) w.heap.size (lov 0 0 0 0) (lov v e x c) (by with_unfolding_all rfl) (by with_unfolding_all rfl) R4 4 Try.sizeLo (by with_unfolding_all rfl) (by with_unfolding_all rfl) (lov_one _ _ _ _) ?_; intro w5 hA5 hB5 hF5 hS5; have B5 : Below w.heap.size w w5 := B4.trans (hB5 _ (Nat.le_refl _))))
  exact bodyPost_ret (results_V (t := 82) rfl _ w.heap.size _ rfl hA5 Try.undLo 4 Try.sizeLo rfl) rfl ⟨v, e, x, c, rfl, HAn.out, B5⟩
set_option maxRecDepth 100000 in
set_option maxHeartbeats 1000000 in
theorem specLinkRd (k : Int) (t : ByteArray) (w : World) (hs : t.size ≤ maxLen) :
    Calls Try.prog 50 #[.int .i64 k, .string t] w fun r w' => ∃ v e x c, r = .returned (.agg #[.int .i64 v, .int .i64 e, .int .i64 x, .int .i64 c]) ∧ LkAns k t v e x c ∧ Below w.heap.size w w' := by
  have hR : ∀ w0, Calls Try.prog 103 #[.int .i64 k, .string t] w0 fun r w' => ∃ v e x ok, r = .returned (.tuple #[.agg #[.int .i64 v, .int .i64 e, .int .i64 x], .bool ok]) ∧ ((ok = true ∧ LinkOk k t v e x) ∨ (ok = false ∧ ¬ ∃ v e x, LinkOk k t v e x)) ∧ Below w0.heap.size w0 w' := fun w0 => spLink k t w0 hs
  unfold maxLen at hs
  by_cases hbig : 20000 < t.size
  · have d1 : decide ((20000 : Int) < (t.size : Int)) = true := decide_eq_true (by omega)
    have HAn : Hid (LkAns k t 0 0 0 2) := Or.inl ⟨hbig, rfl, rfl, rfl, rfl⟩
    clear hR hbig
    go_enter Try.func50, Try.ntmps50
    go_wp2_with (first
      | (with_reducible refine wpList_allocV (w := w) (by with_unfolding_all rfl) 82 (by with_unfolding_all rfl) (lov 0 0 0 0) Try.infoLo ?_; intro w1 hA1 hB1 hS1; clear hS1)
      | (with_reducible refine wpList_storeH (w := w1) (by with_unfolding_all rfl) 82 (.tmp 4) (.tmp 10) (by with_unfolding_all rfl) w.heap.size (lov 0 0 0 0) (lov 0 0 0 2) (by with_unfolding_all rfl) (by with_unfolding_all rfl) hA1 4 Try.sizeLo (by with_unfolding_all rfl) (by with_unfolding_all rfl) (lov_one _ _ _ _) ?_; intro w5 hA5 hB5 hF5 hS5; have B5 : Below w.heap.size w w5 := hB1.trans (hB5 _ (Nat.le_refl _))))
    exact bodyPost_ret (results_V (t := 82) rfl _ w.heap.size _ rfl hA5 Try.undLo 4 Try.sizeLo rfl) rfl ⟨0, 0, 0, 2, rfl, HAn.out, B5⟩
  have d1 : decide ((20000 : Int) < (t.size : Int)) = false := decide_eq_false (by omega)
  have HS : Hid (t.size ≤ 20000) := by show _ ≤ _; omega
  clear hbig
  go_enter Try.func50, Try.ntmps50
  go_wp2_with (first
    | (with_reducible refine wpList_allocV (w := w) (by with_unfolding_all rfl) 82 (by with_unfolding_all rfl) (lov 0 0 0 0) Try.infoLo ?_; intro w1 hA1 hB1 hS1; have z1 : w.heap.size < w1.heap.size := (by omega); clear hS1))
  refine (hR w1).mono ?_
  rintro r w2 ⟨v, e, x, ok, rfl, hAn, hB2⟩
  have HAn : Hid ((ok = true ∧ LinkOk k t v e x) ∨ (ok = false ∧ ¬ ∃ v e x, LinkOk k t v e x)) := hAn
  have R2 := hA1.below hB2 z1
  have B2 : Below w.heap.size w w2 := hB1.trans (hB2.mono (Nat.le_of_lt z1))
  clear hAn hR hA1 hB1 hB2
  cases ok with
  | true =>
    have HL : Hid (LkAns k t v e x 0) := HAn.out.elim (fun h => Or.inr (Or.inl ⟨HS.out, h.2, rfl⟩)) (fun h => by cases h.1)
    go_wp2_with (first
      | (with_reducible refine wpList_allocV (w := w2) (by with_unfolding_all rfl) 49 (by with_unfolding_all rfl) (lkv 0 0 0) Try.infoLkz ?_; intro w3 hA3 hB3 hS3; clear hS3; have R3 := R2.below hB3 (R2.lt (lov_ne _ _ _ _)))
      | (with_reducible refine wpList_storeH (w := w3) (by with_unfolding_all rfl) 49 (.tmp 5) (.tmp 15) (by with_unfolding_all rfl) w2.heap.size (lkv 0 0 0) (lkv v e x) (by with_unfolding_all rfl) (by with_unfolding_all rfl) hA3 3 Try.sizeLkI (by with_unfolding_all rfl) (by with_unfolding_all rfl) (lkv_one _ _ _) ?_; intro w4 hA4 hB4 hF4 hS4; have R4 := (Only.set hB4 hF4 hS4).row R3 (lov_ne _ _ _ _) (Nat.ne_of_lt (R2.lt (lov_ne _ _ _ _))); have B4 : Below w.heap.size w w4 := (B2.trans (hB3.mono B2.size)).trans (hB4 _ B2.size); obtain ⟨p0, p1, p2⟩ := hA4.lk)
      | (with_reducible refine wpList_storeH (w := w4) (by with_unfolding_all rfl) 82 (.tmp 4) (.tmp 21) (by with_unfolding_all rfl) w.heap.size (lov 0 0 0 0) (lov v e x 0) (by with_unfolding_all rfl) (by with_unfolding_all rfl) R4 4 Try.sizeLo (by with_unfolding_all rfl) (by with_unfolding_all rfl) (lov_one _ _ _ _) ?_; intro w5 hA5 hB5 hF5 hS5; have B5 : Below w.heap.size w w5 := B4.trans (hB5 _ (Nat.le_refl _))))
    exact bodyPost_ret (results_V (t := 82) rfl _ w.heap.size _ rfl hA5 Try.undLo 4 Try.sizeLo rfl) rfl ⟨v, e, x, 0, rfl, HL.out, B5⟩
  | false =>
    have HL : Hid (LkAns k t 0 0 0 3) := HAn.out.elim (fun h => by cases h.1) (fun h => Or.inr (Or.inr ⟨HS.out, h.2, rfl, rfl, rfl, rfl⟩))
    go_wp2_with (first
      | (with_reducible refine wpList_allocV (w := w2) (by with_unfolding_all rfl) 49 (by with_unfolding_all rfl) (lkv 0 0 0) Try.infoLkz ?_; intro w3 hA3 hB3 hS3; clear hS3; have R3 := R2.below hB3 (R2.lt (lov_ne _ _ _ _)))
      | (with_reducible refine wpList_storeH (w := w3) (by with_unfolding_all rfl) 49 (.tmp 5) (.tmp 15) (by with_unfolding_all rfl) w2.heap.size (lkv 0 0 0) (lkv v e x) (by with_unfolding_all rfl) (by with_unfolding_all rfl) hA3 3 Try.sizeLkI (by with_unfolding_all rfl) (by with_unfolding_all rfl) (lkv_one _ _ _) ?_; intro w4 hA4 hB4 hF4 hS4; have R4 := (Only.set hB4 hF4 hS4).row R3 (lov_ne _ _ _ _) (Nat.ne_of_lt (R2.lt (lov_ne _ _ _ _))); have B4 : Below w.heap.size w w4 := (B2.trans (hB3.mono B2.size)).trans (hB4 _ B2.size))
      | (with_reducible refine wpList_storeH (w := w4) (by with_unfolding_all rfl) 82 (.tmp 4) (.tmp 19) (by with_unfolding_all rfl) w.heap.size (lov 0 0 0 0) (lov 0 0 0 3) (by with_unfolding_all rfl) (by with_unfolding_all rfl) R4 4 Try.sizeLo (by with_unfolding_all rfl) (by with_unfolding_all rfl) (lov_one _ _ _ _) ?_; intro w5 hA5 hB5 hF5 hS5; have B5 : Below w.heap.size w w5 := B4.trans (hB5 _ (Nat.le_refl _))))
    exact bodyPost_ret (results_V (t := 82) rfl _ w.heap.size _ rfl hA5 Try.undLo 4 Try.sizeLo rfl) rfl ⟨0, 0, 0, 3, rfl, HL.out, B5⟩
set_option maxRecDepth 100000 in
theorem eqLk1 (x y z : Int) (w : World) :
    Calls Try.prog 106 #[.agg #[.int .i64 x, .int .i64 y, .int .i64 z], .agg #[.int .i64 x, .int .i64 y, .int .i64 z]] w fun r w' => r = .returned (.bool true) ∧ Below w.heap.size w w' := by
  have e1 : (x == x) = true := by simp
  have e2 : (y == y) = true := by simp
  have e3 : (z == z) = true := by simp
  go_enter Try.func106, Try.ntmps106
  go_wp2_with (first
    | (with_reducible refine wpList_boxV (w := w) (by with_unfolding_all rfl) 49 (.tmp 0) (by with_unfolding_all rfl) (lkv x y z) (by with_unfolding_all rfl) ?_; intro w1 hA1 hB1 hS1; have z1 : w.heap.size < w1.heap.size := (by omega); clear hS1)
    | (with_reducible refine wpList_boxV (w := w1) (by with_unfolding_all rfl) 49 (.tmp 1) (by with_unfolding_all rfl) (lkv x y z) (by with_unfolding_all rfl) ?_; intro w2 hA2 hB2 hS2; clear hS2; obtain ⟨p0, p1, p2⟩ := (hA1.below hB2 z1).lk; obtain ⟨q0, q1, q2⟩ := hA2.lk))
  go_ret
  exact ⟨rfl, hB1.trans (hB2.mono (by omega))⟩
set_option maxRecDepth 100000 in
theorem eqLo1 (x y z c : Int) (w : World) :
    Calls Try.prog 52 #[.agg #[.int .i64 x, .int .i64 y, .int .i64 z, .int .i64 c], .agg #[.int .i64 x, .int .i64 y, .int .i64 z, .int .i64 c]] w fun r w' => r = .returned (.bool true) ∧ Below w.heap.size w w' := by
  have hE : ∀ w0, Calls Try.prog 106 #[.agg #[.int .i64 x, .int .i64 y, .int .i64 z], .agg #[.int .i64 x, .int .i64 y, .int .i64 z]] w0 fun r w' => r = .returned (.bool true) ∧ Below w0.heap.size w0 w' := fun w0 => eqLk1 x y z w0
  have e1 : (c == c) = true := by simp
  go_enter Try.func52, Try.ntmps52
  go_wp2_with (first
    | (with_reducible refine wpList_boxV (w := w) (by with_unfolding_all rfl) 82 (.tmp 0) (by with_unfolding_all rfl) (lov x y z c) (by with_unfolding_all rfl) ?_; intro w1 hA1 hB1 hS1; have z1 : w.heap.size < w1.heap.size := (by omega); clear hS1)
    | (with_reducible refine wpList_boxV (w := w1) (by with_unfolding_all rfl) 82 (.tmp 1) (by with_unfolding_all rfl) (lov x y z c) (by with_unfolding_all rfl) ?_; intro w2 hA2 hB2 hS2; clear hS2; have V2 := hA1.below hB2 z1; obtain ⟨p0, p1, p2, p3⟩ := V2.lo; obtain ⟨q0, q1, q2, q3⟩ := hA2.lo)
    | (go_at_call 106; with_reducible refine (hE w2).mono ?_; rintro e w3 ⟨rfl, hB3⟩; clear p0 p1 p2 p3 q0 q1 q2 q3; obtain ⟨p0, p1, p2, p3⟩ := (V2.below hB3 (V2.lt (lov_ne _ _ _ _))).lo; obtain ⟨q0, q1, q2, q3⟩ := (hA2.below hB3 (hA2.lt (lov_ne _ _ _ _))).lo))
  go_ret
  exact ⟨rfl, (hB1.trans (hB2.mono (by omega))).trans (hB3.mono (by have := hB2.size; omega))⟩
set_option maxRecDepth 100000 in
set_option maxHeartbeats 1000000 in
theorem lawLinkRead (k : Int) (t : ByteArray) (w : World) (hs : t.size ≤ maxLen) :
    Calls Try.prog 12 #[.int .i64 k, .string t] w fun r w' => r = .returned (.bool true) ∧ Below w.heap.size w w' := by
  have hS : ∀ w0, Calls Try.prog 50 #[.int .i64 k, .string t] w0 fun r w' => ∃ v e x c, r = .returned (.agg #[.int .i64 v, .int .i64 e, .int .i64 x, .int .i64 c]) ∧ LkAns k t v e x c ∧ Below w0.heap.size w0 w' := fun w0 => specLinkRd k t w0 hs
  have hI : ∀ w0 v e x c, LkAns k t v e x c → Calls Try.prog 51 #[.int .i64 k, .string t] w0 fun r w' => r = .returned (.agg #[.int .i64 v, .int .i64 e, .int .i64 x, .int .i64 c]) ∧ Below w0.heap.size w0 w' := fun w0 v e x c hh => (implLinkRd k t w0 hs).mono (by
    rintro r w' ⟨v', e', x', c', rfl, h1, h2⟩
    obtain ⟨rfl, rfl, rfl, rfl⟩ := lkAns_one hh h1
    exact ⟨rfl, h2⟩)
  unfold maxLen at hs
  by_cases hbig : 1048576 < t.size
  · have d1 : decide ((1048576 : Int) < (t.size : Int)) = true := decide_eq_true (by omega)
    go_enter Try.func12, Try.ntmps12
    go_wp2
    go_ret
    exact ⟨rfl, Below.refl _ _⟩
  have d1 : decide ((1048576 : Int) < (t.size : Int)) = false := decide_eq_false (by omega)
  go_enter Try.func12, Try.ntmps12
  go_wp2_with fail
  refine (hS w).mono ?_
  rintro r w1 ⟨v, e, x, c, rfl, hAn, hB1⟩
  have hI2 : ∀ w0, Calls Try.prog 51 #[.int .i64 k, .string t] w0 fun r w' => r = .returned (.agg #[.int .i64 v, .int .i64 e, .int .i64 x, .int .i64 c]) ∧ Below w0.heap.size w0 w' := fun w0 => hI w0 v e x c hAn
  have hE : ∀ w0, Calls Try.prog 52 #[.agg #[.int .i64 v, .int .i64 e, .int .i64 x, .int .i64 c], .agg #[.int .i64 v, .int .i64 e, .int .i64 x, .int .i64 c]] w0 fun r w' => r = .returned (.bool true) ∧ Below w0.heap.size w0 w' := fun w0 => eqLo1 v e x c w0
  clear hS hI hAn
  go_wp2_with (first
    | (with_reducible refine wpList_allocV (w := w1) (by with_unfolding_all rfl) 82 (by with_unfolding_all rfl) (lov 0 0 0 0) Try.infoLo ?_; intro w2 hA2 hB2 hS2; clear hS2)
    | (with_reducible refine wpList_storeH (w := w2) (by with_unfolding_all rfl) 82 (.tmp 5) (.tmp 12) (by with_unfolding_all rfl) w1.heap.size (lov 0 0 0 0) (lov v e x c) (by with_unfolding_all rfl) (by with_unfolding_all rfl) hA2 4 Try.sizeLo (by with_unfolding_all rfl) (by with_unfolding_all rfl) (lov_one _ _ _ _) ?_; intro w3 hA3 hB3 hF3 hS3; have B3 : Below w.heap.size w w3 := (hB1.trans (hB2.mono hB1.size)).trans (hB3 _ hB1.size))
    | (go_at_call 51; with_reducible refine (hI2 w3).mono ?_; rintro r w4 ⟨rfl, hB4⟩; have R4 := hA3.below hB4 (hA3.lt (lov_ne _ _ _ _)); have B4 : Below w.heap.size w w4 := B3.trans (hB4.mono B3.size))
    | (with_reducible refine wpList_allocV (w := w4) (by with_unfolding_all rfl) 82 (by with_unfolding_all rfl) (lov 0 0 0 0) Try.infoLo ?_; intro w5 hA5 hB5 hS5; clear hS5; have R5 := R4.below hB5 (R4.lt (lov_ne _ _ _ _)))
    | (with_reducible refine wpList_storeH (w := w5) (by with_unfolding_all rfl) 82 (.tmp 6) (.tmp 15) (by with_unfolding_all rfl) w4.heap.size (lov 0 0 0 0) (lov v e x c) (by with_unfolding_all rfl) (by with_unfolding_all rfl) hA5 4 Try.sizeLo (by with_unfolding_all rfl) (by with_unfolding_all rfl) (lov_one _ _ _ _) ?_; intro w6 hA6 hB6 hF6 hS6; have R6 := (Only.set hB6 hF6 hS6).row R5 (lov_ne _ _ _ _) (Nat.ne_of_lt (R4.lt (lov_ne _ _ _ _))); have B6 : Below w.heap.size w w6 := (B4.trans (hB5.mono B4.size)).trans (hB6 _ B4.size); obtain ⟨p0, p1, p2, p3⟩ := R6.lo; obtain ⟨q0, q1, q2, q3⟩ := hA6.lo)
    | (go_at_call 52; with_reducible refine (hE w6).mono ?_; rintro r w7 ⟨rfl, hB7⟩; have B7 : Below w.heap.size w w7 := B6.trans (hB7.mono B6.size)))
  go_ret
  exact ⟨rfl, B7⟩
end Go.Proofs.Ytnlalnkoggkdfaa
