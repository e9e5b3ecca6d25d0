/- The program's cursor: text, count. -/
import Derived.Test.YtchfpiadfmnphaaLnI
namespace Go.Proofs.Ytchfpiadfmnphaa
open Go.RowKit
set_option linter.unusedVariables false

def textO (t : ByteArray) (p : Nat) : Option (ByteArray × Nat) := if (getT t p).code = 0 then some ((getT t p).text, (getT t p).behind.toNat) else none
theorem textO_some {t x : ByteArray} {p b : Nat} (h : textO t p = some (x, b)) : getT t p = ⟨x, b, 0⟩ ∧ b ≤ t.size ∧ x.size ≤ t.size ∧ t.size ≤ 20000 := by
  unfold textO at h
  rcases getT_ways t p with ⟨c, hc, _, ht⟩ | ⟨n, b', _, _, _, _, ht⟩ | ⟨m, b', _, _, _, _, _, ht⟩ | ⟨m, b', _, _, h1, h2, h3, ht⟩
  · rw [ht, if_neg hc] at h; cases h
  · rw [ht, if_neg (by decide)] at h; cases h
  · rw [ht, if_neg (by decide)] at h; cases h
  · rw [ht, if_pos rfl] at h
    have := Option.some.inj h
    injection this with e1 e2
    simp at e1 e2
    subst e1
    have e3 : b = b' + m := by omega
    subst e3
    exact ⟨ht, by omega, by rw [ByteArray.size_extract]; omega, h2⟩
theorem textO_none {t : ByteArray} {p : Nat} (h : textO t p = none) : ∃ c, c ≠ 0 ∧ getT t p = ⟨noText, 0, c⟩ := by
  unfold textO at h
  rcases getT_ways t p with ⟨c, hc, _, ht⟩ | ⟨n, b', _, _, _, _, ht⟩ | ⟨m, b', _, _, _, _, _, ht⟩ | ⟨m, b', _, _, _, _, _, ht⟩
  · exact ⟨c, hc, ht⟩
  · exact ⟨3, by decide, ht⟩
  · exact ⟨4, by decide, ht⟩
  · rw [ht, if_pos rfl] at h; cases h
set_option maxRecDepth 100000 in
set_option maxHeartbeats 1000000 in
theorem textYes (g p b : Nat) (t x : ByteArray) (w : World) (hs : t.size ≤ maxLen) (hn : textO t p = some (x, b) ∧ p ≤ t.size) (h : RowV w g (cuv t p)) :
    Calls Try.prog 109 #[.pointer (some ⟨g, 0, none⟩)] w fun e w' => e = .returned (.string x) ∧ RowV w' g (cuv t b) ∧ Only g w w' := by
  obtain ⟨hg, -, -⟩ := textO_some hn.1
  have hN : ∀ w0, Calls Try.prog 141 #[.string t, .int .i64 (p : Int)] w0 fun e w' => e = .returned (.tuple #[.string x, .int .i64 (b : Int), .nilIface]) ∧ Below w0.heap.size w0 w' := fun w0 => by
    have := readText_any t p w0 hs (i64n (by unfold maxLen at hs; have := hn.2; omega))
    rw [hg] at this
    exact this
  have hM : ∀ w0, Calls Try.prog 108 #[.pointer (some ⟨g, 0, none⟩), .bool true] w0 fun e w' => e = .returned (.tuple #[]) ∧ w0 = w' := fun w0 => mustYes _ w0
  have HK0 := KpCu.drew (KpCu.start (Only.refl g w) h)
  obtain ⟨c0, c1⟩ := h.cu
  clear hg hn h
  go_enter Try.func109, Try.ntmps109
  go_wp2_with fail
  clear c0 c1
  go_region_held3 (fun w' => w'.cell? ⟨g, 0, none⟩ = some (.string t) ∧ w'.cell? ⟨g, 1, none⟩ = some (.int .i64 (p : Int)) ∧ Hid (KpCu g (cuv t p) w w'))
    (first | exact KpCu.two HK0 | exact KpCu.two (KpCu.call HK0 (cuv_ne _ _) h8))
    (first
      | (go_at_call 141; with_reducible refine (hN _).mono ?_; rintro r w8 ⟨rfl, h8⟩))
  all_goals
    have HK8 := KpCu.call HK0 (cuv_ne _ _) h8
    go_wp2_with (first
      | (go_at_call 108; with_reducible refine (hM _).mono ?_; rintro e w' ⟨rfl, rfl⟩)
      | (with_reducible refine wpList_cellH (w := w8) (by with_unfolding_all rfl) 2 (.tmp 26) (.tmp 24) (by with_unfolding_all rfl) g 1 (cuv t p) (cuv t b) (.int .i64 (b : Int)) (by with_unfolding_all rfl) (by with_unfolding_all rfl) rfl Try.siz1I HK8.out.row (by simp [cuv]) (by with_unfolding_all rfl) ?_; intro w2 hA2 hB2 hF2 hS2))
    go_ret
    exact ⟨rfl, hA2, HK8.out.only.trans (Only.set hB2 hF2 hS2)⟩
set_option maxRecDepth 100000 in
set_option maxHeartbeats 1000000 in
theorem textNo (g p : Nat) (t : ByteArray) (w : World) (hs : t.size ≤ maxLen) (hn : textO t p = none) (hp : p ≤ t.size) (h : RowV w g (cuv t p)) :
    Calls Try.prog 109 #[.pointer (some ⟨g, 0, none⟩)] w fun e w' => e = .panicked [{ v := faultV, recovered := false }] ∧ Only g w w' := by
  obtain ⟨c, hc, hg⟩ := textO_none hn
  have hN : ∀ w0, Calls Try.prog 141 #[.string t, .int .i64 (p : Int)] w0 fun e w' => e = .returned (.tuple #[.string noText, .int .i64 0, .iface 165 (.agg #[.int .i64 c])]) ∧ Below w0.heap.size w0 w' := fun w0 => by
    have := readText_any t p w0 hs (i64n (by unfold maxLen at hs; omega))
    rw [hg] at this
    unfold tr errV at this
    rw [if_neg hc] at this
    exact this
  have hM : ∀ w0, Calls Try.prog 108 #[.pointer (some ⟨g, 0, none⟩), .bool false] w0 fun e w' => e = .panicked [{ v := faultV, recovered := false }] ∧ w0 = w' := fun w0 => mustNo _ w0
  have HK0 := KpCu.drew (KpCu.start (Only.refl g w) h)
  obtain ⟨c0, c1⟩ := h.cu
  clear hg hn h hc
  go_enter Try.func109, Try.ntmps109
  go_wp2_with fail
  clear c0 c1
  go_region_held3 (fun w' => w'.cell? ⟨g, 0, none⟩ = some (.string t) ∧ w'.cell? ⟨g, 1, none⟩ = some (.int .i64 (p : Int)) ∧ Hid (KpCu g (cuv t p) w w'))
    (first | exact KpCu.two HK0 | exact KpCu.two (KpCu.call HK0 (cuv_ne _ _) h8))
    (first
      | (go_at_call 141; with_reducible refine (hN _).mono ?_; rintro r w8 ⟨rfl, h8⟩))
  all_goals
    have HK8 := KpCu.call HK0 (cuv_ne _ _) h8
    go_wp2_with (first
      | (go_at_call 108; with_reducible refine (hM _).mono ?_; rintro e w' ⟨rfl, rfl⟩))
    exact ⟨rfl, rfl, HK8.out.only⟩
def countO (t : ByteArray) (p : Nat) (most : Nat) : Option (Nat × Nat) := match numO t p with
  | some (n, b) => if 0 ≤ n ∧ n ≤ (most : Int) then some (n.toNat, b) else none
  | none => none
set_option maxRecDepth 100000 in
set_option maxHeartbeats 1000000 in
theorem countYes (g p b m k : Nat) (t : ByteArray) (w : World) (hs : t.size ≤ maxLen) (hn : countO t p m = some (k, b) ∧ p ≤ t.size) (h : RowV w g (cuv t p)) :
    Calls Try.prog 110 #[.pointer (some ⟨g, 0, none⟩), .int .i64 (m : Int)] w fun e w' => e = .returned (.int .i64 (k : Int)) ∧ RowV w' g (cuv t b) ∧ Only g w w' := by
  obtain ⟨n, hno, h1, h2⟩ : ∃ n : Int, numO t p = some (n, b) ∧ (0 ≤ n ∧ n ≤ (m : Int)) ∧ n = (k : Int) := by
    have := hn.1
    unfold countO at this
    cases ho : numO t p with
    | none => rw [ho] at this; cases this
    | some x =>
      obtain ⟨n, b'⟩ := x
      rw [ho] at this
      simp only at this
      split at this
      · rename_i hh
        have := Option.some.inj this
        injection this with e1 e2
        subst e2
        exact ⟨n, rfl, hh, by omega⟩
      · cases this
  subst h2
  have hN : Hid (Calls Try.prog 112 #[.pointer (some ⟨g, 0, none⟩)] w fun e w' => e = .returned (.int .i64 (k : Int)) ∧ RowV w' g (cuv t b) ∧ Only g w w') := numYes g p b t k w hs ⟨hno, hn.2⟩ h
  have hM : ∀ w0, Calls Try.prog 108 #[.pointer (some ⟨g, 0, none⟩), .bool true] w0 fun e w' => e = .returned (.tuple #[]) ∧ w0 = w' := fun w0 => mustYes _ w0
  have d1 : decide ((0 : Int) ≤ (k : Int)) = true := decide_eq_true h1.1
  have d2 : decide ((k : Int) ≤ (m : Int)) = true := decide_eq_true h1.2
  have d3 : decide (k ≤ m) = true := decide_eq_true (by omega)
  clear h hn hno h1
  go_enter Try.func110, Try.ntmps110
  go_wp2_with (first
    | (go_at_call 112; refine Calls.mono hN.out ?_; rintro e w1 ⟨rfl, hR1, hO1⟩)
    | (go_at_call 108; with_reducible refine (hM _).mono ?_; rintro e w' ⟨rfl, rfl⟩))
  go_ret
  exact ⟨rfl, hR1, hO1⟩
set_option maxRecDepth 100000 in
set_option maxHeartbeats 1000000 in
theorem countNo (g p m : Nat) (t : ByteArray) (w : World) (hs : t.size ≤ maxLen) (hn : countO t p m = none) (hp : p ≤ t.size) (h : RowV w g (cuv t p)) :
    Calls Try.prog 110 #[.pointer (some ⟨g, 0, none⟩), .int .i64 (m : Int)] w fun e w' => e = .panicked [{ v := faultV, recovered := false }] ∧ Only g w w' := by
  have hM : ∀ w0, Calls Try.prog 108 #[.pointer (some ⟨g, 0, none⟩), .bool false] w0 fun e w' => e = .panicked [{ v := faultV, recovered := false }] ∧ w0 = w' := fun w0 => mustNo _ w0
  cases ho : numO t p with
  | none =>
    have hN : Hid (Calls Try.prog 112 #[.pointer (some ⟨g, 0, none⟩)] w fun e w' => e = .panicked [{ v := faultV, recovered := false }] ∧ Only g w w') := numNo g p t w hs ho hp h
    clear h hn ho
    go_enter Try.func110, Try.ntmps110
    go_wp2_with (first
      | (go_at_call 112; refine Calls.mono hN.out ?_; rintro e w1 ⟨rfl, hO1⟩))
    exact ⟨rfl, rfl, hO1⟩
  | some x =>
    obtain ⟨n, b⟩ := x
    have hnn : ¬ (0 ≤ n ∧ n ≤ (m : Int)) := fun hh => by
      unfold countO at hn
      rw [ho] at hn
      simp only at hn
      rw [if_pos hh] at hn
      cases hn
    have hN : Hid (Calls Try.prog 112 #[.pointer (some ⟨g, 0, none⟩)] w fun e w' => e = .returned (.int .i64 n) ∧ RowV w' g (cuv t b) ∧ Only g w w') := numYes g p b t n w hs ⟨ho, hp⟩ h
    clear h hn ho
    by_cases h0 : 0 ≤ n
    · have d1 : decide ((0 : Int) ≤ n) = true := decide_eq_true h0
      have d2 : decide (n ≤ (m : Int)) = false := decide_eq_false (fun h => hnn ⟨h0, h⟩)
      clear hnn
      go_enter Try.func110, Try.ntmps110
      go_wp2_with (first
        | (go_at_call 112; refine Calls.mono hN.out ?_; rintro e w1 ⟨rfl, hR1, hO1⟩)
        | (go_at_call 108; with_reducible refine (hM _).mono ?_; rintro e w' ⟨rfl, rfl⟩))
      exact ⟨rfl, rfl, hO1⟩
    · have d1 : decide ((0 : Int) ≤ n) = false := decide_eq_false h0
      clear hnn
      go_enter Try.func110, Try.ntmps110
      go_wp2_with (first
        | (go_at_call 112; refine Calls.mono hN.out ?_; rintro e w1 ⟨rfl, hR1, hO1⟩)
        | (go_at_call 108; with_reducible refine (hM _).mono ?_; rintro e w' ⟨rfl, rfl⟩))
      exact ⟨rfl, rfl, hO1⟩
end Go.Proofs.Ytchfpiadfmnphaa
