/- HeadRead of the program: what it answers, whatever the text. -/
import Derived.Test.YtdfglpbappeoaaaRwH
namespace Go.Proofs.Ytdfglpbappeoaaa
open Go.RowKit
set_option linter.unusedVariables false

def HeadOk (t : ByteArray) (s : Int) (r : ByteArray) (x : Int) : Prop := FirstB t 72 ∧ ∃ q, headO t 1 = some (s, r, x, q) ∧ q = t.size
theorem headOk_one {t : ByteArray} {s s' x x' : Int} {r r' : ByteArray} (h : HeadOk t s r x) (k : HeadOk t s' r' x') : s = s' ∧ r = r' ∧ x = x' := by
  obtain ⟨_, q, a1, _⟩ := h
  obtain ⟨_, q', a2, _⟩ := k
  rw [a1] at a2
  injection a2 with a2
  injection a2 with e1 a2
  injection a2 with e2 a2
  injection a2 with e3 e4
  exact ⟨e1, e2, e3⟩
theorem headOk_size {t : ByteArray} {s x : Int} {r : ByteArray} (h : HeadOk t s r x) : r.size ≤ 32 := by
  obtain ⟨_, q, h1, _⟩ := h
  obtain ⟨b1, b2, _, h2, _⟩ := headO_some h1
  exact (bytesO_size h2).1
def HdAns (t : ByteArray) (s : Int) (r : ByteArray) (x c : Int) : Prop := (20000 < t.size ∧ s = 0 ∧ r = ⟨#[]⟩ ∧ x = 0 ∧ c = 2) ∨ (t.size ≤ 20000 ∧ HeadOk t s r x ∧ c = 0) ∨ (t.size ≤ 20000 ∧ (¬ ∃ s r x, HeadOk t s r x) ∧ s = 0 ∧ r = ⟨#[]⟩ ∧ x = 0 ∧ c = 3)
theorem hdAns_one {t : ByteArray} {s s' x x' c c' : Int} {r r' : ByteArray} (h : HdAns t s r x c) (h' : HdAns t s' r' x' c') : s = s' ∧ r = r' ∧ x = x' ∧ c = c' := by
  rcases h with ⟨h0, rfl, rfl, rfl, rfl⟩ | ⟨h0, h1, rfl⟩ | ⟨h0, h1, rfl, rfl, rfl, rfl⟩
  · rcases h' with ⟨_, rfl, rfl, rfl, rfl⟩ | ⟨k0, _⟩ | ⟨k0, _⟩
    · exact ⟨rfl, rfl, rfl, rfl⟩
    · omega
    · omega
  · rcases h' with ⟨k0, _⟩ | ⟨k0, k1, rfl⟩ | ⟨k0, k1, _⟩
    · omega
    · obtain ⟨e1, e2, e3⟩ := headOk_one h1 k1
      exact ⟨e1, e2, e3, rfl⟩
    · exact absurd ⟨_, _, _, h1⟩ k1
  · rcases h' with ⟨k0, _⟩ | ⟨k0, k1, rfl⟩ | ⟨k0, k1, rfl, rfl, rfl, rfl⟩
    · omega
    · exact absurd ⟨_, _, _, k1⟩ h1
    · exact ⟨rfl, rfl, rfl, rfl⟩
theorem rhAll (t : ByteArray) (w : World) (hs : t.size ≤ maxLen) :
    Calls Try.prog 74 #[.string t, .string ⟨#[72]⟩, .func (.func 75) #[] #[]] w fun e w' => ∃ (s : Int) (rt : ByteArray) (x c : Int), e = .returned (.tuple #[.agg #[.int .i64 s, .string rt, .int .i64 x], .int .i64 c]) ∧ HdAns t s rt x c ∧ Below w.heap.size w w' := by
  by_cases hbig : 20000 < t.size
  · refine (rhBig t _ _ w hs hbig).mono ?_
    rintro r w' ⟨rfl, hB⟩
    exact ⟨0, ⟨#[]⟩, 0, 2, rfl, Or.inl ⟨hbig, rfl, rfl, rfl, rfl⟩, hB⟩
  have hs2 : t.size ≤ 20000 := by omega
  have bad : (¬ ∃ s r x, HeadOk t s r x) → Calls Try.prog 74 #[.string t, .string ⟨#[72]⟩, .func (.func 75) #[] #[]] w (fun e w' => e = .returned (.tuple #[.agg #[.int .i64 0, .string ⟨#[]⟩, .int .i64 0], .int .i64 3]) ∧ Below w.heap.size w w') → Calls Try.prog 74 #[.string t, .string ⟨#[72]⟩, .func (.func 75) #[] #[]] w (fun e w' => ∃ (s : Int) (rt : ByteArray) (x c : Int), e = .returned (.tuple #[.agg #[.int .i64 s, .string rt, .int .i64 x], .int .i64 c]) ∧ HdAns t s rt x c ∧ Below w.heap.size w w') := fun hn hc => hc.mono (by
    rintro r w' ⟨rfl, hB⟩
    exact ⟨0, ⟨#[]⟩, 0, 3, rfl, Or.inr (Or.inr ⟨hs2, hn, rfl, rfl, rfl, rfl⟩), hB⟩)
  by_cases hf : FirstB t 72
  case neg =>
    refine bad ?_ (rhPassNo t _ w hs2 (fun g w0 h0 => passNo g t 72 w0 hs hf h0))
    rintro ⟨_, _, _, k1, _⟩
    exact hf k1
  have hP : ∀ g w0, RowV w0 g (cuv t 0) → Calls Try.prog 109 #[.pointer (some ⟨g, 0, none⟩), .string ⟨#[72]⟩] w0 fun e w' => e = .returned (.tuple #[]) ∧ RowV w' g (cuv t 1) ∧ Only g w0 w' := fun g w0 h0 => passYes g t 72 w0 hs hf h0
  cases ho : headO t 1 with
  | none =>
    refine bad ?_ (rhReadNo t _ w hs2 hP (fun g w0 h0 => ?_))
    · rintro ⟨_, _, _, _, q, k1, _⟩
      rw [ho] at k1; cases k1
    · refine (hdI g 1 t w0 hs hf.1 h0).mono ?_
      rintro r w' (⟨s, rt, x, q, e1, _⟩ | ⟨_, e2, e3⟩)
      · rw [ho] at e1; cases e1
      · exact ⟨e2, e3⟩
  | some y =>
  obtain ⟨s, rt, x, q⟩ := y
  have hY : ∀ g w0, RowV w0 g (cuv t 1) → Calls Try.prog 75 #[.pointer (some ⟨g, 0, none⟩)] w0 fun r w' => r = .returned (.agg #[.int .i64 s, .string rt, .int .i64 x]) ∧ RowV w' g (cuv t q) ∧ Only g w0 w' := fun g w0 h0 => by
    refine (hdI g 1 t w0 hs hf.1 h0).mono ?_
    rintro r w' (⟨s', r', x', q', e1, e2, e3, e4⟩ | ⟨e1, _⟩)
    · rw [ho] at e1
      injection e1 with e1
      injection e1 with f1 e1
      injection e1 with f2 e1
      injection e1 with f3 f4
      subst f1 f2 f3 f4
      exact ⟨e2, e3, e4⟩
    · rw [ho] at e1; cases e1
  have hql : q ≤ t.size := by
    obtain ⟨b1, b2, _, _, h3, _⟩ := headO_some ho
    exact (numO_some h3).2.1
  by_cases hq : q = t.size
  · refine (rhYes t _ w hs2 hP s rt x q hY hq).mono ?_
    rintro r w' ⟨rfl, hB⟩
    exact ⟨s, rt, x, 0, rfl, Or.inr (Or.inl ⟨hs2, ⟨hf, q, ho, hq⟩, rfl⟩), hB⟩
  · refine bad ?_ (rhEndNo t _ w hs2 hP s rt x q hY hql hq)
    rintro ⟨_, _, _, _, q', k1, k2⟩
    rw [ho] at k1
    injection k1 with k1
    injection k1 with _ k1
    injection k1 with _ k1
    injection k1 with _ f3
    subst f3
    exact hq k2
set_option maxRecDepth 100000 in
set_option maxHeartbeats 2000000 in
theorem implHeadRd (t : ByteArray) (w : World) (hs : t.size ≤ maxLen) :
    Calls Try.prog 32 #[.string t] w fun r w' => ∃ (s : Int) (rt : ByteArray) (x c : Int), r = .returned (.agg #[.int .i64 s, .string rt, .int .i64 x, .int .i64 c]) ∧ HdAns t s rt x c ∧ Below w.heap.size w w' := by
  have hC1 : ∀ w0, Calls Try.prog 74 #[.string t, .string ⟨#[72]⟩, .func (.func 75) #[] #[]] w0 fun r w' => ∃ (s : Int) (rt : ByteArray) (x : Int) (c : Int), r = .returned (.tuple #[.agg #[.int .i64 s, .string rt, .int .i64 x], .int .i64 c]) ∧ HdAns t s rt x c ∧ Below w0.heap.size w0 w' := fun w0 => rhAll t w0 hs
  have HS0 : Hid (Sta [] w [] [] w) := Sta.start w
  clear hs
  go_enter Try.func32, Try.ntmps32
  go_wp2_with (first
    | ((with_reducible refine wpList_allocV (w := w) (by with_unfolding_all rfl) 59 (by with_unfolding_all rfl) [.int .i64 0, .string ⟨#[]⟩, .int .i64 0, .int .i64 0] Try.zT_implHeadOut ?_); intro w1 hA1 hB1 hS1; clear hS1; have HS1 := Sta.new HS0 hA1 hB1 (by simp); clear hA1 hB1)
    | (go_at_call 74; (with_reducible refine (hC1 w1).mono ?_); rintro r w2 ⟨s, rt, x, c, rfl, ha, hB2⟩; have Hha := hidP ha; clear ha; have HS2 := Sta.call HS1 hB2; clear hB2)
    | ((with_reducible refine wpList_allocV (w := w2) (by with_unfolding_all rfl) 35 (by with_unfolding_all rfl) [.int .i64 0, .string ⟨#[]⟩, .int .i64 0] Try.zT_implHead ?_); intro w3 hA3 hB3 hS3; clear hS3; have HS3 := Sta.new HS2 hA3 hB3 (by simp); clear hA3 hB3)
    | ((with_reducible refine wpList_storeS (w := w3) (by with_unfolding_all rfl) 35 (.tmp 3) (.tmp 8) (by with_unfolding_all rfl) w2.heap.size [.int .i64 0, .string ⟨#[]⟩, .int .i64 0] [.int .i64 s, .string rt, .int .i64 x] (by with_unfolding_all rfl) (by with_unfolding_all rfl) (Sta.r (i := 0) HS3 (by with_unfolding_all rfl)) 3 Try.sT_implHead (by with_unfolding_all rfl) (by with_unfolding_all rfl) (by with_unfolding_all rfl) ?_); intro w4 hA4 hO4; have HS4 := Sta.put 0 HS3 rfl hA4 (by simp) hO4; clear hA4 hO4)
    | ((with_reducible refine wpList_loadV (w := w4) (by with_unfolding_all rfl) 35 (.tmp 3) (by with_unfolding_all rfl) w2.heap.size [.int .i64 s, .string rt, .int .i64 x] (by with_unfolding_all rfl) (Sta.r (i := 0) HS4 (by with_unfolding_all rfl)) Try.uT_implHead 3 Try.sT_implHead (by with_unfolding_all rfl) ?_))
    | ((with_reducible refine wpList_storeS (w := w4) (by with_unfolding_all rfl) 59 (.tmp 2) (.tmp 12) (by with_unfolding_all rfl) w.heap.size [.int .i64 0, .string ⟨#[]⟩, .int .i64 0, .int .i64 0] [.int .i64 s, .string rt, .int .i64 x, .int .i64 c] (by with_unfolding_all rfl) (by with_unfolding_all rfl) (Sta.r (i := 1) HS4 (by with_unfolding_all rfl)) 4 Try.sT_implHeadOut (by with_unfolding_all rfl) (by with_unfolding_all rfl) (by with_unfolding_all rfl) ?_); intro w5 hA5 hO5; have HS5 := Sta.put 1 HS4 rfl hA5 (by simp) hO5; clear hA5 hO5))
  exact bodyPost_ret (results_V (t := 59) rfl _ w.heap.size [.int .i64 s, .string rt, .int .i64 x, .int .i64 c] rfl (Sta.r (i := 1) HS5 (by with_unfolding_all rfl)) Try.uT_implHeadOut 4 Try.sT_implHeadOut rfl) rfl ⟨s, rt, x, c, rfl, Hha.out, Sta.fin HS5⟩
end Go.Proofs.Ytdfglpbappeoaaa
