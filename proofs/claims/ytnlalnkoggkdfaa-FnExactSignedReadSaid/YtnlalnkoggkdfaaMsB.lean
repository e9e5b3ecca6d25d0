/- readWhole of what is signed, on the program's side. SignedRead of the program: what it answers, whatever the text. -/
import Derived.Test.YtnlalnkoggkdfaaRwL
import Derived.Test.YtnlalnkoggkdfaaSdI
import Derived.Test.YtnlalnkoggkdfaaRdL
namespace Go.Proofs.Ytnlalnkoggkdfaa
open Go.RowKit
set_option linter.unusedVariables false

theorem OwnSg.store {w w' : World} {base G : Nat} {v : Value} {l : List SigV} (h : OwnSg w base v l) (hF : ∀ k, k ≠ G → w'.heap[k]? = w.heap[k]?) (hG : G < base) : OwnSg w' base v l := own_same h (fun k hk _ => hF k (by have := (own_ge h hk).1; omega))
theorem OwnSg.base {w : World} {base b : Nat} {v : Value} {l : List SigV} (h : OwnSg w base v l) (hb : b ≤ base) : OwnSg w b v l := by
  refine ⟨h.1, ?_⟩
  rcases h.2 with h0 | ⟨g, cap, cur, hv, hbg, h1⟩
  · exact .inl h0
  · exact .inr ⟨g, cap, cur, hv, Nat.le_trans hb hbg, h1⟩
set_option maxRecDepth 100000 in
set_option maxHeartbeats 1000000 in
theorem catchPs (G6 G7 : Nat) (l : List Value) (hl : l.length = 2) (c : Int) (w : World) (hne : G6 ≠ G7) (h6 : RowV w G6 l) (h7 : RowV w G7 (i1v c)) :
    CallsD Try.prog 127 #[.pointer (some ⟨G6, 0, none⟩), .pointer (some ⟨G7, 0, none⟩)] (.panicking [{ v := faultV, recovered := false }]) w fun e u' w' =>
      e = .returned (.tuple #[]) ∧ u' = .panicking [{ v := faultV, recovered := true }] ∧ RowV w' G6 (sgv ⟨#[]⟩ none 0 0) ∧ RowV w' G7 (i1v 3) ∧ ∀ B, B ≤ G6 → B ≤ G7 → Below B w w' := by
  refine callsD_of_wpS Try.func127 rfl fun c₀ cs hu => ?_
  apply wpS_seq
  apply wpS_region
  simp [wpOpsS, go_sem, recoverD, hu, Try.ntmps127, Exit.thenS]
  refine wpS_cond (t := true) (by simp [Act.eval, Array.replicate]) ?_
  simp only [if_true]
  refine wpS_of_wp ?_
  have hact : (#[Value.pointer (some { block := G6, off := 0 }), Value.pointer (some { block := G7, off := 0 })] ++ ((Array.replicate 4 undef).setIfInBounds 1 faultV).setIfInBounds 2 (Value.bool true) : Array Value) = #[.pointer (some ⟨G6, 0, none⟩), .pointer (some ⟨G7, 0, none⟩), undef, faultV, .bool true, undef] := rfl
  rw [hact]
  clear hact
  have z6 := h6.lt (show l ≠ [] from fun e => by rw [e] at hl; cases hl)
  have z7 := h7.lt (i1v_ne _)
  go_wp2_with (first
    | (with_reducible refine wpList_allocV (w := w) (by with_unfolding_all rfl) 59 (by with_unfolding_all rfl) (sgv ⟨#[]⟩ none 0 0) Try.infoSd ?_; intro w1 hA1 hB1 hS1; clear hS1; have R6 := h6.below hB1 z6; have R7 := h7.below hB1 z7)
    | (with_reducible refine wpList_loadV (w := w1) (by with_unfolding_all rfl) 59 (.tmp 2) (by with_unfolding_all rfl) w.heap.size (sgv ⟨#[]⟩ none 0 0) (by with_unfolding_all rfl) hA1 Try.undSd 2 Try.sizeSd (by with_unfolding_all rfl) ?_)
    | (with_reducible refine wpList_storeH (w := w1) (by with_unfolding_all rfl) 59 (.tmp 0) (.tmp 5) (by with_unfolding_all rfl) G6 l (sgv ⟨#[]⟩ none 0 0) (by with_unfolding_all rfl) (by with_unfolding_all rfl) R6 2 Try.sizeSd hl (by with_unfolding_all rfl) (sgv_one _ _ _ _) ?_; intro w2 hA2 hB2 hF2 hS2; have Q7 := (Only.set hB2 hF2 hS2).row R7 (i1v_ne _) (Ne.symm hne))
    | (with_reducible refine wpList_cellH (w := w2) (by with_unfolding_all rfl) 2 (.tmp 1) (.const (.int .i64 3)) (by with_unfolding_all rfl) G7 0 (i1v c) (i1v 3) (.int .i64 3) (by with_unfolding_all rfl) (by with_unfolding_all rfl) rfl Try.siz1I Q7 (by simp [i1v]) (by with_unfolding_all rfl) ?_; intro w3 hA3 hB3 hF3 hS3; have Q6 := (Only.set hB3 hF3 hS3).row hA2 (sgv_ne _ _ _ _) hne; have HB : ∀ B, B ≤ G6 → B ≤ G7 → Below B w w3 := fun B b1 b2 => ((hB1.mono (Nat.le_trans b1 (Nat.le_of_lt z6))).trans (hB2 B b1)).trans (hB3 B b2)))
  simp [bodyPostS, results, Try.results127]
  exact ⟨Q6, hA3, HB⟩
set_option maxRecDepth 100000 in
theorem catchRs (x y : Option Addr) (w : World) :
    CallsD Try.prog 127 #[.pointer x, .pointer y] .returning w fun e u' w' => e = .returned (.tuple #[]) ∧ u' = .returning ∧ w = w' := by
  refine callsD_of_wpS Try.func127 rfl fun c₀ cs hu => ?_
  apply wpS_seq
  apply wpS_region
  simp [wpOpsS, go_sem, recoverD, hu, Try.ntmps127, Exit.thenS]
  refine wpS_cond (t := false) (by simp [Act.eval, Array.replicate]) ?_
  simp only [Bool.false_eq_true, if_false]
  refine wpS_of_wp (wp_skip ?_)
  cases c₀
  simp_all [bodyPostS, results, Try.results127]
theorem rw_puts {R : Ending → World → Prop} {c : List PanicEntry} {a : Act} {k : Nat} {v : Value} {w : World} (h6 : k ≠ 6) (h7 : k ≠ 7) (h : bodyPostD Try.prog Try.f89 R (.panic c) (a.put (some k) v) w) : bodyPostD Try.prog Try.f89 R (.panic c) a w := by
  refine leaves_tmps ?_ _ _ _ h
  simp [results, Try.results89, Act.put, Array.getElem?_setIfInBounds_ne h6, Array.getElem?_setIfInBounds_ne h7]
set_option maxRecDepth 100000 in
set_option maxHeartbeats 1000000 in
theorem rsBig (t m : ByteArray) (f : Value) (w : World) (hs : t.size ≤ maxLen) (hb : 20000 < t.size) :
    Calls Try.prog 89 #[.string t, .string m, f] w fun e w' => e = .returned (.tuple #[.agg #[.string ⟨#[]⟩, .slice none 0 0], .int .i64 2]) ∧ Below w.heap.size w w' := by
  unfold maxLen at hs
  have d1 : decide ((20000 : Int) < (t.size : Int)) = true := decide_eq_true (by omega)
  go_enter_defers Try.func89, Try.ntmps89
  go_wp2_with (first
    | (with_reducible refine wpList_allocV (w := w) (by with_unfolding_all rfl) 59 (by with_unfolding_all rfl) (sgv ⟨#[]⟩ none 0 0) Try.infoSd ?_; intro w1 hA1 hB1 hS1; have z1 : w.heap.size < w1.heap.size := (by omega); clear hS1)
    | (with_reducible refine wpList_alloc1 (w := w1) (by with_unfolding_all rfl) 2 (by with_unfolding_all rfl) 0 Try.zeroI ?_; intro w2 hA2 hB2 hS2; clear hS2; have R2 := hA1.below hB2 z1)
    | (with_reducible refine wpList_loadV (w := w2) (by with_unfolding_all rfl) 59 (.tmp 6) (by with_unfolding_all rfl) w.heap.size (sgv ⟨#[]⟩ none 0 0) (by with_unfolding_all rfl) R2 Try.undSd 2 Try.sizeSd (by with_unfolding_all rfl) ?_)
    | (with_reducible refine wpList_storeH (w := w2) (by with_unfolding_all rfl) 59 (.tmp 6) (.tmp 12) (by with_unfolding_all rfl) w.heap.size (sgv ⟨#[]⟩ none 0 0) (sgv ⟨#[]⟩ none 0 0) (by with_unfolding_all rfl) (by with_unfolding_all rfl) R2 2 Try.sizeSd (by with_unfolding_all rfl) (by with_unfolding_all rfl) (sgv_one _ _ _ _) ?_; intro w3 hA3 hB3 hF3 hS3; have Q3 := (Only.set hB3 hF3 hS3).row hA2 (i1v_ne _) (Nat.ne_of_gt z1))
    | (with_reducible refine wpList_cellH (w := w3) (by with_unfolding_all rfl) 2 (.tmp 7) (.const (.int .i64 2)) (by with_unfolding_all rfl) w1.heap.size 0 (i1v 0) (i1v 2) (.int .i64 2) (by with_unfolding_all rfl) (by with_unfolding_all rfl) rfl Try.siz1I Q3 (by simp [i1v]) (by with_unfolding_all rfl) ?_; intro w4 hA4 hB4 hF4 hS4; have Q4 := (Only.set hB4 hF4 hS4).row hA3 (sgv_ne _ _ _ _) (Nat.ne_of_lt z1); have B4 : Below w.heap.size w w4 := ((hB1.trans (hB2.mono (Nat.le_of_lt z1))).trans (hB3 _ (Nat.le_refl _))).trans (hB4 _ (Nat.le_of_lt z1))))
  exact ⟨_, results_V2 rfl _ w.heap.size (sgv ⟨#[]⟩ none 0 0) rfl Q4 Try.undSd 2 Try.sizeSd rfl w1.heap.size 2 rfl hA4 Try.underlying2, rfl, B4⟩
set_option maxRecDepth 100000 in
set_option maxHeartbeats 1000000 in
theorem rsPassNo (t m : ByteArray) (w : World) (hs : t.size ≤ 20000) (hP : ∀ g w0, RowV w0 g (cuv t 0) → Calls Try.prog 128 #[.pointer (some ⟨g, 0, none⟩), .string m] w0 fun e w' => e = .panicked [{ v := faultV, recovered := false }] ∧ Only g w0 w') :
    Calls Try.prog 89 #[.string t, .string m, .func (.func 90) #[] #[]] w fun e w' => e = .returned (.tuple #[.agg #[.string ⟨#[]⟩, .slice none 0 0], .int .i64 3]) ∧ Below w.heap.size w w' := by
  have d1 : decide ((20000 : Int) < (t.size : Int)) = false := decide_eq_false (by omega)
  have hmf : ∀ (fn : Fn) (first cap : Array Value) (w : World), (Instr.makeFunc fn first cap).run Try.prog w = .ok (.func fn first cap) w := fun _ _ _ _ => rfl
  go_enter_defers Try.func89, Try.ntmps89
  go_wp2_with (first
    | (with_reducible refine wpList_allocV (w := w) (by with_unfolding_all rfl) 59 (by with_unfolding_all rfl) (sgv ⟨#[]⟩ none 0 0) Try.infoSd ?_; intro w1 hA1 hB1 hS1; have z1 : w.heap.size < w1.heap.size := (by omega); clear hS1)
    | (with_reducible refine wpList_alloc1 (w := w1) (by with_unfolding_all rfl) 2 (by with_unfolding_all rfl) 0 Try.zeroI ?_; intro w2 hA2 hB2 hS2; have z2 : w1.heap.size < w2.heap.size := (by omega); clear hS2; have R2 := hA1.below hB2 z1; have B02 : Below w.heap.size w w2 := hB1.trans (hB2.mono (Nat.le_of_lt z1)))
    | (with_reducible refine wpList_boxV (w := w2) (by with_unfolding_all rfl) 167 (.tmp 16) (by with_unfolding_all rfl) (cuv t 0) (by with_unfolding_all rfl) ?_; intro w3 hA3 hB3 hS3; clear hS3; have R3 := R2.below hB3 (Nat.lt_trans z1 z2); have S3 := hA2.below hB3 z2; have B03 : Below w.heap.size w w3 := B02.trans (hB3.mono (Nat.le_of_lt (Nat.lt_trans z1 z2))); obtain ⟨c0, c1⟩ := hA3.cu)
    | (go_at_call 128; with_reducible refine (hP _ w3 hA3).mono ?_; rintro r w4 ⟨rfl, hO4⟩; have R4 := hO4.row R3 (sgv_ne _ _ _ _) (Nat.ne_of_lt (Nat.lt_trans z1 z2)); have S4 := hO4.row S3 (i1v_ne _) (Nat.ne_of_lt z2); have B04 : Below w.heap.size w w4 := B03.trans (hO4.bel (Nat.le_of_lt (Nat.lt_trans z1 z2)))))
  refine leaves_cons (f := 127) (args := #[.pointer (some ⟨w.heap.size, 0, none⟩), .pointer (some ⟨w1.heap.size, 0, none⟩)]) (by simp) (by simp [go_sem]) ?_
  refine (catchPs w.heap.size w1.heap.size (sgv ⟨#[]⟩ none 0 0) rfl 0 w4 (Nat.ne_of_lt z1) R4 S4).mono ?_
  rintro e u' w9 ⟨rfl, rfl, q6, q7, qB⟩
  exact ⟨_, results_V2 rfl _ w.heap.size (sgv ⟨#[]⟩ none 0 0) rfl q6 Try.undSd 2 Try.sizeSd rfl w1.heap.size 3 rfl q7 Try.underlying2, rfl, B04.trans (qB _ (Nat.le_refl _) (Nat.le_of_lt z1))⟩
set_option maxRecDepth 100000 in
set_option maxHeartbeats 1000000 in
theorem rsReadNo (t m : ByteArray) (w : World) (hs : t.size ≤ 20000) (hP : ∀ g w0, RowV w0 g (cuv t 0) → Calls Try.prog 128 #[.pointer (some ⟨g, 0, none⟩), .string m] w0 fun e w' => e = .returned (.tuple #[]) ∧ RowV w' g (cuv t 1) ∧ Only g w0 w') (hK : ∀ g w0, RowV w0 g (cuv t 1) → Calls Try.prog 90 #[.pointer (some ⟨g, 0, none⟩)] w0 fun e w' => e = .panicked [{ v := faultV, recovered := false }] ∧ Only g w0 w') :
    Calls Try.prog 89 #[.string t, .string m, .func (.func 90) #[] #[]] w fun e w' => e = .returned (.tuple #[.agg #[.string ⟨#[]⟩, .slice none 0 0], .int .i64 3]) ∧ Below w.heap.size w w' := by
  have d1 : decide ((20000 : Int) < (t.size : Int)) = false := decide_eq_false (by omega)
  have hmf : ∀ (fn : Fn) (first cap : Array Value) (w : World), (Instr.makeFunc fn first cap).run Try.prog w = .ok (.func fn first cap) w := fun _ _ _ _ => rfl
  go_enter_defers Try.func89, Try.ntmps89
  go_wp2_with (first
    | (with_reducible refine wpList_allocV (w := w) (by with_unfolding_all rfl) 59 (by with_unfolding_all rfl) (sgv ⟨#[]⟩ none 0 0) Try.infoSd ?_; intro w1 hA1 hB1 hS1; have z1 : w.heap.size < w1.heap.size := (by omega); clear hS1)
    | (with_reducible refine wpList_alloc1 (w := w1) (by with_unfolding_all rfl) 2 (by with_unfolding_all rfl) 0 Try.zeroI ?_; intro w2 hA2 hB2 hS2; have z2 : w1.heap.size < w2.heap.size := (by omega); clear hS2; have R2 := hA1.below hB2 z1; have B02 : Below w.heap.size w w2 := hB1.trans (hB2.mono (Nat.le_of_lt z1)))
    | (with_reducible refine wpList_boxV (w := w2) (by with_unfolding_all rfl) 167 (.tmp 16) (by with_unfolding_all rfl) (cuv t 0) (by with_unfolding_all rfl) ?_; intro w3 hA3 hB3 hS3; clear hS3; have R3 := R2.below hB3 (Nat.lt_trans z1 z2); have S3 := hA2.below hB3 z2; have B03 : Below w.heap.size w w3 := B02.trans (hB3.mono (Nat.le_of_lt (Nat.lt_trans z1 z2))); obtain ⟨c0, c1⟩ := hA3.cu)
    | (go_at_call 128; with_reducible refine (hP _ w3 hA3).mono ?_; rintro r w4 ⟨rfl, hA4, hO4⟩; have R4 := hO4.row R3 (sgv_ne _ _ _ _) (Nat.ne_of_lt (Nat.lt_trans z1 z2)); have S4 := hO4.row S3 (i1v_ne _) (Nat.ne_of_lt z2); have B04 : Below w.heap.size w w4 := B03.trans (hO4.bel (Nat.le_of_lt (Nat.lt_trans z1 z2))); have z04 := Nat.lt_of_lt_of_le (Nat.lt_trans z1 z2) (Nat.le_trans hB3.size hO4.size); have z14 := Nat.lt_of_lt_of_le z2 (Nat.le_trans hB3.size hO4.size); clear c0 c1)
    | (go_at_call 90; with_reducible refine (hK _ w4 hA4).mono ?_; rintro r w5 ⟨rfl, hO5⟩; have R5 := hO5.row R4 (sgv_ne _ _ _ _) (Nat.ne_of_lt (Nat.lt_trans z1 z2)); have S5 := hO5.row S4 (i1v_ne _) (Nat.ne_of_lt z2); have B05 : Below w.heap.size w w5 := B04.trans (hO5.bel (Nat.le_of_lt (Nat.lt_trans z1 z2)))))
  refine leaves_cons (f := 127) (args := #[.pointer (some ⟨w.heap.size, 0, none⟩), .pointer (some ⟨w1.heap.size, 0, none⟩)]) (by simp) (by simp [go_sem]) ?_
  refine (catchPs w.heap.size w1.heap.size (sgv ⟨#[]⟩ none 0 0) rfl 0 w5 (Nat.ne_of_lt z1) R5 S5).mono ?_
  rintro e u' w9 ⟨rfl, rfl, q6, q7, qB⟩
  exact ⟨_, results_V2 rfl _ w.heap.size (sgv ⟨#[]⟩ none 0 0) rfl q6 Try.undSd 2 Try.sizeSd rfl w1.heap.size 3 rfl q7 Try.underlying2, rfl, B05.trans (qB _ (Nat.le_refl _) (Nat.le_of_lt z1))⟩
set_option maxRecDepth 100000 in
set_option maxHeartbeats 1000000 in
theorem rsEndNo (t m : ByteArray) (w : World) (hs : t.size ≤ 20000) (hP : ∀ g w0, RowV w0 g (cuv t 0) → Calls Try.prog 128 #[.pointer (some ⟨g, 0, none⟩), .string m] w0 fun e w' => e = .returned (.tuple #[]) ∧ RowV w' g (cuv t 1) ∧ Only g w0 w') (x : ByteArray) (n : Nat) (l : List SigV) (b : Nat) (hK : ∀ g w0, RowV w0 g (cuv t 1) → Calls Try.prog 90 #[.pointer (some ⟨g, 0, none⟩)] w0 fun r w' => ∃ a c, r = .returned (.agg #[.string x, .slice a n c]) ∧ RowV w' g (cuv t b) ∧ Only g w0 w' ∧ OwnSg w' w0.heap.size (.slice a n c) l) (hb : b ≤ t.size) (hne : ¬ b = t.size) :
    Calls Try.prog 89 #[.string t, .string m, .func (.func 90) #[] #[]] w fun e w' => e = .returned (.tuple #[.agg #[.string ⟨#[]⟩, .slice none 0 0], .int .i64 3]) ∧ Below w.heap.size w w' := by
  have e1 : ((b : Int) == (t.size : Int)) = false := beq_eq_false_iff_ne.2 (by omega)
  have e2 : (b == t.size) = false := beq_eq_false_iff_ne.2 hne
  have d1 : decide ((20000 : Int) < (t.size : Int)) = false := decide_eq_false (by omega)
  have hmf : ∀ (fn : Fn) (first cap : Array Value) (w : World), (Instr.makeFunc fn first cap).run Try.prog w = .ok (.func fn first cap) w := fun _ _ _ _ => rfl
  go_enter_defers Try.func89, Try.ntmps89
  go_wp2_with (first
    | (with_reducible refine wpList_allocV (w := w) (by with_unfolding_all rfl) 59 (by with_unfolding_all rfl) (sgv ⟨#[]⟩ none 0 0) Try.infoSd ?_; intro w1 hA1 hB1 hS1; have z1 : w.heap.size < w1.heap.size := (by omega); clear hS1)
    | (with_reducible refine wpList_alloc1 (w := w1) (by with_unfolding_all rfl) 2 (by with_unfolding_all rfl) 0 Try.zeroI ?_; intro w2 hA2 hB2 hS2; have z2 : w1.heap.size < w2.heap.size := (by omega); clear hS2; have R2 := hA1.below hB2 z1; have B02 : Below w.heap.size w w2 := hB1.trans (hB2.mono (Nat.le_of_lt z1)))
    | (with_reducible refine wpList_boxV (w := w2) (by with_unfolding_all rfl) 167 (.tmp 16) (by with_unfolding_all rfl) (cuv t 0) (by with_unfolding_all rfl) ?_; intro w3 hA3 hB3 hS3; clear hS3; have R3 := R2.below hB3 (Nat.lt_trans z1 z2); have S3 := hA2.below hB3 z2; have B03 : Below w.heap.size w w3 := B02.trans (hB3.mono (Nat.le_of_lt (Nat.lt_trans z1 z2))); obtain ⟨c0, c1⟩ := hA3.cu)
    | (go_at_call 128; with_reducible refine (hP _ w3 hA3).mono ?_; rintro r w4 ⟨rfl, hA4, hO4⟩; have R4 := hO4.row R3 (sgv_ne _ _ _ _) (Nat.ne_of_lt (Nat.lt_trans z1 z2)); have S4 := hO4.row S3 (i1v_ne _) (Nat.ne_of_lt z2); have B04 : Below w.heap.size w w4 := B03.trans (hO4.bel (Nat.le_of_lt (Nat.lt_trans z1 z2))); have z04 := Nat.lt_of_lt_of_le (Nat.lt_trans z1 z2) (Nat.le_trans hB3.size hO4.size); have z14 := Nat.lt_of_lt_of_le z2 (Nat.le_trans hB3.size hO4.size); clear c0 c1)
    | (go_at_call 90; with_reducible refine (hK _ w4 hA4).mono ?_; rintro r w5 ⟨a, c, rfl, hA5, hO5, hW5⟩; have R5 := hO5.row R4 (sgv_ne _ _ _ _) (Nat.ne_of_lt (Nat.lt_trans z1 z2)); have S5 := hO5.row S4 (i1v_ne _) (Nat.ne_of_lt z2); have B05 : Below w.heap.size w w5 := B04.trans (hO5.bel (Nat.le_of_lt (Nat.lt_trans z1 z2))))
    | (with_reducible refine wpList_storeH (w := w5) (by with_unfolding_all rfl) 59 (.tmp 6) (.tmp 25) (by with_unfolding_all rfl) w.heap.size (sgv ⟨#[]⟩ none 0 0) (sgv x a n c) (by with_unfolding_all rfl) (by with_unfolding_all rfl) R5 2 Try.sizeSd (by with_unfolding_all rfl) (by with_unfolding_all rfl) (sgv_one _ _ _ _) ?_; intro w6 hA6 hB6 hF6 hS6; have S6 := (Only.set hB6 hF6 hS6).row S5 (i1v_ne _) (Nat.ne_of_gt z1); have C6 := (Only.set hB6 hF6 hS6).row hA5 (cuv_ne _ _) (Nat.ne_of_gt (Nat.lt_trans z1 z2)); have B06 : Below w.heap.size w w6 := B05.trans (hB6 _ (Nat.le_refl _)); have OW6 := OwnSg.store hW5 hF6 z04))
  have hA7 := hA6.drew
  have OW7 : OwnSg w6.drew w4.heap.size (.slice a n c) l := OW6
  have S7 := S6.drew
  have C7 := C6.drew
  have B07 := B06.drew
  refine wp_region_held_drew (S := fun w' => w'.cell? ⟨w2.heap.size, 0, none⟩ = some (.string t) ∧ w'.cell? ⟨w2.heap.size, 1, none⟩ = some (.int .i64 (b : Int))) (by kernel_rfl) C7.cu (fun hHeld => ?_)
  refine wpAnyH_take (i := 0) (oi := ⟨_, _, _, _, _, _⟩) (v := .pointer (some ⟨w2.heap.size, 0, none⟩)) rfl (by kernel_rfl) (by kernel_rfl) (by kernel_rfl) (fun _ _ _ h => rw_puts (k := 26) (by decide) (by decide) h) (Or.inl ⟨wanted_free rfl, fun w' hSw => ?_⟩) hHeld ?_
  · obtain ⟨s0, s1⟩ := hSw
    go_simp
  try simp only [Act.put, List.setIfInBounds_toArray, List.set_cons_zero, List.set_cons_succ]
  refine wpAnyH_take (i := 1) (oi := ⟨_, _, _, _, _, _⟩) (v := .pointer (some ⟨w2.heap.size, 0, none⟩)) rfl (by kernel_rfl) (by kernel_rfl) (by kernel_rfl) (fun _ _ _ h => rw_puts (k := 27) (by decide) (by decide) h) (Or.inl ⟨wanted_free rfl, fun w' hSw => ?_⟩) hHeld ?_
  · obtain ⟨s0, s1⟩ := hSw
    go_simp
  try simp only [Act.put, List.setIfInBounds_toArray, List.set_cons_zero, List.set_cons_succ]
  refine wpAnyH_take (i := 2) (oi := ⟨_, _, _, _, _, _⟩) (v := .pointer (some ⟨w2.heap.size, 0, none⟩)) rfl (by kernel_rfl) (by kernel_rfl) (by kernel_rfl) (fun _ _ _ h => rw_puts (k := 28) (by decide) (by decide) h) (Or.inl ⟨wanted_free rfl, fun w' hSw => ?_⟩) hHeld ?_
  · obtain ⟨s0, s1⟩ := hSw
    go_simp
  try simp only [Act.put, List.setIfInBounds_toArray, List.set_cons_zero, List.set_cons_succ]
  refine wpAnyH_take (i := 3) (oi := ⟨_, _, _, _, _, _⟩) (v := .pointer (some ⟨w2.heap.size, 0, none⟩)) rfl (by kernel_rfl) (by kernel_rfl) (by kernel_rfl) (fun _ _ _ h => rw_puts (k := 29) (by decide) (by decide) h) (Or.inl ⟨wanted_free rfl, fun w' hSw => ?_⟩) hHeld ?_
  · obtain ⟨s0, s1⟩ := hSw
    go_simp
  try simp only [Act.put, List.setIfInBounds_toArray, List.set_cons_zero, List.set_cons_succ]
  refine wpAnyH_take (i := 4) (oi := ⟨_, _, _, _, _, _⟩) (v := .pointer (some ⟨w2.heap.size, 0, none⟩)) rfl (by kernel_rfl) (by kernel_rfl) (by kernel_rfl) (fun _ _ _ h => rw_puts (k := 30) (by decide) (by decide) h) (Or.inl ⟨wanted_free rfl, fun w' hSw => ?_⟩) hHeld ?_
  · obtain ⟨s0, s1⟩ := hSw
    go_simp
  try simp only [Act.put, List.setIfInBounds_toArray, List.set_cons_zero, List.set_cons_succ]
  refine wpAnyH_take (i := 5) (oi := ⟨_, _, _, _, _, _⟩) (v := .pointer (some ⟨w2.heap.size, 0, none⟩)) rfl (by kernel_rfl) (by kernel_rfl) (by kernel_rfl) (fun _ _ _ h => rw_puts (k := 31) (by decide) (by decide) h) (Or.inl ⟨wanted_free rfl, fun w' hSw => ?_⟩) hHeld ?_
  · obtain ⟨s0, s1⟩ := hSw
    go_simp
  try simp only [Act.put, List.setIfInBounds_toArray, List.set_cons_zero, List.set_cons_succ]
  refine wpAnyH_take (i := 6) (oi := ⟨_, _, _, _, _, _⟩) (v := .pointer (some ⟨w2.heap.size, 1, none⟩)) rfl (by kernel_rfl) (by kernel_rfl) (by kernel_rfl) (fun _ _ _ h => rw_puts (k := 32) (by decide) (by decide) h) (Or.inl ⟨wanted_free rfl, fun w' hSw => ?_⟩) hHeld ?_
  · obtain ⟨s0, s1⟩ := hSw
    go_simp
  try simp only [Act.put, List.setIfInBounds_toArray, List.set_cons_zero, List.set_cons_succ]
  refine wpAnyH_take (i := 7) (oi := ⟨_, _, _, _, _, _⟩) (v := .int .i64 (b : Int)) rfl (by kernel_rfl) (by kernel_rfl) (by kernel_rfl) (fun _ _ _ h => rw_puts (k := 33) (by decide) (by decide) h) (Or.inl ⟨wanted_free rfl, fun w' hSw => ?_⟩) hHeld ?_
  · obtain ⟨s0, s1⟩ := hSw
    go_simp
  try simp only [Act.put, List.setIfInBounds_toArray, List.set_cons_zero, List.set_cons_succ]
  refine wpAnyH_take (i := 8) (oi := ⟨_, _, _, _, _, _⟩) (v := .pointer (some ⟨w2.heap.size, 0, none⟩)) rfl (by kernel_rfl) (by kernel_rfl) (by kernel_rfl) (fun _ _ _ h => rw_puts (k := 34) (by decide) (by decide) h) (Or.inl ⟨wanted_free rfl, fun w' hSw => ?_⟩) hHeld ?_
  · obtain ⟨s0, s1⟩ := hSw
    go_simp
  try simp only [Act.put, List.setIfInBounds_toArray, List.set_cons_zero, List.set_cons_succ]
  refine wpAnyH_take (i := 9) (oi := ⟨_, _, _, _, _, _⟩) (v := .pointer (some ⟨w2.heap.size, 0, none⟩)) rfl (by kernel_rfl) (by kernel_rfl) (by kernel_rfl) (fun _ _ _ h => rw_puts (k := 35) (by decide) (by decide) h) (Or.inl ⟨wanted_free rfl, fun w' hSw => ?_⟩) hHeld ?_
  · obtain ⟨s0, s1⟩ := hSw
    go_simp
  try simp only [Act.put, List.setIfInBounds_toArray, List.set_cons_zero, List.set_cons_succ]
  refine wpAnyH_take (i := 10) (oi := ⟨_, _, _, _, _, _⟩) (v := .pointer (some ⟨w2.heap.size, 0, none⟩)) rfl (by kernel_rfl) (by kernel_rfl) (by kernel_rfl) (fun _ _ _ h => rw_puts (k := 36) (by decide) (by decide) h) (Or.inl ⟨wanted_free rfl, fun w' hSw => ?_⟩) hHeld ?_
  · obtain ⟨s0, s1⟩ := hSw
    go_simp
  try simp only [Act.put, List.setIfInBounds_toArray, List.set_cons_zero, List.set_cons_succ]
  refine wpAnyH_take (i := 11) (oi := ⟨_, _, _, _, _, _⟩) (v := .pointer (some ⟨w2.heap.size, 0, none⟩)) rfl (by kernel_rfl) (by kernel_rfl) (by kernel_rfl) (fun _ _ _ h => rw_puts (k := 37) (by decide) (by decide) h) (Or.inl ⟨wanted_free rfl, fun w' hSw => ?_⟩) hHeld ?_
  · obtain ⟨s0, s1⟩ := hSw
    go_simp
  try simp only [Act.put, List.setIfInBounds_toArray, List.set_cons_zero, List.set_cons_succ]
  refine wpAnyH_take (i := 12) (oi := ⟨_, _, _, _, _, _⟩) (v := .string t) rfl (by kernel_rfl) (by kernel_rfl) (by kernel_rfl) (fun _ _ _ h => rw_puts (k := 38) (by decide) (by decide) h) (Or.inl ⟨wanted_free rfl, fun w' hSw => ?_⟩) hHeld ?_
  · obtain ⟨s0, s1⟩ := hSw
    go_simp
  try simp only [Act.put, List.setIfInBounds_toArray, List.set_cons_zero, List.set_cons_succ]
  refine wpAnyH_take (i := 13) (oi := ⟨_, _, _, _, _, _⟩) (v := .int .i64 (t.size : Int)) rfl (by kernel_rfl) (by kernel_rfl) (by kernel_rfl) (fun _ _ _ h => rw_puts (k := 39) (by decide) (by decide) h) (Or.inl ⟨wanted_free rfl, fun w' hSw => ?_⟩) hHeld ?_
  · obtain ⟨s0, s1⟩ := hSw
    go_simp
  try simp only [Act.put, List.setIfInBounds_toArray, List.set_cons_zero, List.set_cons_succ]
  refine wpAnyH_take (i := 14) (oi := ⟨_, _, _, _, _, _⟩) (v := .bool false) rfl (by kernel_rfl) (by kernel_rfl) (by kernel_rfl) (fun _ _ _ h => rw_puts (k := 40) (by decide) (by decide) h) (Or.inl ⟨wanted_free rfl, fun w' hSw => ?_⟩) hHeld ?_
  · obtain ⟨s0, s1⟩ := hSw
    go_simp
  try simp only [Act.put, List.setIfInBounds_toArray, List.set_cons_zero, List.set_cons_succ]
  generalize w6.drew = w7 at *
  refine wpAnyH_ready (rs := [15]) (by kernel_rfl) (by simp) (AllReadyH.cons (o := ⟨_, _, _, _, _, _⟩) rfl (fun K hK => ?_) AllReadyH.nil)
  rewrite [if_pos (wanted_free rfl)]
  go_simp
  refine (mustNo _ w7).mono ?_
  rintro r w' ⟨rfl, rfl⟩
  refine leaves_cons (f := 127) (args := #[.pointer (some ⟨w.heap.size, 0, none⟩), .pointer (some ⟨w1.heap.size, 0, none⟩)]) (by simp) (by simp [go_sem]) ?_
  refine (catchPs w.heap.size w1.heap.size (sgv x a n c) rfl 0 w7 (Nat.ne_of_lt z1) hA7 S7).mono ?_
  rintro e u' w9 ⟨rfl, rfl, q6, q7, qB⟩
  exact ⟨_, results_V2 rfl _ w.heap.size (sgv ⟨#[]⟩ none 0 0) rfl q6 Try.undSd 2 Try.sizeSd rfl w1.heap.size 3 rfl q7 Try.underlying2, rfl, B07.trans (qB _ (Nat.le_refl _) (Nat.le_of_lt z1))⟩
set_option maxRecDepth 100000 in
set_option maxHeartbeats 1000000 in
theorem rsYes (t m : ByteArray) (w : World) (hs : t.size ≤ 20000) (hP : ∀ g w0, RowV w0 g (cuv t 0) → Calls Try.prog 128 #[.pointer (some ⟨g, 0, none⟩), .string m] w0 fun e w' => e = .returned (.tuple #[]) ∧ RowV w' g (cuv t 1) ∧ Only g w0 w') (x : ByteArray) (n : Nat) (l : List SigV) (b : Nat) (hK : ∀ g w0, RowV w0 g (cuv t 1) → Calls Try.prog 90 #[.pointer (some ⟨g, 0, none⟩)] w0 fun r w' => ∃ a c, r = .returned (.agg #[.string x, .slice a n c]) ∧ RowV w' g (cuv t b) ∧ Only g w0 w' ∧ OwnSg w' w0.heap.size (.slice a n c) l) (hb : b = t.size) :
    Calls Try.prog 89 #[.string t, .string m, .func (.func 90) #[] #[]] w fun r w' => ∃ a c, r = .returned (.tuple #[.agg #[.string x, .slice a n c], .int .i64 0]) ∧ OwnSg w' w.heap.size (.slice a n c) l ∧ Below w.heap.size w w' := by
  have e1 : ((b : Int) == (t.size : Int)) = true := by rw [hb]; simp
  have e2 : (b == t.size) = true := by rw [hb]; simp
  clear hb
  have d1 : decide ((20000 : Int) < (t.size : Int)) = false := decide_eq_false (by omega)
  have hmf : ∀ (fn : Fn) (first cap : Array Value) (w : World), (Instr.makeFunc fn first cap).run Try.prog w = .ok (.func fn first cap) w := fun _ _ _ _ => rfl
  go_enter_defers Try.func89, Try.ntmps89
  go_wp2_with (first
    | (with_reducible refine wpList_allocV (w := w) (by with_unfolding_all rfl) 59 (by with_unfolding_all rfl) (sgv ⟨#[]⟩ none 0 0) Try.infoSd ?_; intro w1 hA1 hB1 hS1; have z1 : w.heap.size < w1.heap.size := (by omega); clear hS1)
    | (with_reducible refine wpList_alloc1 (w := w1) (by with_unfolding_all rfl) 2 (by with_unfolding_all rfl) 0 Try.zeroI ?_; intro w2 hA2 hB2 hS2; have z2 : w1.heap.size < w2.heap.size := (by omega); clear hS2; have R2 := hA1.below hB2 z1; have B02 : Below w.heap.size w w2 := hB1.trans (hB2.mono (Nat.le_of_lt z1)))
    | (with_reducible refine wpList_boxV (w := w2) (by with_unfolding_all rfl) 167 (.tmp 16) (by with_unfolding_all rfl) (cuv t 0) (by with_unfolding_all rfl) ?_; intro w3 hA3 hB3 hS3; clear hS3; have R3 := R2.below hB3 (Nat.lt_trans z1 z2); have S3 := hA2.below hB3 z2; have B03 : Below w.heap.size w w3 := B02.trans (hB3.mono (Nat.le_of_lt (Nat.lt_trans z1 z2))); obtain ⟨c0, c1⟩ := hA3.cu)
    | (go_at_call 128; with_reducible refine (hP _ w3 hA3).mono ?_; rintro r w4 ⟨rfl, hA4, hO4⟩; have R4 := hO4.row R3 (sgv_ne _ _ _ _) (Nat.ne_of_lt (Nat.lt_trans z1 z2)); have S4 := hO4.row S3 (i1v_ne _) (Nat.ne_of_lt z2); have B04 : Below w.heap.size w w4 := B03.trans (hO4.bel (Nat.le_of_lt (Nat.lt_trans z1 z2))); have z04 := Nat.lt_of_lt_of_le (Nat.lt_trans z1 z2) (Nat.le_trans hB3.size hO4.size); have z14 := Nat.lt_of_lt_of_le z2 (Nat.le_trans hB3.size hO4.size); clear c0 c1)
    | (go_at_call 90; with_reducible refine (hK _ w4 hA4).mono ?_; rintro r w5 ⟨a, c, rfl, hA5, hO5, hW5⟩; have R5 := hO5.row R4 (sgv_ne _ _ _ _) (Nat.ne_of_lt (Nat.lt_trans z1 z2)); have S5 := hO5.row S4 (i1v_ne _) (Nat.ne_of_lt z2); have B05 : Below w.heap.size w w5 := B04.trans (hO5.bel (Nat.le_of_lt (Nat.lt_trans z1 z2))))
    | (with_reducible refine wpList_storeH (w := w5) (by with_unfolding_all rfl) 59 (.tmp 6) (.tmp 25) (by with_unfolding_all rfl) w.heap.size (sgv ⟨#[]⟩ none 0 0) (sgv x a n c) (by with_unfolding_all rfl) (by with_unfolding_all rfl) R5 2 Try.sizeSd (by with_unfolding_all rfl) (by with_unfolding_all rfl) (sgv_one _ _ _ _) ?_; intro w6 hA6 hB6 hF6 hS6; have S6 := (Only.set hB6 hF6 hS6).row S5 (i1v_ne _) (Nat.ne_of_gt z1); have C6 := (Only.set hB6 hF6 hS6).row hA5 (cuv_ne _ _) (Nat.ne_of_gt (Nat.lt_trans z1 z2)); have B06 : Below w.heap.size w w6 := B05.trans (hB6 _ (Nat.le_refl _)); have OW6 := OwnSg.store hW5 hF6 z04))
  have hA7 := hA6.drew
  have OW7 : OwnSg w6.drew w4.heap.size (.slice a n c) l := OW6
  have S7 := S6.drew
  have C7 := C6.drew
  have B07 := B06.drew
  refine wp_region_held_drew (S := fun w' => w'.cell? ⟨w2.heap.size, 0, none⟩ = some (.string t) ∧ w'.cell? ⟨w2.heap.size, 1, none⟩ = some (.int .i64 (b : Int))) (by kernel_rfl) C7.cu (fun hHeld => ?_)
  refine wpAnyH_take (i := 0) (oi := ⟨_, _, _, _, _, _⟩) (v := .pointer (some ⟨w2.heap.size, 0, none⟩)) rfl (by kernel_rfl) (by kernel_rfl) (by kernel_rfl) (fun _ _ _ h => rw_puts (k := 26) (by decide) (by decide) h) (Or.inl ⟨wanted_free rfl, fun w' hSw => ?_⟩) hHeld ?_
  · obtain ⟨s0, s1⟩ := hSw
    go_simp
  try simp only [Act.put, List.setIfInBounds_toArray, List.set_cons_zero, List.set_cons_succ]
  refine wpAnyH_take (i := 1) (oi := ⟨_, _, _, _, _, _⟩) (v := .pointer (some ⟨w2.heap.size, 0, none⟩)) rfl (by kernel_rfl) (by kernel_rfl) (by kernel_rfl) (fun _ _ _ h => rw_puts (k := 27) (by decide) (by decide) h) (Or.inl ⟨wanted_free rfl, fun w' hSw => ?_⟩) hHeld ?_
  · obtain ⟨s0, s1⟩ := hSw
    go_simp
  try simp only [Act.put, List.setIfInBounds_toArray, List.set_cons_zero, List.set_cons_succ]
  refine wpAnyH_take (i := 2) (oi := ⟨_, _, _, _, _, _⟩) (v := .pointer (some ⟨w2.heap.size, 0, none⟩)) rfl (by kernel_rfl) (by kernel_rfl) (by kernel_rfl) (fun _ _ _ h => rw_puts (k := 28) (by decide) (by decide) h) (Or.inl ⟨wanted_free rfl, fun w' hSw => ?_⟩) hHeld ?_
  · obtain ⟨s0, s1⟩ := hSw
    go_simp
  try simp only [Act.put, List.setIfInBounds_toArray, List.set_cons_zero, List.set_cons_succ]
  refine wpAnyH_take (i := 3) (oi := ⟨_, _, _, _, _, _⟩) (v := .pointer (some ⟨w2.heap.size, 0, none⟩)) rfl (by kernel_rfl) (by kernel_rfl) (by kernel_rfl) (fun _ _ _ h => rw_puts (k := 29) (by decide) (by decide) h) (Or.inl ⟨wanted_free rfl, fun w' hSw => ?_⟩) hHeld ?_
  · obtain ⟨s0, s1⟩ := hSw
    go_simp
  try simp only [Act.put, List.setIfInBounds_toArray, List.set_cons_zero, List.set_cons_succ]
  refine wpAnyH_take (i := 4) (oi := ⟨_, _, _, _, _, _⟩) (v := .pointer (some ⟨w2.heap.size, 0, none⟩)) rfl (by kernel_rfl) (by kernel_rfl) (by kernel_rfl) (fun _ _ _ h => rw_puts (k := 30) (by decide) (by decide) h) (Or.inl ⟨wanted_free rfl, fun w' hSw => ?_⟩) hHeld ?_
  · obtain ⟨s0, s1⟩ := hSw
    go_simp
  try simp only [Act.put, List.setIfInBounds_toArray, List.set_cons_zero, List.set_cons_succ]
  refine wpAnyH_take (i := 5) (oi := ⟨_, _, _, _, _, _⟩) (v := .pointer (some ⟨w2.heap.size, 0, none⟩)) rfl (by kernel_rfl) (by kernel_rfl) (by kernel_rfl) (fun _ _ _ h => rw_puts (k := 31) (by decide) (by decide) h) (Or.inl ⟨wanted_free rfl, fun w' hSw => ?_⟩) hHeld ?_
  · obtain ⟨s0, s1⟩ := hSw
    go_simp
  try simp only [Act.put, List.setIfInBounds_toArray, List.set_cons_zero, List.set_cons_succ]
  refine wpAnyH_take (i := 6) (oi := ⟨_, _, _, _, _, _⟩) (v := .pointer (some ⟨w2.heap.size, 1, none⟩)) rfl (by kernel_rfl) (by kernel_rfl) (by kernel_rfl) (fun _ _ _ h => rw_puts (k := 32) (by decide) (by decide) h) (Or.inl ⟨wanted_free rfl, fun w' hSw => ?_⟩) hHeld ?_
  · obtain ⟨s0, s1⟩ := hSw
    go_simp
  try simp only [Act.put, List.setIfInBounds_toArray, List.set_cons_zero, List.set_cons_succ]
  refine wpAnyH_take (i := 7) (oi := ⟨_, _, _, _, _, _⟩) (v := .int .i64 (b : Int)) rfl (by kernel_rfl) (by kernel_rfl) (by kernel_rfl) (fun _ _ _ h => rw_puts (k := 33) (by decide) (by decide) h) (Or.inl ⟨wanted_free rfl, fun w' hSw => ?_⟩) hHeld ?_
  · obtain ⟨s0, s1⟩ := hSw
    go_simp
  try simp only [Act.put, List.setIfInBounds_toArray, List.set_cons_zero, List.set_cons_succ]
  refine wpAnyH_take (i := 8) (oi := ⟨_, _, _, _, _, _⟩) (v := .pointer (some ⟨w2.heap.size, 0, none⟩)) rfl (by kernel_rfl) (by kernel_rfl) (by kernel_rfl) (fun _ _ _ h => rw_puts (k := 34) (by decide) (by decide) h) (Or.inl ⟨wanted_free rfl, fun w' hSw => ?_⟩) hHeld ?_
  · obtain ⟨s0, s1⟩ := hSw
    go_simp
  try simp only [Act.put, List.setIfInBounds_toArray, List.set_cons_zero, List.set_cons_succ]
  refine wpAnyH_take (i := 9) (oi := ⟨_, _, _, _, _, _⟩) (v := .pointer (some ⟨w2.heap.size, 0, none⟩)) rfl (by kernel_rfl) (by kernel_rfl) (by kernel_rfl) (fun _ _ _ h => rw_puts (k := 35) (by decide) (by decide) h) (Or.inl ⟨wanted_free rfl, fun w' hSw => ?_⟩) hHeld ?_
  · obtain ⟨s0, s1⟩ := hSw
    go_simp
  try simp only [Act.put, List.setIfInBounds_toArray, List.set_cons_zero, List.set_cons_succ]
  refine wpAnyH_take (i := 10) (oi := ⟨_, _, _, _, _, _⟩) (v := .pointer (some ⟨w2.heap.size, 0, none⟩)) rfl (by kernel_rfl) (by kernel_rfl) (by kernel_rfl) (fun _ _ _ h => rw_puts (k := 36) (by decide) (by decide) h) (Or.inl ⟨wanted_free rfl, fun w' hSw => ?_⟩) hHeld ?_
  · obtain ⟨s0, s1⟩ := hSw
    go_simp
  try simp only [Act.put, List.setIfInBounds_toArray, List.set_cons_zero, List.set_cons_succ]
  refine wpAnyH_take (i := 11) (oi := ⟨_, _, _, _, _, _⟩) (v := .pointer (some ⟨w2.heap.size, 0, none⟩)) rfl (by kernel_rfl) (by kernel_rfl) (by kernel_rfl) (fun _ _ _ h => rw_puts (k := 37) (by decide) (by decide) h) (Or.inl ⟨wanted_free rfl, fun w' hSw => ?_⟩) hHeld ?_
  · obtain ⟨s0, s1⟩ := hSw
    go_simp
  try simp only [Act.put, List.setIfInBounds_toArray, List.set_cons_zero, List.set_cons_succ]
  refine wpAnyH_take (i := 12) (oi := ⟨_, _, _, _, _, _⟩) (v := .string t) rfl (by kernel_rfl) (by kernel_rfl) (by kernel_rfl) (fun _ _ _ h => rw_puts (k := 38) (by decide) (by decide) h) (Or.inl ⟨wanted_free rfl, fun w' hSw => ?_⟩) hHeld ?_
  · obtain ⟨s0, s1⟩ := hSw
    go_simp
  try simp only [Act.put, List.setIfInBounds_toArray, List.set_cons_zero, List.set_cons_succ]
  refine wpAnyH_take (i := 13) (oi := ⟨_, _, _, _, _, _⟩) (v := .int .i64 (t.size : Int)) rfl (by kernel_rfl) (by kernel_rfl) (by kernel_rfl) (fun _ _ _ h => rw_puts (k := 39) (by decide) (by decide) h) (Or.inl ⟨wanted_free rfl, fun w' hSw => ?_⟩) hHeld ?_
  · obtain ⟨s0, s1⟩ := hSw
    go_simp
  try simp only [Act.put, List.setIfInBounds_toArray, List.set_cons_zero, List.set_cons_succ]
  refine wpAnyH_take (i := 14) (oi := ⟨_, _, _, _, _, _⟩) (v := .bool true) rfl (by kernel_rfl) (by kernel_rfl) (by kernel_rfl) (fun _ _ _ h => rw_puts (k := 40) (by decide) (by decide) h) (Or.inl ⟨wanted_free rfl, fun w' hSw => ?_⟩) hHeld ?_
  · obtain ⟨s0, s1⟩ := hSw
    go_simp
  try simp only [Act.put, List.setIfInBounds_toArray, List.set_cons_zero, List.set_cons_succ]
  generalize w6.drew = w7 at *
  refine wpAnyH_ready (rs := [15]) (by kernel_rfl) (by simp) (AllReadyH.cons (o := ⟨_, _, _, _, _, _⟩) rfl (fun K hK => ?_) AllReadyH.nil)
  rewrite [if_pos (wanted_free rfl)]
  go_simp
  refine (mustYes _ w7).mono ?_
  rintro r w' ⟨rfl, rfl⟩
  go_wp2_with fail
  refine hK.out _ _ C7.cu (fun _ => ?_)
  clear hK K
  try simp only [Act.put, List.setIfInBounds_toArray, List.set_cons_zero, List.set_cons_succ]
  refine wpAnyH_done (by kernel_rfl) ?_ _
  clear hHeld
  go_wp2_with (first
    | (with_reducible refine wpList_loadV (w := w7) (by with_unfolding_all rfl) 59 (.tmp 6) (by with_unfolding_all rfl) w.heap.size (sgv x a n c) (by with_unfolding_all rfl) hA7 Try.undSd 2 Try.sizeSd (by with_unfolding_all rfl) ?_)
    | (with_reducible refine wpList_storeH (w := w7) (by with_unfolding_all rfl) 59 (.tmp 6) (.tmp 42) (by with_unfolding_all rfl) w.heap.size (sgv x a n c) (sgv x a n c) (by with_unfolding_all rfl) (by with_unfolding_all rfl) hA7 2 Try.sizeSd (by with_unfolding_all rfl) (by with_unfolding_all rfl) (sgv_one _ _ _ _) ?_; intro w8 hA8 hB8 hF8 hS8; have Q8 := (Only.set hB8 hF8 hS8).row S7 (i1v_ne _) (Nat.ne_of_gt z1); have OW8 := OwnSg.store OW7 hF8 z04)
    | (with_reducible refine wpList_cellH (w := w8) (by with_unfolding_all rfl) 2 (.tmp 7) (.const (.int .i64 0)) (by with_unfolding_all rfl) w1.heap.size 0 (i1v 0) (i1v 0) (.int .i64 0) (by with_unfolding_all rfl) (by with_unfolding_all rfl) rfl Try.siz1I Q8 (by simp [i1v]) (by with_unfolding_all rfl) ?_; intro w9 hA9 hB9 hF9 hS9; have Q9 := (Only.set hB9 hF9 hS9).row hA8 (sgv_ne _ _ _ _) (Nat.ne_of_lt z1); have B9 : Below w.heap.size w w9 := (B07.trans (hB8 _ (Nat.le_refl _))).trans (hB9 _ (Nat.le_of_lt z1)); have OW9 := OwnSg.store OW8 hF9 z14))
  refine leaves_cons (f := 127) (args := #[.pointer (some ⟨w.heap.size, 0, none⟩), .pointer (some ⟨w1.heap.size, 0, none⟩)]) (by simp) (by simp [go_sem]) ?_
  refine (catchRs _ _ w9).mono ?_
  rintro r u' w' ⟨rfl, rfl, rfl⟩
  exact ⟨_, results_V2 rfl _ w.heap.size (sgv x a n c) rfl Q9 Try.undSd 2 Try.sizeSd rfl w1.heap.size 0 rfl hA9 Try.underlying2, a, c, rfl, OwnSg.base OW9 (Nat.le_of_lt z04), B9⟩
end Go.Proofs.Ytnlalnkoggkdfaa
namespace Go.Proofs.Ytnlalnkoggkdfaa
open Go.RowKit
set_option linter.unusedVariables false

theorem sdI (g p : Nat) (t : ByteArray) (w : World) (hs : t.size ≤ maxLen) (hp : p ≤ t.size) (h : RowV w g (cuv t p)) :
    Calls Try.prog 90 #[.pointer (some ⟨g, 0, none⟩)] w (SdPost t g (signedO t p) w) := by
  cases hx : textO t p with
  | none => exact sdN0 g p t w hs hp _ hx (by show _ = _; unfold signedO; rw [hx]) h
  | some y =>
  obtain ⟨x, b1⟩ := y
  obtain ⟨-, l1, l2, l3⟩ := textO_some hx
  cases hc : countO t b1 16 with
  | none => exact sdN1 g p t w hs hp _ x b1 ⟨hx, hp⟩ l1 hc (by show _ = _; unfold signedO; rw [hx]; simp only; rw [hc]) h
  | some z =>
  obtain ⟨k, b2⟩ := z
  have hk : k ≤ 16 ∧ b2 ≤ t.size := by
    unfold countO at hc
    cases hn : numO t b1 with
    | none => rw [hn] at hc; cases hc
    | some u =>
      obtain ⟨n, b⟩ := u
      rw [hn] at hc
      simp only at hc
      split at hc
      · rename_i hh
        have := Option.some.inj hc
        injection this with e1 e2
        subst e2
        exact ⟨by omega, (numO_some hn).2.1⟩
      · cases hc
  exact sdMain g p t w hs hp _ x b1 b2 k ⟨hx, hp⟩ (by omega) l1 hc hk.2 hk.1 (by show _ = _; unfold signedO; rw [hx]; simp only; rw [hc]; rfl) h
theorem sigsO_le {t : ByteArray} : ∀ (m p : Nat) {l : List SigV} {q : Nat}, sigsO t m p = some (l, q) → p ≤ t.size → q ≤ t.size
  | 0, p, l, q, h, hp => by
    unfold sigsO at h
    injection h with h
    injection h with _ e
    omega
  | m + 1, p, l, q, h, hp => by
    rw [sigsO] at h
    cases h1 : numO t p with
    | none => rw [h1] at h; cases h
    | some y1 =>
    rw [h1] at h
    simp only at h
    cases h2 : numO t y1.2 with
    | none => rw [h2] at h; cases h
    | some y2 =>
    rw [h2] at h
    simp only at h
    cases h3 : numO t y2.2 with
    | none => rw [h3] at h; cases h
    | some y3 =>
    rw [h3] at h
    simp only at h
    cases h4 : sigsO t m y3.2 with
    | none => rw [h4] at h; cases h
    | some y4 =>
    rw [h4] at h
    simp only at h
    injection h with h
    injection h with _ e
    subst e
    exact sigsO_le m y3.2 h4 (numO_some (n := y3.1) (b := y3.2) h3).2.1
theorem signedO_le {t x : ByteArray} {l : List SigV} {q : Nat} (h : signedO t 1 = some (x, l, q)) : q ≤ t.size := by
  unfold signedO at h
  cases h1 : textO t 1 with
  | none => rw [h1] at h; cases h
  | some y1 =>
  rw [h1] at h
  simp only at h
  cases h2 : countO t y1.2 16 with
  | none => rw [h2] at h; cases h
  | some y2 =>
  rw [h2] at h
  simp only at h
  unfold restO at h
  cases h3 : sigsO t y2.1 y2.2 with
  | none => rw [h3] at h; cases h
  | some y3 =>
  rw [h3] at h
  simp only at h
  split at h
  · injection h with h
    injection h with _ e
    injection e with _ e
    subst e
    refine sigsO_le _ _ h3 ?_
    unfold countO at h2
    cases h4 : numO t y1.2 with
    | none => rw [h4] at h2; cases h2
    | some u =>
      rw [h4] at h2
      simp only at h2
      split at h2
      · injection h2 with h2
        rw [← h2]
        exact (numO_some (n := u.1) (b := u.2) h4).2.1
      · cases h2
  · cases h
theorem OwnSg.keep {w w' : World} {base : Nat} {v : Value} {l : List SigV} (h : OwnSg w base v l) (hb : Below w.heap.size w w') : OwnSg w' base v l := own_same h (fun k _ hl => hb.block k hl)
theorem OwnSg.new {w w3 w4 : World} {base : Nat} {v : Value} {l : List SigV} (h0 : OwnSg w base v l) (h : OwnSg w3 base v l) (hF : ∀ k, k ≠ w.heap.size → w4.heap[k]? = w3.heap[k]?) : OwnSg w4 base v l := own_same h (fun k hk _ => hF k (by have := (own_ge h0 hk).2; omega))
def SignedOk (t x : ByteArray) (l : List SigV) : Prop := FirstB t 83 ∧ ∃ q, signedO t 1 = some (x, l, q) ∧ q = t.size
def SgAns (t x : ByteArray) (l : List SigV) (c : Int) : Prop := (20000 < t.size ∧ x = ⟨#[]⟩ ∧ l = [] ∧ c = 2) ∨ (t.size ≤ 20000 ∧ SignedOk t x l ∧ c = 0) ∨ (t.size ≤ 20000 ∧ (¬ ∃ x l, SignedOk t x l) ∧ x = ⟨#[]⟩ ∧ l = [] ∧ c = 3)
theorem sgAns_one {t x x' : ByteArray} {l l' : List SigV} {c c' : Int} (h : SgAns t x l c) (h' : SgAns t x' l' c') : x = x' ∧ l = l' ∧ c = c' := by
  rcases h with ⟨h0, rfl, rfl, rfl⟩ | ⟨h0, h1, rfl⟩ | ⟨h0, h1, rfl, rfl, rfl⟩
  · rcases h' with ⟨_, rfl, rfl, rfl⟩ | ⟨k0, _⟩ | ⟨k0, _⟩
    · exact ⟨rfl, rfl, rfl⟩
    · omega
    · omega
  · rcases h' with ⟨k0, _⟩ | ⟨k0, k1, rfl⟩ | ⟨k0, k1, _⟩
    · omega
    · obtain ⟨_, q, a1, _⟩ := h1
      obtain ⟨_, q', a2, _⟩ := k1
      rw [a1] at a2
      injection a2 with a2
      injection a2 with e1 e2
      injection e2 with e2 e3
      exact ⟨e1, e2, rfl⟩
    · exact absurd ⟨_, _, h1⟩ k1
  · rcases h' with ⟨k0, _⟩ | ⟨k0, k1, rfl⟩ | ⟨k0, k1, rfl, rfl, rfl⟩
    · omega
    · exact absurd ⟨_, _, k1⟩ h1
    · exact ⟨rfl, rfl, rfl⟩
theorem ownSg_nil (w : World) (base : Nat) : OwnSg w base (.slice none 0 0) [] := ⟨rfl, .inl ⟨rfl, rfl⟩⟩
theorem rsAll (t : ByteArray) (w : World) (hs : t.size ≤ maxLen) :
    Calls Try.prog 89 #[.string t, .string ⟨#[83]⟩, .func (.func 90) #[] #[]] w fun r w' => ∃ x l a n cp c, r = .returned (.tuple #[.agg #[.string x, .slice a n cp], .int .i64 c]) ∧ SgAns t x l c ∧ OwnSg w' w.heap.size (.slice a n cp) l ∧ Below w.heap.size w w' := by
  by_cases hbig : 20000 < t.size
  · refine (rsBig t _ _ w hs hbig).mono ?_
    rintro r w' ⟨rfl, hB⟩
    exact ⟨⟨#[]⟩, [], none, 0, 0, 2, rfl, Or.inl ⟨hbig, rfl, rfl, rfl⟩, ownSg_nil _ _, hB⟩
  have hs2 : t.size ≤ 20000 := by omega
  have bad : (¬ ∃ x l, SignedOk t x l) → Calls Try.prog 89 #[.string t, .string ⟨#[83]⟩, .func (.func 90) #[] #[]] w (fun e w' => e = .returned (.tuple #[.agg #[.string ⟨#[]⟩, .slice none 0 0], .int .i64 3]) ∧ Below w.heap.size w w') → Calls Try.prog 89 #[.string t, .string ⟨#[83]⟩, .func (.func 90) #[] #[]] w (fun r w' => ∃ x l a n cp c, r = .returned (.tuple #[.agg #[.string x, .slice a n cp], .int .i64 c]) ∧ SgAns t x l c ∧ OwnSg w' w.heap.size (.slice a n cp) l ∧ Below w.heap.size w w') := fun hn hc => hc.mono (by
    rintro r w' ⟨rfl, hB⟩
    exact ⟨⟨#[]⟩, [], none, 0, 0, 3, rfl, Or.inr (Or.inr ⟨hs2, hn, rfl, rfl, rfl⟩), ownSg_nil _ _, hB⟩)
  by_cases hf : FirstB t 83
  case neg =>
    refine bad ?_ (rsPassNo t _ w hs2 (fun g w0 h0 => passNo g t 83 w0 hs hf h0))
    rintro ⟨_, _, k1, _⟩
    exact hf k1
  have hP : ∀ g w0, RowV w0 g (cuv t 0) → Calls Try.prog 128 #[.pointer (some ⟨g, 0, none⟩), .string ⟨#[83]⟩] w0 fun e w' => e = .returned (.tuple #[]) ∧ RowV w' g (cuv t 1) ∧ Only g w0 w' := fun g w0 h0 => passYes g t 83 w0 hs hf h0
  cases ho : signedO t 1 with
  | none =>
    refine bad ?_ (rsReadNo t _ w hs2 hP (fun g w0 h0 => ?_))
    · rintro ⟨_, _, _, q, k1, _⟩
      rw [ho] at k1; cases k1
    · refine (sdI g 1 t w0 hs hf.1 h0).mono ?_
      rintro r w' (⟨x, l, q, v, e1, _⟩ | ⟨_, e2, e3⟩)
      · rw [ho] at e1; cases e1
      · exact ⟨e2, e3⟩
  | some y =>
  obtain ⟨x, l, q⟩ := y
  have hY : ∀ g w0, RowV w0 g (cuv t 1) → Calls Try.prog 90 #[.pointer (some ⟨g, 0, none⟩)] w0 fun r w' => ∃ a c, r = .returned (.agg #[.string x, .slice a l.length c]) ∧ RowV w' g (cuv t q) ∧ Only g w0 w' ∧ OwnSg w' w0.heap.size (.slice a l.length c) l := fun g w0 h0 => by
    refine (sdI g 1 t w0 hs hf.1 h0).mono ?_
    rintro r w' (⟨x', l', q', v, e1, e2, e3, e4, e5⟩ | ⟨e1, _⟩)
    · rw [ho] at e1
      injection e1 with e1
      injection e1 with f1 f2
      injection f2 with f2 f3
      subst f1 f2 f3
      obtain ⟨a, c, rfl, _⟩ := e5.form
      exact ⟨a, c, e2, e3, e4, e5⟩
    · rw [ho] at e1; cases e1
  by_cases hq : q = t.size
  · refine (rsYes t _ w hs2 hP x l.length l q hY hq).mono ?_
    rintro r w' ⟨a, c, rfl, hO, hB⟩
    exact ⟨x, l, a, l.length, c, 0, rfl, Or.inr (Or.inl ⟨hs2, ⟨hf, q, ho, hq⟩, rfl⟩), hO, hB⟩
  · by_cases hql : q ≤ t.size
    · refine bad ?_ (rsEndNo t _ w hs2 hP x l.length l q hY hql hq)
      rintro ⟨_, _, _, q', k1, k2⟩
      rw [ho] at k1
      injection k1 with k1
      injection k1 with _ f2
      injection f2 with _ f3
      subst f3
      exact hq k2
    · exact absurd (signedO_le ho) hql
def sov (x : ByteArray) (a : Option Addr) (n cp : Nat) (c : Int) : List Value := [.string x, .slice a n cp, .int .i64 c]
theorem sov_ne (x : ByteArray) (a : Option Addr) (n cp : Nat) (c : Int) : sov x a n cp c ≠ [] := by simp [sov]
theorem sov_one (x : ByteArray) (a : Option Addr) (n cp : Nat) (c : Int) : ∀ y ∈ sov x a n cp c, y.oneCell' = true := by
  intro y hy
  simp [sov] at hy
  rcases hy with h | h | h <;> (rw [h]; rfl)
theorem RowV.so {w : World} {g : Nat} {x : ByteArray} {a : Option Addr} {n cp : Nat} {c : Int} (h : RowV w g (sov x a n cp c)) : w.cell? ⟨g, 0, none⟩ = some (.string x) ∧ w.cell? ⟨g, 1, none⟩ = some (.slice a n cp) ∧ w.cell? ⟨g, 2, none⟩ = some (.int .i64 c) := ⟨h.cell (k := 0) rfl, h.cell (k := 1) rfl, h.cell (k := 2) rfl⟩
theorem Try.infoSo : (Try.prog.info? 66).map (fun i => i.zero) = some (some (.agg (sov ⟨#[]⟩ none 0 0 0).toArray)) := by kernel_rfl
theorem Try.undSo : ∃ d, Try.prog.underlying 66 = some d ∧ d.isRow = true := ⟨_, Try.underlying66, rfl⟩
theorem Try.sizeSo : (Try.prog.info? 66).map (·.size) = some 3 := by kernel_rfl
set_option maxRecDepth 100000 in
set_option maxHeartbeats 1000000 in
theorem implSignedRd (t : ByteArray) (w : World) (hs : t.size ≤ maxLen) :
    Calls Try.prog 37 #[.string t] w fun r w' => ∃ x l a n cp c, r = .returned (.agg #[.string x, .slice a n cp, .int .i64 c]) ∧ SgAns t x l c ∧ OwnSg w' w.heap.size (.slice a n cp) l ∧ Below w.heap.size w w' := by
  have hR : ∀ w0, Calls Try.prog 89 #[.string t, .string ⟨#[83]⟩, .func (.func 90) #[] #[]] w0 fun r w' => ∃ x l a n cp c, r = .returned (.tuple #[.agg #[.string x, .slice a n cp], .int .i64 c]) ∧ SgAns t x l c ∧ OwnSg w' w0.heap.size (.slice a n cp) l ∧ Below w0.heap.size w0 w' := fun w0 => rsAll t w0 hs
  go_enter Try.func37, Try.ntmps37
  go_wp2_with (first
    | (with_reducible refine wpList_allocV (w := w) (by with_unfolding_all rfl) 66 (by with_unfolding_all rfl) (sov ⟨#[]⟩ none 0 0 0) Try.infoSo ?_; intro w1 hA1 hB1 hS1; have z1 : w.heap.size < w1.heap.size := (by omega); clear hS1)
    | (go_at_call 89; with_reducible refine (hR w1).mono ?_; rintro r w2 ⟨x, l, a, n, cp, c, rfl, hAn, hO2, hB2⟩; have HAn := hidP hAn; clear hAn; have R2 := hA1.below hB2 z1; have B2 : Below w.heap.size w w2 := hB1.trans (hB2.mono (Nat.le_of_lt z1)))
    | (with_reducible refine wpList_allocV (w := w2) (by with_unfolding_all rfl) 59 (by with_unfolding_all rfl) (sgv ⟨#[]⟩ none 0 0) Try.infoSd ?_; intro w3 hA3 hB3 hS3; clear hS3; have R3 := R2.below hB3 (R2.lt (sov_ne _ _ _ _ _)); have O3 := OwnSg.keep hO2 hB3)
    | (with_reducible refine wpList_storeH (w := w3) (by with_unfolding_all rfl) 59 (.tmp 3) (.tmp 8) (by with_unfolding_all rfl) w2.heap.size (sgv ⟨#[]⟩ none 0 0) (sgv x a n cp) (by with_unfolding_all rfl) (by with_unfolding_all rfl) hA3 2 Try.sizeSd (by with_unfolding_all rfl) (by with_unfolding_all rfl) (sgv_one _ _ _ _) ?_; intro w4 hA4 hB4 hF4 hS4; have R4 := (Only.set hB4 hF4 hS4).row R3 (sov_ne _ _ _ _ _) (Nat.ne_of_lt (R2.lt (sov_ne _ _ _ _ _))); have O4 := OwnSg.new hO2 O3 hF4; have B4 : Below w.heap.size w w4 := (B2.trans (hB3.mono B2.size)).trans (hB4 _ B2.size); obtain ⟨p0, p1⟩ := hA4.sg)
    | (with_reducible refine wpList_storeH (w := w4) (by with_unfolding_all rfl) 66 (.tmp 2) (.tmp 12) (by with_unfolding_all rfl) w.heap.size (sov ⟨#[]⟩ none 0 0 0) (sov x a n cp c) (by with_unfolding_all rfl) (by with_unfolding_all rfl) R4 3 Try.sizeSo (by with_unfolding_all rfl) (by with_unfolding_all rfl) (sov_one _ _ _ _ _) ?_; intro w5 hA5 hB5 hF5 hS5; have O5 := OwnSg.store O4 hF5 z1; have B5 : Below w.heap.size w w5 := B4.trans (hB5 _ (Nat.le_refl _))))
  exact bodyPost_ret (results_V (t := 66) rfl _ w.heap.size _ rfl hA5 Try.undSo 3 Try.sizeSo rfl) rfl ⟨x, l, a, n, cp, c, rfl, HAn.out, OwnSg.base O5 (Nat.le_of_lt z1), B5⟩
end Go.Proofs.Ytnlalnkoggkdfaa
