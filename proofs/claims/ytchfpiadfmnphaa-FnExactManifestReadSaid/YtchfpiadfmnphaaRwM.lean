/- readWhole of a Manifest, on the program's side, whatever was made for it. -/
import Derived.Test.YtchfpiadfmnphaaRwL
import Derived.Test.YtchfpiadfmnphaaStaL
import Derived.Test.YtchfpiadfmnphaaTy
namespace Go.Proofs.Ytchfpiadfmnphaa
open Go.RowKit
set_option linter.unusedVariables false

abbrev zm : List Value := [.string ⟨#[]⟩, .slice none 0 0, .slice none 0 0]
theorem zm_ne : zm ≠ [] := by simp
theorem zm_one : ∀ v ∈ zm, v.oneCell' = true := List.all_eq_true.1 (by decide)
set_option maxRecDepth 100000 in
set_option maxHeartbeats 1000000 in
theorem catchPm (G6 G7 : Nat) (l : List Value) (hl : l.length = 3) (c : Int) (w : World) (hne : G6 ≠ G7) (h6 : RowV w G6 l) (h7 : RowV w G7 (i1v c)) :
    CallsD Try.prog 106 #[.pointer (some ⟨G6, 0, none⟩), .pointer (some ⟨G7, 0, none⟩)] (.panicking [{ v := faultV, recovered := false }]) w fun e u' w' =>
      e = .returned (.tuple #[]) ∧ u' = .panicking [{ v := faultV, recovered := true }] ∧ RowV w' G6 zm ∧ RowV w' G7 (i1v 3) ∧ ∀ B, B ≤ G6 → B ≤ G7 → Below B w w' := by
  refine callsD_of_wpS Try.func106 rfl fun c₀ cs hu => ?_
  apply wpS_seq
  apply wpS_region
  simp [wpOpsS, go_sem, recoverD, hu, Try.ntmps106, Exit.thenS]
  refine wpS_cond (t := true) (by simp [Act.eval, Array.replicate]) ?_
  simp only [if_true]
  refine wpS_of_wp ?_
  have hact : (#[Value.pointer (some { block := G6, off := 0 }), Value.pointer (some { block := G7, off := 0 })] ++ ((Array.replicate 4 undef).setIfInBounds 1 faultV).setIfInBounds 2 (Value.bool true) : Array Value) = #[.pointer (some ⟨G6, 0, none⟩), .pointer (some ⟨G7, 0, none⟩), undef, faultV, .bool true, undef] := rfl
  rw [hact]
  clear hact
  have z6 := h6.lt (show l ≠ [] from fun e => by rw [e] at hl; cases hl)
  have z7 := h7.lt (i1v_ne _)
  go_wp2_with (first
    | (with_reducible refine wpList_allocV (w := w) (by with_unfolding_all rfl) 31 (by with_unfolding_all rfl) zm Try.zT_implManifest ?_; intro w1 hA1 hB1 hS1; clear hS1; have R6 := h6.below hB1 z6; have R7 := h7.below hB1 z7)
    | (with_reducible refine wpList_loadV (w := w1) (by with_unfolding_all rfl) 31 (.tmp 2) (by with_unfolding_all rfl) w.heap.size zm (by with_unfolding_all rfl) hA1 Try.uT_implManifest 3 Try.sT_implManifest (by with_unfolding_all rfl) ?_)
    | (with_reducible refine wpList_storeH (w := w1) (by with_unfolding_all rfl) 31 (.tmp 0) (.tmp 5) (by with_unfolding_all rfl) G6 l zm (by with_unfolding_all rfl) (by with_unfolding_all rfl) R6 3 Try.sT_implManifest hl rfl zm_one ?_; intro w2 hA2 hB2 hF2 hS2; have Q7 := (Only.set hB2 hF2 hS2).row R7 (i1v_ne _) (Ne.symm hne))
    | (with_reducible refine wpList_cellH (w := w2) (by with_unfolding_all rfl) 2 (.tmp 1) (.const (.int .i64 3)) (by with_unfolding_all rfl) G7 0 (i1v c) (i1v 3) (.int .i64 3) (by with_unfolding_all rfl) (by with_unfolding_all rfl) rfl Try.siz1I Q7 (by simp [i1v]) (by with_unfolding_all rfl) ?_; intro w3 hA3 hB3 hF3 hS3; have Q6 := (Only.set hB3 hF3 hS3).row hA2 zm_ne hne; have HB : ∀ B, B ≤ G6 → B ≤ G7 → Below B w w3 := fun B b1 b2 => ((hB1.mono (Nat.le_trans b1 (Nat.le_of_lt z6))).trans (hB2 B b1)).trans (hB3 B b2)))
  simp [bodyPostS, results, Try.results106]
  exact ⟨Q6, hA3, HB⟩
set_option maxRecDepth 100000 in
theorem catchRm (x y : Option Addr) (w : World) :
    CallsD Try.prog 106 #[.pointer x, .pointer y] .returning w fun e u' w' => e = .returned (.tuple #[]) ∧ u' = .returning ∧ w = w' := by
  refine callsD_of_wpS Try.func106 rfl fun c₀ cs hu => ?_
  apply wpS_seq
  apply wpS_region
  simp [wpOpsS, go_sem, recoverD, hu, Try.ntmps106, Exit.thenS]
  refine wpS_cond (t := false) (by simp [Act.eval, Array.replicate]) ?_
  simp only [Bool.false_eq_true, if_false]
  refine wpS_of_wp (wp_skip ?_)
  cases c₀
  simp_all [bodyPostS, results, Try.results106]
theorem rw_putm {R : Ending → World → Prop} {c : List PanicEntry} {a : Act} {k : Nat} {v : Value} {w : World} (h6 : k ≠ 6) (h7 : k ≠ 7) (h : bodyPostD Try.prog Try.f56 R (.panic c) (a.put (some k) v) w) : bodyPostD Try.prog Try.f56 R (.panic c) a w := by
  refine leaves_tmps ?_ _ _ _ h
  simp [results, Try.results56, Act.put, Array.getElem?_setIfInBounds_ne h6, Array.getElem?_setIfInBounds_ne h7]
set_option maxRecDepth 100000 in
set_option maxHeartbeats 1000000 in
theorem rmBig (t m : ByteArray) (f : Value) (w : World) (hs : t.size ≤ maxLen) (hb : 20000 < t.size) :
    Calls Try.prog 56 #[.string t, .string m, f] w fun e w' => e = .returned (.tuple #[.agg #[.string ⟨#[]⟩, .slice none 0 0, .slice none 0 0], .int .i64 2]) ∧ Below w.heap.size w w' := by
  unfold maxLen at hs
  have d1 : decide ((20000 : Int) < (t.size : Int)) = true := decide_eq_true (by omega)
  go_enter_defers Try.func56, Try.ntmps56
  go_wp2_with (first
    | (with_reducible refine wpList_allocV (w := w) (by with_unfolding_all rfl) 31 (by with_unfolding_all rfl) zm Try.zT_implManifest ?_; intro w1 hA1 hB1 hS1; have z1 : w.heap.size < w1.heap.size := (by omega); clear hS1)
    | (with_reducible refine wpList_alloc1 (w := w1) (by with_unfolding_all rfl) 2 (by with_unfolding_all rfl) 0 Try.zeroI ?_; intro w2 hA2 hB2 hS2; clear hS2; have R2 := hA1.below hB2 z1)
    | (with_reducible refine wpList_loadV (w := w2) (by with_unfolding_all rfl) 31 (.tmp 6) (by with_unfolding_all rfl) w.heap.size zm (by with_unfolding_all rfl) R2 Try.uT_implManifest 3 Try.sT_implManifest (by with_unfolding_all rfl) ?_)
    | (with_reducible refine wpList_storeH (w := w2) (by with_unfolding_all rfl) 31 (.tmp 6) (.tmp 12) (by with_unfolding_all rfl) w.heap.size zm zm (by with_unfolding_all rfl) (by with_unfolding_all rfl) R2 3 Try.sT_implManifest rfl rfl zm_one ?_; intro w3 hA3 hB3 hF3 hS3; have Q3 := (Only.set hB3 hF3 hS3).row hA2 (i1v_ne _) (Nat.ne_of_gt z1))
    | (with_reducible refine wpList_cellH (w := w3) (by with_unfolding_all rfl) 2 (.tmp 7) (.const (.int .i64 2)) (by with_unfolding_all rfl) w1.heap.size 0 (i1v 0) (i1v 2) (.int .i64 2) (by with_unfolding_all rfl) (by with_unfolding_all rfl) rfl Try.siz1I Q3 (by simp [i1v]) (by with_unfolding_all rfl) ?_; intro w4 hA4 hB4 hF4 hS4; have Q4 := (Only.set hB4 hF4 hS4).row hA3 zm_ne (Nat.ne_of_lt z1); have B4 : Below w.heap.size w w4 := ((hB1.trans (hB2.mono (Nat.le_of_lt z1))).trans (hB3 _ (Nat.le_refl _))).trans (hB4 _ (Nat.le_of_lt z1))))
  exact ⟨_, results_V2 rfl _ w.heap.size zm rfl Q4 Try.uT_implManifest 3 Try.sT_implManifest rfl w1.heap.size 2 rfl hA4 Try.underlying2, rfl, B4⟩
set_option maxRecDepth 100000 in
set_option maxHeartbeats 1000000 in
theorem rmPassNo (t m : ByteArray) (w : World) (hs : t.size ≤ 20000) (hP : ∀ g w0, RowV w0 g (cuv t 0) → Calls Try.prog 107 #[.pointer (some ⟨g, 0, none⟩), .string m] w0 fun e w' => e = .panicked [{ v := faultV, recovered := false }] ∧ Only g w0 w') :
    Calls Try.prog 56 #[.string t, .string m, .func (.func 57) #[] #[]] w fun e w' => e = .returned (.tuple #[.agg #[.string ⟨#[]⟩, .slice none 0 0, .slice none 0 0], .int .i64 3]) ∧ Below w.heap.size w w' := by
  have d1 : decide ((20000 : Int) < (t.size : Int)) = false := decide_eq_false (by omega)
  have hmf : ∀ (fn : Fn) (first cap : Array Value) (w : World), (Instr.makeFunc fn first cap).run Try.prog w = .ok (.func fn first cap) w := fun _ _ _ _ => rfl
  go_enter_defers Try.func56, Try.ntmps56
  go_wp2_with (first
    | (with_reducible refine wpList_allocV (w := w) (by with_unfolding_all rfl) 31 (by with_unfolding_all rfl) zm Try.zT_implManifest ?_; intro w1 hA1 hB1 hS1; have z1 : w.heap.size < w1.heap.size := (by omega); clear hS1)
    | (with_reducible refine wpList_alloc1 (w := w1) (by with_unfolding_all rfl) 2 (by with_unfolding_all rfl) 0 Try.zeroI ?_; intro w2 hA2 hB2 hS2; have z2 : w1.heap.size < w2.heap.size := (by omega); clear hS2; have R2 := hA1.below hB2 z1; have B02 : Below w.heap.size w w2 := hB1.trans (hB2.mono (Nat.le_of_lt z1)))
    | (with_reducible refine wpList_boxV (w := w2) (by with_unfolding_all rfl) 137 (.tmp 16) (by with_unfolding_all rfl) (cuv t 0) (by with_unfolding_all rfl) ?_; intro w3 hA3 hB3 hS3; clear hS3; have R3 := R2.below hB3 (Nat.lt_trans z1 z2); have S3 := hA2.below hB3 z2; have B03 : Below w.heap.size w w3 := B02.trans (hB3.mono (Nat.le_of_lt (Nat.lt_trans z1 z2))); obtain ⟨c0, c1⟩ := hA3.cu)
    | (go_at_call 107; with_reducible refine (hP _ w3 hA3).mono ?_; rintro r w4 ⟨rfl, hO4⟩; have R4 := hO4.row R3 zm_ne (Nat.ne_of_lt (Nat.lt_trans z1 z2)); have S4 := hO4.row S3 (i1v_ne _) (Nat.ne_of_lt z2); have B04 : Below w.heap.size w w4 := B03.trans (hO4.bel (Nat.le_of_lt (Nat.lt_trans z1 z2)))))
  refine leaves_cons (f := 106) (args := #[.pointer (some ⟨w.heap.size, 0, none⟩), .pointer (some ⟨w1.heap.size, 0, none⟩)]) (by simp) (by simp [go_sem]) ?_
  refine (catchPm w.heap.size w1.heap.size zm rfl 0 w4 (Nat.ne_of_lt z1) R4 S4).mono ?_
  rintro e u' w9 ⟨rfl, rfl, q6, q7, qB⟩
  exact ⟨_, results_V2 rfl _ w.heap.size zm rfl q6 Try.uT_implManifest 3 Try.sT_implManifest rfl w1.heap.size 3 rfl q7 Try.underlying2, rfl, B04.trans (qB _ (Nat.le_refl _) (Nat.le_of_lt z1))⟩
set_option maxRecDepth 100000 in
set_option maxHeartbeats 1000000 in
theorem rmReadNo (t m : ByteArray) (w : World) (hs : t.size ≤ 20000) (hP : ∀ g w0, RowV w0 g (cuv t 0) → Calls Try.prog 107 #[.pointer (some ⟨g, 0, none⟩), .string m] w0 fun e w' => e = .returned (.tuple #[]) ∧ RowV w' g (cuv t 1) ∧ Only g w0 w') (hK : ∀ g w0, RowV w0 g (cuv t 1) → Calls Try.prog 57 #[.pointer (some ⟨g, 0, none⟩)] w0 fun e w' => e = .panicked [{ v := faultV, recovered := false }] ∧ Only g w0 w') :
    Calls Try.prog 56 #[.string t, .string m, .func (.func 57) #[] #[]] w fun e w' => e = .returned (.tuple #[.agg #[.string ⟨#[]⟩, .slice none 0 0, .slice none 0 0], .int .i64 3]) ∧ Below w.heap.size w w' := by
  have d1 : decide ((20000 : Int) < (t.size : Int)) = false := decide_eq_false (by omega)
  have hmf : ∀ (fn : Fn) (first cap : Array Value) (w : World), (Instr.makeFunc fn first cap).run Try.prog w = .ok (.func fn first cap) w := fun _ _ _ _ => rfl
  go_enter_defers Try.func56, Try.ntmps56
  go_wp2_with (first
    | (with_reducible refine wpList_allocV (w := w) (by with_unfolding_all rfl) 31 (by with_unfolding_all rfl) zm Try.zT_implManifest ?_; intro w1 hA1 hB1 hS1; have z1 : w.heap.size < w1.heap.size := (by omega); clear hS1)
    | (with_reducible refine wpList_alloc1 (w := w1) (by with_unfolding_all rfl) 2 (by with_unfolding_all rfl) 0 Try.zeroI ?_; intro w2 hA2 hB2 hS2; have z2 : w1.heap.size < w2.heap.size := (by omega); clear hS2; have R2 := hA1.below hB2 z1; have B02 : Below w.heap.size w w2 := hB1.trans (hB2.mono (Nat.le_of_lt z1)))
    | (with_reducible refine wpList_boxV (w := w2) (by with_unfolding_all rfl) 137 (.tmp 16) (by with_unfolding_all rfl) (cuv t 0) (by with_unfolding_all rfl) ?_; intro w3 hA3 hB3 hS3; clear hS3; have R3 := R2.below hB3 (Nat.lt_trans z1 z2); have S3 := hA2.below hB3 z2; have B03 : Below w.heap.size w w3 := B02.trans (hB3.mono (Nat.le_of_lt (Nat.lt_trans z1 z2))); obtain ⟨c0, c1⟩ := hA3.cu)
    | (go_at_call 107; with_reducible refine (hP _ w3 hA3).mono ?_; rintro r w4 ⟨rfl, hA4, hO4⟩; have R4 := hO4.row R3 zm_ne (Nat.ne_of_lt (Nat.lt_trans z1 z2)); have S4 := hO4.row S3 (i1v_ne _) (Nat.ne_of_lt z2); have B04 : Below w.heap.size w w4 := B03.trans (hO4.bel (Nat.le_of_lt (Nat.lt_trans z1 z2))); have z04 := Nat.lt_of_lt_of_le (Nat.lt_trans z1 z2) (Nat.le_trans hB3.size hO4.size); have z14 := Nat.lt_of_lt_of_le z2 (Nat.le_trans hB3.size hO4.size); clear c0 c1)
    | (go_at_call 57; with_reducible refine (hK _ w4 hA4).mono ?_; rintro r w5 ⟨rfl, hO5⟩; have R5 := hO5.row R4 zm_ne (Nat.ne_of_lt (Nat.lt_trans z1 z2)); have S5 := hO5.row S4 (i1v_ne _) (Nat.ne_of_lt z2); have B05 : Below w.heap.size w w5 := B04.trans (hO5.bel (Nat.le_of_lt (Nat.lt_trans z1 z2)))))
  refine leaves_cons (f := 106) (args := #[.pointer (some ⟨w.heap.size, 0, none⟩), .pointer (some ⟨w1.heap.size, 0, none⟩)]) (by simp) (by simp [go_sem]) ?_
  refine (catchPm w.heap.size w1.heap.size zm rfl 0 w5 (Nat.ne_of_lt z1) R5 S5).mono ?_
  rintro e u' w9 ⟨rfl, rfl, q6, q7, qB⟩
  exact ⟨_, results_V2 rfl _ w.heap.size zm rfl q6 Try.uT_implManifest 3 Try.sT_implManifest rfl w1.heap.size 3 rfl q7 Try.underlying2, rfl, B05.trans (qB _ (Nat.le_refl _) (Nat.le_of_lt z1))⟩
set_option maxRecDepth 100000 in
set_option maxHeartbeats 1000000 in
theorem rmEndNo (t m : ByteArray) (w : World) (hs : t.size ≤ 20000) (hP : ∀ g w0, RowV w0 g (cuv t 0) → Calls Try.prog 107 #[.pointer (some ⟨g, 0, none⟩), .string m] w0 fun e w' => e = .returned (.tuple #[]) ∧ RowV w' g (cuv t 1) ∧ Only g w0 w') (Q : List Value → World → Prop) (F : List Value → Nat → Nat → Prop) (hM : ∀ L a b c d, F L a b → c ≤ a → b ≤ d → F L c d) (b : Nat) (hK : ∀ g w0, RowV w0 g (cuv t 1) → Calls Try.prog 57 #[.pointer (some ⟨g, 0, none⟩)] w0 fun r w' => ∃ L, r = .returned (.agg L.toArray) ∧ L.length = 3 ∧ L.all Value.oneCell' = true ∧ F L w0.heap.size w'.heap.size ∧ RowV w' g (cuv t b) ∧ Only g w0 w' ∧ Made w0 w' (Q L)) (hb : b ≤ t.size) (hne : ¬ b = t.size) :
    Calls Try.prog 56 #[.string t, .string m, .func (.func 57) #[] #[]] w fun e w' => e = .returned (.tuple #[.agg #[.string ⟨#[]⟩, .slice none 0 0, .slice none 0 0], .int .i64 3]) ∧ Below w.heap.size w w' := by
  have e1 : ((b : Int) == (t.size : Int)) = false := beq_eq_false_iff_ne.2 (by omega)
  have e2 : (b == t.size) = false := beq_eq_false_iff_ne.2 hne
  have d1 : decide ((20000 : Int) < (t.size : Int)) = false := decide_eq_false (by omega)
  have hmf : ∀ (fn : Fn) (first cap : Array Value) (w : World), (Instr.makeFunc fn first cap).run Try.prog w = .ok (.func fn first cap) w := fun _ _ _ _ => rfl
  go_enter_defers Try.func56, Try.ntmps56
  go_wp2_with (first
    | (with_reducible refine wpList_allocV (w := w) (by with_unfolding_all rfl) 31 (by with_unfolding_all rfl) zm Try.zT_implManifest ?_; intro w1 hA1 hB1 hS1; have z1 : w.heap.size < w1.heap.size := (by omega); clear hS1)
    | (with_reducible refine wpList_alloc1 (w := w1) (by with_unfolding_all rfl) 2 (by with_unfolding_all rfl) 0 Try.zeroI ?_; intro w2 hA2 hB2 hS2; have z2 : w1.heap.size < w2.heap.size := (by omega); clear hS2; have R2 := hA1.below hB2 z1; have B02 : Below w.heap.size w w2 := hB1.trans (hB2.mono (Nat.le_of_lt z1)))
    | (with_reducible refine wpList_boxV (w := w2) (by with_unfolding_all rfl) 137 (.tmp 16) (by with_unfolding_all rfl) (cuv t 0) (by with_unfolding_all rfl) ?_; intro w3 hA3 hB3 hS3; clear hS3; have R3 := R2.below hB3 (Nat.lt_trans z1 z2); have S3 := hA2.below hB3 z2; have B03 : Below w.heap.size w w3 := B02.trans (hB3.mono (Nat.le_of_lt (Nat.lt_trans z1 z2))); obtain ⟨c0, c1⟩ := hA3.cu)
    | (go_at_call 107; with_reducible refine (hP _ w3 hA3).mono ?_; rintro r w4 ⟨rfl, hA4, hO4⟩; have R4 := hO4.row R3 zm_ne (Nat.ne_of_lt (Nat.lt_trans z1 z2)); have S4 := hO4.row S3 (i1v_ne _) (Nat.ne_of_lt z2); have B04 : Below w.heap.size w w4 := B03.trans (hO4.bel (Nat.le_of_lt (Nat.lt_trans z1 z2))); have z04 := Nat.lt_of_lt_of_le (Nat.lt_trans z1 z2) (Nat.le_trans hB3.size hO4.size); have z14 := Nat.lt_of_lt_of_le z2 (Nat.le_trans hB3.size hO4.size); clear c0 c1)
    | (go_at_call 57; with_reducible refine (hK _ w4 hA4).mono ?_; rintro r w5 ⟨L, rfl, hL1, hL2, hF5, hA5, hO5, hW5⟩; have nL : L ≠ [] := (fun e => absurd (congrArg List.length e) (by rw [hL1]; decide)); have R5 := hO5.row R4 zm_ne (Nat.ne_of_lt (Nat.lt_trans z1 z2)); have S5 := hO5.row S4 (i1v_ne _) (Nat.ne_of_lt z2); have B05 : Below w.heap.size w w5 := B04.trans (hO5.bel (Nat.le_of_lt (Nat.lt_trans z1 z2))))
    | (with_reducible refine wpList_storeH (w := w5) (by with_unfolding_all rfl) 31 (.tmp 6) (.tmp 25) (by with_unfolding_all rfl) w.heap.size zm L (by with_unfolding_all rfl) (by with_unfolding_all rfl) R5 3 Try.sT_implManifest rfl hL1 (List.all_eq_true.1 hL2) ?_; intro w6 hA6 hB6 hF6 hS6; have S6 := (Only.set hB6 hF6 hS6).row S5 (i1v_ne _) (Nat.ne_of_gt z1); have C6 := (Only.set hB6 hF6 hS6).row hA5 (cuv_ne _ _) (Nat.ne_of_gt (Nat.lt_trans z1 z2)); have B06 : Below w.heap.size w w6 := B05.trans (hB6 _ (Nat.le_refl _)); have OW6 := Kee.step (Kee.of hW5) (Only.set hB6 hF6 hS6) z04; have Z6 := (Only.set hB6 hF6 hS6).size))
  have hA7 := hA6.drew
  have OW7 := Kee.drew OW6
  have Z7 : w5.heap.size ≤ w6.drew.heap.size := Z6
  clear OW6 Z6
  have S7 := S6.drew
  have C7 := C6.drew
  have B07 := B06.drew
  refine wp_region_held_drew (S := fun w' => w'.cell? ⟨w2.heap.size, 0, none⟩ = some (.string t) ∧ w'.cell? ⟨w2.heap.size, 1, none⟩ = some (.int .i64 (b : Int))) (by kernel_rfl) C7.cu (fun hHeld => ?_)
  refine wpAnyH_take (i := 0) (oi := ⟨_, _, _, _, _, _⟩) (v := .pointer (some ⟨w2.heap.size, 0, none⟩)) rfl (by kernel_rfl) (by kernel_rfl) (by kernel_rfl) (fun _ _ _ h => rw_putm (k := 26) (by decide) (by decide) h) (Or.inl ⟨wanted_free rfl, fun w' hSw => ?_⟩) hHeld ?_
  · obtain ⟨s0, s1⟩ := hSw
    go_simp
  try simp only [Act.put, List.setIfInBounds_toArray, List.set_cons_zero, List.set_cons_succ]
  refine wpAnyH_take (i := 1) (oi := ⟨_, _, _, _, _, _⟩) (v := .pointer (some ⟨w2.heap.size, 0, none⟩)) rfl (by kernel_rfl) (by kernel_rfl) (by kernel_rfl) (fun _ _ _ h => rw_putm (k := 27) (by decide) (by decide) h) (Or.inl ⟨wanted_free rfl, fun w' hSw => ?_⟩) hHeld ?_
  · obtain ⟨s0, s1⟩ := hSw
    go_simp
  try simp only [Act.put, List.setIfInBounds_toArray, List.set_cons_zero, List.set_cons_succ]
  refine wpAnyH_take (i := 2) (oi := ⟨_, _, _, _, _, _⟩) (v := .pointer (some ⟨w2.heap.size, 0, none⟩)) rfl (by kernel_rfl) (by kernel_rfl) (by kernel_rfl) (fun _ _ _ h => rw_putm (k := 28) (by decide) (by decide) h) (Or.inl ⟨wanted_free rfl, fun w' hSw => ?_⟩) hHeld ?_
  · obtain ⟨s0, s1⟩ := hSw
    go_simp
  try simp only [Act.put, List.setIfInBounds_toArray, List.set_cons_zero, List.set_cons_succ]
  refine wpAnyH_take (i := 3) (oi := ⟨_, _, _, _, _, _⟩) (v := .pointer (some ⟨w2.heap.size, 0, none⟩)) rfl (by kernel_rfl) (by kernel_rfl) (by kernel_rfl) (fun _ _ _ h => rw_putm (k := 29) (by decide) (by decide) h) (Or.inl ⟨wanted_free rfl, fun w' hSw => ?_⟩) hHeld ?_
  · obtain ⟨s0, s1⟩ := hSw
    go_simp
  try simp only [Act.put, List.setIfInBounds_toArray, List.set_cons_zero, List.set_cons_succ]
  refine wpAnyH_take (i := 4) (oi := ⟨_, _, _, _, _, _⟩) (v := .pointer (some ⟨w2.heap.size, 0, none⟩)) rfl (by kernel_rfl) (by kernel_rfl) (by kernel_rfl) (fun _ _ _ h => rw_putm (k := 30) (by decide) (by decide) h) (Or.inl ⟨wanted_free rfl, fun w' hSw => ?_⟩) hHeld ?_
  · obtain ⟨s0, s1⟩ := hSw
    go_simp
  try simp only [Act.put, List.setIfInBounds_toArray, List.set_cons_zero, List.set_cons_succ]
  refine wpAnyH_take (i := 5) (oi := ⟨_, _, _, _, _, _⟩) (v := .pointer (some ⟨w2.heap.size, 0, none⟩)) rfl (by kernel_rfl) (by kernel_rfl) (by kernel_rfl) (fun _ _ _ h => rw_putm (k := 31) (by decide) (by decide) h) (Or.inl ⟨wanted_free rfl, fun w' hSw => ?_⟩) hHeld ?_
  · obtain ⟨s0, s1⟩ := hSw
    go_simp
  try simp only [Act.put, List.setIfInBounds_toArray, List.set_cons_zero, List.set_cons_succ]
  refine wpAnyH_take (i := 6) (oi := ⟨_, _, _, _, _, _⟩) (v := .pointer (some ⟨w2.heap.size, 1, none⟩)) rfl (by kernel_rfl) (by kernel_rfl) (by kernel_rfl) (fun _ _ _ h => rw_putm (k := 32) (by decide) (by decide) h) (Or.inl ⟨wanted_free rfl, fun w' hSw => ?_⟩) hHeld ?_
  · obtain ⟨s0, s1⟩ := hSw
    go_simp
  try simp only [Act.put, List.setIfInBounds_toArray, List.set_cons_zero, List.set_cons_succ]
  refine wpAnyH_take (i := 7) (oi := ⟨_, _, _, _, _, _⟩) (v := .int .i64 (b : Int)) rfl (by kernel_rfl) (by kernel_rfl) (by kernel_rfl) (fun _ _ _ h => rw_putm (k := 33) (by decide) (by decide) h) (Or.inl ⟨wanted_free rfl, fun w' hSw => ?_⟩) hHeld ?_
  · obtain ⟨s0, s1⟩ := hSw
    go_simp
  try simp only [Act.put, List.setIfInBounds_toArray, List.set_cons_zero, List.set_cons_succ]
  refine wpAnyH_take (i := 8) (oi := ⟨_, _, _, _, _, _⟩) (v := .pointer (some ⟨w2.heap.size, 0, none⟩)) rfl (by kernel_rfl) (by kernel_rfl) (by kernel_rfl) (fun _ _ _ h => rw_putm (k := 34) (by decide) (by decide) h) (Or.inl ⟨wanted_free rfl, fun w' hSw => ?_⟩) hHeld ?_
  · obtain ⟨s0, s1⟩ := hSw
    go_simp
  try simp only [Act.put, List.setIfInBounds_toArray, List.set_cons_zero, List.set_cons_succ]
  refine wpAnyH_take (i := 9) (oi := ⟨_, _, _, _, _, _⟩) (v := .pointer (some ⟨w2.heap.size, 0, none⟩)) rfl (by kernel_rfl) (by kernel_rfl) (by kernel_rfl) (fun _ _ _ h => rw_putm (k := 35) (by decide) (by decide) h) (Or.inl ⟨wanted_free rfl, fun w' hSw => ?_⟩) hHeld ?_
  · obtain ⟨s0, s1⟩ := hSw
    go_simp
  try simp only [Act.put, List.setIfInBounds_toArray, List.set_cons_zero, List.set_cons_succ]
  refine wpAnyH_take (i := 10) (oi := ⟨_, _, _, _, _, _⟩) (v := .pointer (some ⟨w2.heap.size, 0, none⟩)) rfl (by kernel_rfl) (by kernel_rfl) (by kernel_rfl) (fun _ _ _ h => rw_putm (k := 36) (by decide) (by decide) h) (Or.inl ⟨wanted_free rfl, fun w' hSw => ?_⟩) hHeld ?_
  · obtain ⟨s0, s1⟩ := hSw
    go_simp
  try simp only [Act.put, List.setIfInBounds_toArray, List.set_cons_zero, List.set_cons_succ]
  refine wpAnyH_take (i := 11) (oi := ⟨_, _, _, _, _, _⟩) (v := .pointer (some ⟨w2.heap.size, 0, none⟩)) rfl (by kernel_rfl) (by kernel_rfl) (by kernel_rfl) (fun _ _ _ h => rw_putm (k := 37) (by decide) (by decide) h) (Or.inl ⟨wanted_free rfl, fun w' hSw => ?_⟩) hHeld ?_
  · obtain ⟨s0, s1⟩ := hSw
    go_simp
  try simp only [Act.put, List.setIfInBounds_toArray, List.set_cons_zero, List.set_cons_succ]
  refine wpAnyH_take (i := 12) (oi := ⟨_, _, _, _, _, _⟩) (v := .string t) rfl (by kernel_rfl) (by kernel_rfl) (by kernel_rfl) (fun _ _ _ h => rw_putm (k := 38) (by decide) (by decide) h) (Or.inl ⟨wanted_free rfl, fun w' hSw => ?_⟩) hHeld ?_
  · obtain ⟨s0, s1⟩ := hSw
    go_simp
  try simp only [Act.put, List.setIfInBounds_toArray, List.set_cons_zero, List.set_cons_succ]
  refine wpAnyH_take (i := 13) (oi := ⟨_, _, _, _, _, _⟩) (v := .int .i64 (t.size : Int)) rfl (by kernel_rfl) (by kernel_rfl) (by kernel_rfl) (fun _ _ _ h => rw_putm (k := 39) (by decide) (by decide) h) (Or.inl ⟨wanted_free rfl, fun w' hSw => ?_⟩) hHeld ?_
  · obtain ⟨s0, s1⟩ := hSw
    go_simp
  try simp only [Act.put, List.setIfInBounds_toArray, List.set_cons_zero, List.set_cons_succ]
  refine wpAnyH_take (i := 14) (oi := ⟨_, _, _, _, _, _⟩) (v := .bool false) rfl (by kernel_rfl) (by kernel_rfl) (by kernel_rfl) (fun _ _ _ h => rw_putm (k := 40) (by decide) (by decide) h) (Or.inl ⟨wanted_free rfl, fun w' hSw => ?_⟩) hHeld ?_
  · obtain ⟨s0, s1⟩ := hSw
    go_simp
  try simp only [Act.put, List.setIfInBounds_toArray, List.set_cons_zero, List.set_cons_succ]
  generalize w6.drew = w7 at *
  refine wpAnyH_ready (rs := [15]) (by kernel_rfl) (by simp) (AllReadyH.cons (o := ⟨_, _, _, _, _, _⟩) rfl (fun K hK => ?_) AllReadyH.nil)
  rewrite [if_pos (wanted_free rfl)]
  go_simp
  refine (mustNo _ w7).mono ?_
  rintro r w' ⟨rfl, rfl⟩
  refine leaves_cons (f := 106) (args := #[.pointer (some ⟨w.heap.size, 0, none⟩), .pointer (some ⟨w1.heap.size, 0, none⟩)]) (by simp) (by simp [go_sem]) ?_
  refine (catchPm w.heap.size w1.heap.size L hL1 0 w7 (Nat.ne_of_lt z1) hA7 S7).mono ?_
  rintro e u' w9 ⟨rfl, rfl, q6, q7, qB⟩
  exact ⟨_, results_V2 rfl _ w.heap.size zm rfl q6 Try.uT_implManifest 3 Try.sT_implManifest rfl w1.heap.size 3 rfl q7 Try.underlying2, rfl, B07.trans (qB _ (Nat.le_refl _) (Nat.le_of_lt z1))⟩
set_option maxRecDepth 100000 in
set_option maxHeartbeats 1000000 in
theorem rmYes (t m : ByteArray) (w : World) (hs : t.size ≤ 20000) (hP : ∀ g w0, RowV w0 g (cuv t 0) → Calls Try.prog 107 #[.pointer (some ⟨g, 0, none⟩), .string m] w0 fun e w' => e = .returned (.tuple #[]) ∧ RowV w' g (cuv t 1) ∧ Only g w0 w') (Q : List Value → World → Prop) (F : List Value → Nat → Nat → Prop) (hM : ∀ L a b c d, F L a b → c ≤ a → b ≤ d → F L c d) (b : Nat) (hK : ∀ g w0, RowV w0 g (cuv t 1) → Calls Try.prog 57 #[.pointer (some ⟨g, 0, none⟩)] w0 fun r w' => ∃ L, r = .returned (.agg L.toArray) ∧ L.length = 3 ∧ L.all Value.oneCell' = true ∧ F L w0.heap.size w'.heap.size ∧ RowV w' g (cuv t b) ∧ Only g w0 w' ∧ Made w0 w' (Q L)) (hb : b = t.size) :
    Calls Try.prog 56 #[.string t, .string m, .func (.func 57) #[] #[]] w fun r w' => ∃ L, r = .returned (.tuple #[.agg L.toArray, .int .i64 0]) ∧ L.length = 3 ∧ L.all Value.oneCell' = true ∧ F L w.heap.size w'.heap.size ∧ Made w w' (Q L) ∧ Below w.heap.size w w' := by
  have e1 : ((b : Int) == (t.size : Int)) = true := by rw [hb]; simp
  have e2 : (b == t.size) = true := by rw [hb]; simp
  clear hb
  have d1 : decide ((20000 : Int) < (t.size : Int)) = false := decide_eq_false (by omega)
  have hmf : ∀ (fn : Fn) (first cap : Array Value) (w : World), (Instr.makeFunc fn first cap).run Try.prog w = .ok (.func fn first cap) w := fun _ _ _ _ => rfl
  go_enter_defers Try.func56, Try.ntmps56
  go_wp2_with (first
    | (with_reducible refine wpList_allocV (w := w) (by with_unfolding_all rfl) 31 (by with_unfolding_all rfl) zm Try.zT_implManifest ?_; intro w1 hA1 hB1 hS1; have z1 : w.heap.size < w1.heap.size := (by omega); clear hS1)
    | (with_reducible refine wpList_alloc1 (w := w1) (by with_unfolding_all rfl) 2 (by with_unfolding_all rfl) 0 Try.zeroI ?_; intro w2 hA2 hB2 hS2; have z2 : w1.heap.size < w2.heap.size := (by omega); clear hS2; have R2 := hA1.below hB2 z1; have B02 : Below w.heap.size w w2 := hB1.trans (hB2.mono (Nat.le_of_lt z1)))
    | (with_reducible refine wpList_boxV (w := w2) (by with_unfolding_all rfl) 137 (.tmp 16) (by with_unfolding_all rfl) (cuv t 0) (by with_unfolding_all rfl) ?_; intro w3 hA3 hB3 hS3; clear hS3; have R3 := R2.below hB3 (Nat.lt_trans z1 z2); have S3 := hA2.below hB3 z2; have B03 : Below w.heap.size w w3 := B02.trans (hB3.mono (Nat.le_of_lt (Nat.lt_trans z1 z2))); obtain ⟨c0, c1⟩ := hA3.cu)
    | (go_at_call 107; with_reducible refine (hP _ w3 hA3).mono ?_; rintro r w4 ⟨rfl, hA4, hO4⟩; have R4 := hO4.row R3 zm_ne (Nat.ne_of_lt (Nat.lt_trans z1 z2)); have S4 := hO4.row S3 (i1v_ne _) (Nat.ne_of_lt z2); have B04 : Below w.heap.size w w4 := B03.trans (hO4.bel (Nat.le_of_lt (Nat.lt_trans z1 z2))); have z04 := Nat.lt_of_lt_of_le (Nat.lt_trans z1 z2) (Nat.le_trans hB3.size hO4.size); have z14 := Nat.lt_of_lt_of_le z2 (Nat.le_trans hB3.size hO4.size); clear c0 c1)
    | (go_at_call 57; with_reducible refine (hK _ w4 hA4).mono ?_; rintro r w5 ⟨L, rfl, hL1, hL2, hF5, hA5, hO5, hW5⟩; have nL : L ≠ [] := (fun e => absurd (congrArg List.length e) (by rw [hL1]; decide)); have R5 := hO5.row R4 zm_ne (Nat.ne_of_lt (Nat.lt_trans z1 z2)); have S5 := hO5.row S4 (i1v_ne _) (Nat.ne_of_lt z2); have B05 : Below w.heap.size w w5 := B04.trans (hO5.bel (Nat.le_of_lt (Nat.lt_trans z1 z2))))
    | (with_reducible refine wpList_storeH (w := w5) (by with_unfolding_all rfl) 31 (.tmp 6) (.tmp 25) (by with_unfolding_all rfl) w.heap.size zm L (by with_unfolding_all rfl) (by with_unfolding_all rfl) R5 3 Try.sT_implManifest rfl hL1 (List.all_eq_true.1 hL2) ?_; intro w6 hA6 hB6 hF6 hS6; have S6 := (Only.set hB6 hF6 hS6).row S5 (i1v_ne _) (Nat.ne_of_gt z1); have C6 := (Only.set hB6 hF6 hS6).row hA5 (cuv_ne _ _) (Nat.ne_of_gt (Nat.lt_trans z1 z2)); have B06 : Below w.heap.size w w6 := B05.trans (hB6 _ (Nat.le_refl _)); have OW6 := Kee.step (Kee.of hW5) (Only.set hB6 hF6 hS6) z04; have Z6 := (Only.set hB6 hF6 hS6).size))
  have hA7 := hA6.drew
  have OW7 := Kee.drew OW6
  have Z7 : w5.heap.size ≤ w6.drew.heap.size := Z6
  clear OW6 Z6
  have S7 := S6.drew
  have C7 := C6.drew
  have B07 := B06.drew
  refine wp_region_held_drew (S := fun w' => w'.cell? ⟨w2.heap.size, 0, none⟩ = some (.string t) ∧ w'.cell? ⟨w2.heap.size, 1, none⟩ = some (.int .i64 (b : Int))) (by kernel_rfl) C7.cu (fun hHeld => ?_)
  refine wpAnyH_take (i := 0) (oi := ⟨_, _, _, _, _, _⟩) (v := .pointer (some ⟨w2.heap.size, 0, none⟩)) rfl (by kernel_rfl) (by kernel_rfl) (by kernel_rfl) (fun _ _ _ h => rw_putm (k := 26) (by decide) (by decide) h) (Or.inl ⟨wanted_free rfl, fun w' hSw => ?_⟩) hHeld ?_
  · obtain ⟨s0, s1⟩ := hSw
    go_simp
  try simp only [Act.put, List.setIfInBounds_toArray, List.set_cons_zero, List.set_cons_succ]
  refine wpAnyH_take (i := 1) (oi := ⟨_, _, _, _, _, _⟩) (v := .pointer (some ⟨w2.heap.size, 0, none⟩)) rfl (by kernel_rfl) (by kernel_rfl) (by kernel_rfl) (fun _ _ _ h => rw_putm (k := 27) (by decide) (by decide) h) (Or.inl ⟨wanted_free rfl, fun w' hSw => ?_⟩) hHeld ?_
  · obtain ⟨s0, s1⟩ := hSw
    go_simp
  try simp only [Act.put, List.setIfInBounds_toArray, List.set_cons_zero, List.set_cons_succ]
  refine wpAnyH_take (i := 2) (oi := ⟨_, _, _, _, _, _⟩) (v := .pointer (some ⟨w2.heap.size, 0, none⟩)) rfl (by kernel_rfl) (by kernel_rfl) (by kernel_rfl) (fun _ _ _ h => rw_putm (k := 28) (by decide) (by decide) h) (Or.inl ⟨wanted_free rfl, fun w' hSw => ?_⟩) hHeld ?_
  · obtain ⟨s0, s1⟩ := hSw
    go_simp
  try simp only [Act.put, List.setIfInBounds_toArray, List.set_cons_zero, List.set_cons_succ]
  refine wpAnyH_take (i := 3) (oi := ⟨_, _, _, _, _, _⟩) (v := .pointer (some ⟨w2.heap.size, 0, none⟩)) rfl (by kernel_rfl) (by kernel_rfl) (by kernel_rfl) (fun _ _ _ h => rw_putm (k := 29) (by decide) (by decide) h) (Or.inl ⟨wanted_free rfl, fun w' hSw => ?_⟩) hHeld ?_
  · obtain ⟨s0, s1⟩ := hSw
    go_simp
  try simp only [Act.put, List.setIfInBounds_toArray, List.set_cons_zero, List.set_cons_succ]
  refine wpAnyH_take (i := 4) (oi := ⟨_, _, _, _, _, _⟩) (v := .pointer (some ⟨w2.heap.size, 0, none⟩)) rfl (by kernel_rfl) (by kernel_rfl) (by kernel_rfl) (fun _ _ _ h => rw_putm (k := 30) (by decide) (by decide) h) (Or.inl ⟨wanted_free rfl, fun w' hSw => ?_⟩) hHeld ?_
  · obtain ⟨s0, s1⟩ := hSw
    go_simp
  try simp only [Act.put, List.setIfInBounds_toArray, List.set_cons_zero, List.set_cons_succ]
  refine wpAnyH_take (i := 5) (oi := ⟨_, _, _, _, _, _⟩) (v := .pointer (some ⟨w2.heap.size, 0, none⟩)) rfl (by kernel_rfl) (by kernel_rfl) (by kernel_rfl) (fun _ _ _ h => rw_putm (k := 31) (by decide) (by decide) h) (Or.inl ⟨wanted_free rfl, fun w' hSw => ?_⟩) hHeld ?_
  · obtain ⟨s0, s1⟩ := hSw
    go_simp
  try simp only [Act.put, List.setIfInBounds_toArray, List.set_cons_zero, List.set_cons_succ]
  refine wpAnyH_take (i := 6) (oi := ⟨_, _, _, _, _, _⟩) (v := .pointer (some ⟨w2.heap.size, 1, none⟩)) rfl (by kernel_rfl) (by kernel_rfl) (by kernel_rfl) (fun _ _ _ h => rw_putm (k := 32) (by decide) (by decide) h) (Or.inl ⟨wanted_free rfl, fun w' hSw => ?_⟩) hHeld ?_
  · obtain ⟨s0, s1⟩ := hSw
    go_simp
  try simp only [Act.put, List.setIfInBounds_toArray, List.set_cons_zero, List.set_cons_succ]
  refine wpAnyH_take (i := 7) (oi := ⟨_, _, _, _, _, _⟩) (v := .int .i64 (b : Int)) rfl (by kernel_rfl) (by kernel_rfl) (by kernel_rfl) (fun _ _ _ h => rw_putm (k := 33) (by decide) (by decide) h) (Or.inl ⟨wanted_free rfl, fun w' hSw => ?_⟩) hHeld ?_
  · obtain ⟨s0, s1⟩ := hSw
    go_simp
  try simp only [Act.put, List.setIfInBounds_toArray, List.set_cons_zero, List.set_cons_succ]
  refine wpAnyH_take (i := 8) (oi := ⟨_, _, _, _, _, _⟩) (v := .pointer (some ⟨w2.heap.size, 0, none⟩)) rfl (by kernel_rfl) (by kernel_rfl) (by kernel_rfl) (fun _ _ _ h => rw_putm (k := 34) (by decide) (by decide) h) (Or.inl ⟨wanted_free rfl, fun w' hSw => ?_⟩) hHeld ?_
  · obtain ⟨s0, s1⟩ := hSw
    go_simp
  try simp only [Act.put, List.setIfInBounds_toArray, List.set_cons_zero, List.set_cons_succ]
  refine wpAnyH_take (i := 9) (oi := ⟨_, _, _, _, _, _⟩) (v := .pointer (some ⟨w2.heap.size, 0, none⟩)) rfl (by kernel_rfl) (by kernel_rfl) (by kernel_rfl) (fun _ _ _ h => rw_putm (k := 35) (by decide) (by decide) h) (Or.inl ⟨wanted_free rfl, fun w' hSw => ?_⟩) hHeld ?_
  · obtain ⟨s0, s1⟩ := hSw
    go_simp
  try simp only [Act.put, List.setIfInBounds_toArray, List.set_cons_zero, List.set_cons_succ]
  refine wpAnyH_take (i := 10) (oi := ⟨_, _, _, _, _, _⟩) (v := .pointer (some ⟨w2.heap.size, 0, none⟩)) rfl (by kernel_rfl) (by kernel_rfl) (by kernel_rfl) (fun _ _ _ h => rw_putm (k := 36) (by decide) (by decide) h) (Or.inl ⟨wanted_free rfl, fun w' hSw => ?_⟩) hHeld ?_
  · obtain ⟨s0, s1⟩ := hSw
    go_simp
  try simp only [Act.put, List.setIfInBounds_toArray, List.set_cons_zero, List.set_cons_succ]
  refine wpAnyH_take (i := 11) (oi := ⟨_, _, _, _, _, _⟩) (v := .pointer (some ⟨w2.heap.size, 0, none⟩)) rfl (by kernel_rfl) (by kernel_rfl) (by kernel_rfl) (fun _ _ _ h => rw_putm (k := 37) (by decide) (by decide) h) (Or.inl ⟨wanted_free rfl, fun w' hSw => ?_⟩) hHeld ?_
  · obtain ⟨s0, s1⟩ := hSw
    go_simp
  try simp only [Act.put, List.setIfInBounds_toArray, List.set_cons_zero, List.set_cons_succ]
  refine wpAnyH_take (i := 12) (oi := ⟨_, _, _, _, _, _⟩) (v := .string t) rfl (by kernel_rfl) (by kernel_rfl) (by kernel_rfl) (fun _ _ _ h => rw_putm (k := 38) (by decide) (by decide) h) (Or.inl ⟨wanted_free rfl, fun w' hSw => ?_⟩) hHeld ?_
  · obtain ⟨s0, s1⟩ := hSw
    go_simp
  try simp only [Act.put, List.setIfInBounds_toArray, List.set_cons_zero, List.set_cons_succ]
  refine wpAnyH_take (i := 13) (oi := ⟨_, _, _, _, _, _⟩) (v := .int .i64 (t.size : Int)) rfl (by kernel_rfl) (by kernel_rfl) (by kernel_rfl) (fun _ _ _ h => rw_putm (k := 39) (by decide) (by decide) h) (Or.inl ⟨wanted_free rfl, fun w' hSw => ?_⟩) hHeld ?_
  · obtain ⟨s0, s1⟩ := hSw
    go_simp
  try simp only [Act.put, List.setIfInBounds_toArray, List.set_cons_zero, List.set_cons_succ]
  refine wpAnyH_take (i := 14) (oi := ⟨_, _, _, _, _, _⟩) (v := .bool true) rfl (by kernel_rfl) (by kernel_rfl) (by kernel_rfl) (fun _ _ _ h => rw_putm (k := 40) (by decide) (by decide) h) (Or.inl ⟨wanted_free rfl, fun w' hSw => ?_⟩) hHeld ?_
  · obtain ⟨s0, s1⟩ := hSw
    go_simp
  try simp only [Act.put, List.setIfInBounds_toArray, List.set_cons_zero, List.set_cons_succ]
  generalize w6.drew = w7 at *
  refine wpAnyH_ready (rs := [15]) (by kernel_rfl) (by simp) (AllReadyH.cons (o := ⟨_, _, _, _, _, _⟩) rfl (fun K hK => ?_) AllReadyH.nil)
  rewrite [if_pos (wanted_free rfl)]
  go_simp
  refine (mustYes _ w7).mono ?_
  rintro r w' ⟨rfl, rfl⟩
  go_wp2_with fail
  refine hK.out _ _ C7.cu (fun _ => ?_)
  clear hK K
  try simp only [Act.put, List.setIfInBounds_toArray, List.set_cons_zero, List.set_cons_succ]
  refine wpAnyH_done (by kernel_rfl) ?_ _
  clear hHeld
  go_wp2_with (first
    | (with_reducible refine wpList_loadV (w := w7) (by with_unfolding_all rfl) 31 (.tmp 6) (by with_unfolding_all rfl) w.heap.size L (by with_unfolding_all rfl) hA7 Try.uT_implManifest 3 Try.sT_implManifest hL1 ?_)
    | (with_reducible refine wpList_storeH (w := w7) (by with_unfolding_all rfl) 31 (.tmp 6) (.tmp 42) (by with_unfolding_all rfl) w.heap.size L L (by with_unfolding_all rfl) (by with_unfolding_all rfl) hA7 3 Try.sT_implManifest hL1 hL1 (List.all_eq_true.1 hL2) ?_; intro w8 hA8 hB8 hF8 hS8; have Q8 := (Only.set hB8 hF8 hS8).row S7 (i1v_ne _) (Nat.ne_of_gt z1); have OW8 := Kee.step OW7 (Only.set hB8 hF8 hS8) z04; have Z8 := Nat.le_trans Z7 (Only.set hB8 hF8 hS8).size)
    | (with_reducible refine wpList_cellH (w := w8) (by with_unfolding_all rfl) 2 (.tmp 7) (.const (.int .i64 0)) (by with_unfolding_all rfl) w1.heap.size 0 (i1v 0) (i1v 0) (.int .i64 0) (by with_unfolding_all rfl) (by with_unfolding_all rfl) rfl Try.siz1I Q8 (by simp [i1v]) (by with_unfolding_all rfl) ?_; intro w9 hA9 hB9 hF9 hS9; have Q9 := (Only.set hB9 hF9 hS9).row hA8 nL (Nat.ne_of_lt z1); have B9 : Below w.heap.size w w9 := (B07.trans (hB8 _ (Nat.le_refl _))).trans (hB9 _ (Nat.le_of_lt z1)); have OW9 := Kee.step OW8 (Only.set hB9 hF9 hS9) z14; have Z9 := Nat.le_trans Z8 (Only.set hB9 hF9 hS9).size))
  refine leaves_cons (f := 106) (args := #[.pointer (some ⟨w.heap.size, 0, none⟩), .pointer (some ⟨w1.heap.size, 0, none⟩)]) (by simp) (by simp [go_sem]) ?_
  refine (catchRm _ _ w9).mono ?_
  rintro r u' w' ⟨rfl, rfl, rfl⟩
  exact ⟨_, results_V2 rfl _ w.heap.size L rfl Q9 Try.uT_implManifest 3 Try.sT_implManifest hL1 w1.heap.size 0 rfl hA9 Try.underlying2, L, rfl, hL1, hL2, hM L _ _ _ _ hF5 (Nat.le_of_lt z04) Z9, Kee.made OW9 (Nat.le_of_lt z04) Z9, B9⟩
end Go.Proofs.Ytchfpiadfmnphaa
