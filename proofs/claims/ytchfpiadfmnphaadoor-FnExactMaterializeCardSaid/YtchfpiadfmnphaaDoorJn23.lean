/- readWhole of a Manifest, on the program's side, whatever was made for it. ManifestRead of the program: what it answers, whatever the text. -/
import Derived.Test.YtchfpiadfmnphaaDoorJn25
import Derived.Test.YtchfpiadfmnphaaDoorStaL
import Derived.Test.YtchfpiadfmnphaaDoorTy
import Derived.Test.YtchfpiadfmnphaaDoorJn7
namespace Go.Proofs.YtchfpiadfmnphaaDoor
open Go.RowKit
set_option linter.unusedVariables false

abbrev zm : List Value := [.string ⟨#[]⟩, .slice none 0 0, .slice none 0 0]
theorem zm_ne : zm ≠ [] := by simp
theorem zm_one : ∀ v ∈ zm, v.oneCell' = true := List.all_eq_true.1 (by decide)
set_option maxRecDepth 100000 in
set_option maxHeartbeats 1000000 in
theorem catchPm (G6 G7 : Nat) (l : List Value) (hl : l.length = 3) (c : Int) (w : World) (hne : G6 ≠ G7) (h6 : RowV w G6 l) (h7 : RowV w G7 (i1v c)) :
    CallsD Tryd.prog 76 #[.pointer (some ⟨G6, 0, none⟩), .pointer (some ⟨G7, 0, none⟩)] (.panicking [{ v := faultV, recovered := false }]) w fun e u' w' =>
      e = .returned (.tuple #[]) ∧ u' = .panicking [{ v := faultV, recovered := true }] ∧ RowV w' G6 zm ∧ RowV w' G7 (i1v 3) ∧ ∀ B, B ≤ G6 → B ≤ G7 → Below B w w' := by
  refine callsD_of_wpS Tryd.func76 rfl fun c₀ cs hu => ?_
  apply wpS_seq
  apply wpS_region
  simp [wpOpsS, go_sem, recoverD, hu, Tryd.ntmps76, Exit.thenS]
  refine wpS_cond (t := true) (by simp [Act.eval, Array.replicate]) ?_
  simp only [if_true]
  refine wpS_of_wp ?_
  have hact : (#[Value.pointer (some { block := G6, off := 0 }), Value.pointer (some { block := G7, off := 0 })] ++ ((Array.replicate 4 undef).setIfInBounds 1 faultV).setIfInBounds 2 (Value.bool true) : Array Value) = #[.pointer (some ⟨G6, 0, none⟩), .pointer (some ⟨G7, 0, none⟩), undef, faultV, .bool true, undef] := rfl
  rw [hact]
  clear hact
  have z6 := h6.lt (show l ≠ [] from fun e => by rw [e] at hl; cases hl)
  have z7 := h7.lt (i1v_ne _)
  go_wp2_with (first
    | (with_reducible refine wpList_allocV (w := w) (by with_unfolding_all rfl) 41 (by with_unfolding_all rfl) zm Tryd.zT_implManifest ?_; intro w1 hA1 hB1 hS1; clear hS1; have R6 := h6.below hB1 z6; have R7 := h7.below hB1 z7)
    | (with_reducible refine wpList_loadV (w := w1) (by with_unfolding_all rfl) 41 (.tmp 2) (by with_unfolding_all rfl) w.heap.size zm (by with_unfolding_all rfl) hA1 Tryd.uT_implManifest 3 Tryd.sT_implManifest (by with_unfolding_all rfl) ?_)
    | (with_reducible refine wpList_storeH (w := w1) (by with_unfolding_all rfl) 41 (.tmp 0) (.tmp 5) (by with_unfolding_all rfl) G6 l zm (by with_unfolding_all rfl) (by with_unfolding_all rfl) R6 3 Tryd.sT_implManifest hl rfl zm_one ?_; intro w2 hA2 hB2 hF2 hS2; have Q7 := (Only.set hB2 hF2 hS2).row R7 (i1v_ne _) (Ne.symm hne))
    | (with_reducible refine wpList_cellH (w := w2) (by with_unfolding_all rfl) 2 (.tmp 1) (.const (.int .i64 3)) (by with_unfolding_all rfl) G7 0 (i1v c) (i1v 3) (.int .i64 3) (by with_unfolding_all rfl) (by with_unfolding_all rfl) rfl Tryd.siz1I Q7 (by simp [i1v]) (by with_unfolding_all rfl) ?_; intro w3 hA3 hB3 hF3 hS3; have Q6 := (Only.set hB3 hF3 hS3).row hA2 zm_ne hne; have HB : ∀ B, B ≤ G6 → B ≤ G7 → Below B w w3 := fun B b1 b2 => ((hB1.mono (Nat.le_trans b1 (Nat.le_of_lt z6))).trans (hB2 B b1)).trans (hB3 B b2)))
  simp [bodyPostS, results, Tryd.results76]
  exact ⟨Q6, hA3, HB⟩
set_option maxRecDepth 100000 in
theorem catchRm (x y : Option Addr) (w : World) :
    CallsD Tryd.prog 76 #[.pointer x, .pointer y] .returning w fun e u' w' => e = .returned (.tuple #[]) ∧ u' = .returning ∧ w = w' := by
  refine callsD_of_wpS Tryd.func76 rfl fun c₀ cs hu => ?_
  apply wpS_seq
  apply wpS_region
  simp [wpOpsS, go_sem, recoverD, hu, Tryd.ntmps76, Exit.thenS]
  refine wpS_cond (t := false) (by simp [Act.eval, Array.replicate]) ?_
  simp only [Bool.false_eq_true, if_false]
  refine wpS_of_wp (wp_skip ?_)
  cases c₀
  simp_all [bodyPostS, results, Tryd.results76]
theorem rw_putm {R : Ending → World → Prop} {c : List PanicEntry} {a : Act} {k : Nat} {v : Value} {w : World} (h6 : k ≠ 6) (h7 : k ≠ 7) (h : bodyPostD Tryd.prog Tryd.f52 R (.panic c) (a.put (some k) v) w) : bodyPostD Tryd.prog Tryd.f52 R (.panic c) a w := by
  refine leaves_tmps ?_ _ _ _ h
  simp [results, Tryd.results52, Act.put, Array.getElem?_setIfInBounds_ne h6, Array.getElem?_setIfInBounds_ne h7]
set_option maxRecDepth 100000 in
set_option maxHeartbeats 1000000 in
theorem rmBig (t m : ByteArray) (f : Value) (w : World) (hs : t.size ≤ maxLen) (hb : 20000 < t.size) :
    Calls Tryd.prog 52 #[.string t, .string m, f] w fun e w' => e = .returned (.tuple #[.agg #[.string ⟨#[]⟩, .slice none 0 0, .slice none 0 0], .int .i64 2]) ∧ Below w.heap.size w w' := by
  unfold maxLen at hs
  have d1 : decide ((20000 : Int) < (t.size : Int)) = true := decide_eq_true (by omega)
  go_enter_defers Tryd.func52, Tryd.ntmps52
  go_wp2_with (first
    | (with_reducible refine wpList_allocV (w := w) (by with_unfolding_all rfl) 41 (by with_unfolding_all rfl) zm Tryd.zT_implManifest ?_; intro w1 hA1 hB1 hS1; have z1 : w.heap.size < w1.heap.size := (by omega); clear hS1)
    | (with_reducible refine wpList_alloc1 (w := w1) (by with_unfolding_all rfl) 2 (by with_unfolding_all rfl) 0 Tryd.zeroI ?_; intro w2 hA2 hB2 hS2; clear hS2; have R2 := hA1.below hB2 z1)
    | (with_reducible refine wpList_loadV (w := w2) (by with_unfolding_all rfl) 41 (.tmp 6) (by with_unfolding_all rfl) w.heap.size zm (by with_unfolding_all rfl) R2 Tryd.uT_implManifest 3 Tryd.sT_implManifest (by with_unfolding_all rfl) ?_)
    | (with_reducible refine wpList_storeH (w := w2) (by with_unfolding_all rfl) 41 (.tmp 6) (.tmp 12) (by with_unfolding_all rfl) w.heap.size zm zm (by with_unfolding_all rfl) (by with_unfolding_all rfl) R2 3 Tryd.sT_implManifest rfl rfl zm_one ?_; intro w3 hA3 hB3 hF3 hS3; have Q3 := (Only.set hB3 hF3 hS3).row hA2 (i1v_ne _) (Nat.ne_of_gt z1))
    | (with_reducible refine wpList_cellH (w := w3) (by with_unfolding_all rfl) 2 (.tmp 7) (.const (.int .i64 2)) (by with_unfolding_all rfl) w1.heap.size 0 (i1v 0) (i1v 2) (.int .i64 2) (by with_unfolding_all rfl) (by with_unfolding_all rfl) rfl Tryd.siz1I Q3 (by simp [i1v]) (by with_unfolding_all rfl) ?_; intro w4 hA4 hB4 hF4 hS4; have Q4 := (Only.set hB4 hF4 hS4).row hA3 zm_ne (Nat.ne_of_lt z1); have B4 : Below w.heap.size w w4 := ((hB1.trans (hB2.mono (Nat.le_of_lt z1))).trans (hB3 _ (Nat.le_refl _))).trans (hB4 _ (Nat.le_of_lt z1))))
  exact ⟨_, results_V2 rfl _ w.heap.size zm rfl Q4 Tryd.uT_implManifest 3 Tryd.sT_implManifest rfl w1.heap.size 2 rfl hA4 Tryd.underlying2, rfl, B4⟩
set_option maxRecDepth 100000 in
set_option maxHeartbeats 1000000 in
theorem rmPassNo (t m : ByteArray) (w : World) (hs : t.size ≤ 20000) (hP : ∀ g w0, RowV w0 g (cuv t 0) → Calls Tryd.prog 77 #[.pointer (some ⟨g, 0, none⟩), .string m] w0 fun e w' => e = .panicked [{ v := faultV, recovered := false }] ∧ Only g w0 w') :
    Calls Tryd.prog 52 #[.string t, .string m, .func (.func 53) #[] #[]] w fun e w' => e = .returned (.tuple #[.agg #[.string ⟨#[]⟩, .slice none 0 0, .slice none 0 0], .int .i64 3]) ∧ Below w.heap.size w w' := by
  have d1 : decide ((20000 : Int) < (t.size : Int)) = false := decide_eq_false (by omega)
  have hmf : ∀ (fn : Fn) (first cap : Array Value) (w : World), (Instr.makeFunc fn first cap).run Tryd.prog w = .ok (.func fn first cap) w := fun _ _ _ _ => rfl
  go_enter_defers Tryd.func52, Tryd.ntmps52
  go_wp2_with (first
    | (with_reducible refine wpList_allocV (w := w) (by with_unfolding_all rfl) 41 (by with_unfolding_all rfl) zm Tryd.zT_implManifest ?_; intro w1 hA1 hB1 hS1; have z1 : w.heap.size < w1.heap.size := (by omega); clear hS1)
    | (with_reducible refine wpList_alloc1 (w := w1) (by with_unfolding_all rfl) 2 (by with_unfolding_all rfl) 0 Tryd.zeroI ?_; intro w2 hA2 hB2 hS2; have z2 : w1.heap.size < w2.heap.size := (by omega); clear hS2; have R2 := hA1.below hB2 z1; have B02 : Below w.heap.size w w2 := hB1.trans (hB2.mono (Nat.le_of_lt z1)))
    | (with_reducible refine wpList_boxV (w := w2) (by with_unfolding_all rfl) 122 (.tmp 16) (by with_unfolding_all rfl) (cuv t 0) (by with_unfolding_all rfl) ?_; intro w3 hA3 hB3 hS3; clear hS3; have R3 := R2.below hB3 (Nat.lt_trans z1 z2); have S3 := hA2.below hB3 z2; have B03 : Below w.heap.size w w3 := B02.trans (hB3.mono (Nat.le_of_lt (Nat.lt_trans z1 z2))); obtain ⟨c0, c1⟩ := hA3.cu)
    | (go_at_call 77; with_reducible refine (hP _ w3 hA3).mono ?_; rintro r w4 ⟨rfl, hO4⟩; have R4 := hO4.row R3 zm_ne (Nat.ne_of_lt (Nat.lt_trans z1 z2)); have S4 := hO4.row S3 (i1v_ne _) (Nat.ne_of_lt z2); have B04 : Below w.heap.size w w4 := B03.trans (hO4.bel (Nat.le_of_lt (Nat.lt_trans z1 z2)))))
  refine leaves_cons (f := 76) (args := #[.pointer (some ⟨w.heap.size, 0, none⟩), .pointer (some ⟨w1.heap.size, 0, none⟩)]) (by simp) (by simp [go_sem]) ?_
  refine (catchPm w.heap.size w1.heap.size zm rfl 0 w4 (Nat.ne_of_lt z1) R4 S4).mono ?_
  rintro e u' w9 ⟨rfl, rfl, q6, q7, qB⟩
  exact ⟨_, results_V2 rfl _ w.heap.size zm rfl q6 Tryd.uT_implManifest 3 Tryd.sT_implManifest rfl w1.heap.size 3 rfl q7 Tryd.underlying2, rfl, B04.trans (qB _ (Nat.le_refl _) (Nat.le_of_lt z1))⟩
set_option maxRecDepth 100000 in
set_option maxHeartbeats 1000000 in
theorem rmReadNo (t m : ByteArray) (w : World) (hs : t.size ≤ 20000) (hP : ∀ g w0, RowV w0 g (cuv t 0) → Calls Tryd.prog 77 #[.pointer (some ⟨g, 0, none⟩), .string m] w0 fun e w' => e = .returned (.tuple #[]) ∧ RowV w' g (cuv t 1) ∧ Only g w0 w') (hK : ∀ g w0, RowV w0 g (cuv t 1) → Calls Tryd.prog 53 #[.pointer (some ⟨g, 0, none⟩)] w0 fun e w' => e = .panicked [{ v := faultV, recovered := false }] ∧ Only g w0 w') :
    Calls Tryd.prog 52 #[.string t, .string m, .func (.func 53) #[] #[]] w fun e w' => e = .returned (.tuple #[.agg #[.string ⟨#[]⟩, .slice none 0 0, .slice none 0 0], .int .i64 3]) ∧ Below w.heap.size w w' := by
  have d1 : decide ((20000 : Int) < (t.size : Int)) = false := decide_eq_false (by omega)
  have hmf : ∀ (fn : Fn) (first cap : Array Value) (w : World), (Instr.makeFunc fn first cap).run Tryd.prog w = .ok (.func fn first cap) w := fun _ _ _ _ => rfl
  go_enter_defers Tryd.func52, Tryd.ntmps52
  go_wp2_with (first
    | (with_reducible refine wpList_allocV (w := w) (by with_unfolding_all rfl) 41 (by with_unfolding_all rfl) zm Tryd.zT_implManifest ?_; intro w1 hA1 hB1 hS1; have z1 : w.heap.size < w1.heap.size := (by omega); clear hS1)
    | (with_reducible refine wpList_alloc1 (w := w1) (by with_unfolding_all rfl) 2 (by with_unfolding_all rfl) 0 Tryd.zeroI ?_; intro w2 hA2 hB2 hS2; have z2 : w1.heap.size < w2.heap.size := (by omega); clear hS2; have R2 := hA1.below hB2 z1; have B02 : Below w.heap.size w w2 := hB1.trans (hB2.mono (Nat.le_of_lt z1)))
    | (with_reducible refine wpList_boxV (w := w2) (by with_unfolding_all rfl) 122 (.tmp 16) (by with_unfolding_all rfl) (cuv t 0) (by with_unfolding_all rfl) ?_; intro w3 hA3 hB3 hS3; clear hS3; have R3 := R2.below hB3 (Nat.lt_trans z1 z2); have S3 := hA2.below hB3 z2; have B03 : Below w.heap.size w w3 := B02.trans (hB3.mono (Nat.le_of_lt (Nat.lt_trans z1 z2))); obtain ⟨c0, c1⟩ := hA3.cu)
    | (go_at_call 77; with_reducible refine (hP _ w3 hA3).mono ?_; rintro r w4 ⟨rfl, hA4, hO4⟩; have R4 := hO4.row R3 zm_ne (Nat.ne_of_lt (Nat.lt_trans z1 z2)); have S4 := hO4.row S3 (i1v_ne _) (Nat.ne_of_lt z2); have B04 : Below w.heap.size w w4 := B03.trans (hO4.bel (Nat.le_of_lt (Nat.lt_trans z1 z2))); have z04 := Nat.lt_of_lt_of_le (Nat.lt_trans z1 z2) (Nat.le_trans hB3.size hO4.size); have z14 := Nat.lt_of_lt_of_le z2 (Nat.le_trans hB3.size hO4.size); clear c0 c1)
    | (go_at_call 53; with_reducible refine (hK _ w4 hA4).mono ?_; rintro r w5 ⟨rfl, hO5⟩; have R5 := hO5.row R4 zm_ne (Nat.ne_of_lt (Nat.lt_trans z1 z2)); have S5 := hO5.row S4 (i1v_ne _) (Nat.ne_of_lt z2); have B05 : Below w.heap.size w w5 := B04.trans (hO5.bel (Nat.le_of_lt (Nat.lt_trans z1 z2)))))
  refine leaves_cons (f := 76) (args := #[.pointer (some ⟨w.heap.size, 0, none⟩), .pointer (some ⟨w1.heap.size, 0, none⟩)]) (by simp) (by simp [go_sem]) ?_
  refine (catchPm w.heap.size w1.heap.size zm rfl 0 w5 (Nat.ne_of_lt z1) R5 S5).mono ?_
  rintro e u' w9 ⟨rfl, rfl, q6, q7, qB⟩
  exact ⟨_, results_V2 rfl _ w.heap.size zm rfl q6 Tryd.uT_implManifest 3 Tryd.sT_implManifest rfl w1.heap.size 3 rfl q7 Tryd.underlying2, rfl, B05.trans (qB _ (Nat.le_refl _) (Nat.le_of_lt z1))⟩
set_option maxRecDepth 100000 in
set_option maxHeartbeats 1000000 in
theorem rmEndNo (t m : ByteArray) (w : World) (hs : t.size ≤ 20000) (hP : ∀ g w0, RowV w0 g (cuv t 0) → Calls Tryd.prog 77 #[.pointer (some ⟨g, 0, none⟩), .string m] w0 fun e w' => e = .returned (.tuple #[]) ∧ RowV w' g (cuv t 1) ∧ Only g w0 w') (Q : List Value → World → Prop) (F : List Value → Nat → Nat → Prop) (hM : ∀ L a b c d, F L a b → c ≤ a → b ≤ d → F L c d) (b : Nat) (hK : ∀ g w0, RowV w0 g (cuv t 1) → Calls Tryd.prog 53 #[.pointer (some ⟨g, 0, none⟩)] w0 fun r w' => ∃ L, r = .returned (.agg L.toArray) ∧ L.length = 3 ∧ L.all Value.oneCell' = true ∧ F L w0.heap.size w'.heap.size ∧ RowV w' g (cuv t b) ∧ Only g w0 w' ∧ Made w0 w' (Q L)) (hb : b ≤ t.size) (hne : ¬ b = t.size) :
    Calls Tryd.prog 52 #[.string t, .string m, .func (.func 53) #[] #[]] w fun e w' => e = .returned (.tuple #[.agg #[.string ⟨#[]⟩, .slice none 0 0, .slice none 0 0], .int .i64 3]) ∧ Below w.heap.size w w' := by
  have e1 : ((b : Int) == (t.size : Int)) = false := beq_eq_false_iff_ne.2 (by omega)
  have e2 : (b == t.size) = false := beq_eq_false_iff_ne.2 hne
  have d1 : decide ((20000 : Int) < (t.size : Int)) = false := decide_eq_false (by omega)
  have hmf : ∀ (fn : Fn) (first cap : Array Value) (w : World), (Instr.makeFunc fn first cap).run Tryd.prog w = .ok (.func fn first cap) w := fun _ _ _ _ => rfl
  go_enter_defers Tryd.func52, Tryd.ntmps52
  go_wp2_with (first
    | (with_reducible refine wpList_allocV (w := w) (by with_unfolding_all rfl) 41 (by with_unfolding_all rfl) zm Tryd.zT_implManifest ?_; intro w1 hA1 hB1 hS1; have z1 : w.heap.size < w1.heap.size := (by omega); clear hS1)
    | (with_reducible refine wpList_alloc1 (w := w1) (by with_unfolding_all rfl) 2 (by with_unfolding_all rfl) 0 Tryd.zeroI ?_; intro w2 hA2 hB2 hS2; have z2 : w1.heap.size < w2.heap.size := (by omega); clear hS2; have R2 := hA1.below hB2 z1; have B02 : Below w.heap.size w w2 := hB1.trans (hB2.mono (Nat.le_of_lt z1)))
    | (with_reducible refine wpList_boxV (w := w2) (by with_unfolding_all rfl) 122 (.tmp 16) (by with_unfolding_all rfl) (cuv t 0) (by with_unfolding_all rfl) ?_; intro w3 hA3 hB3 hS3; clear hS3; have R3 := R2.below hB3 (Nat.lt_trans z1 z2); have S3 := hA2.below hB3 z2; have B03 : Below w.heap.size w w3 := B02.trans (hB3.mono (Nat.le_of_lt (Nat.lt_trans z1 z2))); obtain ⟨c0, c1⟩ := hA3.cu)
    | (go_at_call 77; with_reducible refine (hP _ w3 hA3).mono ?_; rintro r w4 ⟨rfl, hA4, hO4⟩; have R4 := hO4.row R3 zm_ne (Nat.ne_of_lt (Nat.lt_trans z1 z2)); have S4 := hO4.row S3 (i1v_ne _) (Nat.ne_of_lt z2); have B04 : Below w.heap.size w w4 := B03.trans (hO4.bel (Nat.le_of_lt (Nat.lt_trans z1 z2))); have z04 := Nat.lt_of_lt_of_le (Nat.lt_trans z1 z2) (Nat.le_trans hB3.size hO4.size); have z14 := Nat.lt_of_lt_of_le z2 (Nat.le_trans hB3.size hO4.size); clear c0 c1)
    | (go_at_call 53; with_reducible refine (hK _ w4 hA4).mono ?_; rintro r w5 ⟨L, rfl, hL1, hL2, hF5, hA5, hO5, hW5⟩; have nL : L ≠ [] := (fun e => absurd (congrArg List.length e) (by rw [hL1]; decide)); have R5 := hO5.row R4 zm_ne (Nat.ne_of_lt (Nat.lt_trans z1 z2)); have S5 := hO5.row S4 (i1v_ne _) (Nat.ne_of_lt z2); have B05 : Below w.heap.size w w5 := B04.trans (hO5.bel (Nat.le_of_lt (Nat.lt_trans z1 z2))))
    | (with_reducible refine wpList_storeH (w := w5) (by with_unfolding_all rfl) 41 (.tmp 6) (.tmp 25) (by with_unfolding_all rfl) w.heap.size zm L (by with_unfolding_all rfl) (by with_unfolding_all rfl) R5 3 Tryd.sT_implManifest rfl hL1 (List.all_eq_true.1 hL2) ?_; intro w6 hA6 hB6 hF6 hS6; have S6 := (Only.set hB6 hF6 hS6).row S5 (i1v_ne _) (Nat.ne_of_gt z1); have C6 := (Only.set hB6 hF6 hS6).row hA5 (cuv_ne _ _) (Nat.ne_of_gt (Nat.lt_trans z1 z2)); have B06 : Below w.heap.size w w6 := B05.trans (hB6 _ (Nat.le_refl _)); have OW6 := Kee.step (Kee.of hW5) (Only.set hB6 hF6 hS6) z04; have Z6 := (Only.set hB6 hF6 hS6).size))
  have hA7 := hA6.drew
  have OW7 := Kee.drew OW6
  have Z7 : w5.heap.size ≤ w6.drew.heap.size := Z6
  clear OW6 Z6
  have S7 := S6.drew
  have C7 := C6.drew
  have B07 := B06.drew
  refine wp_region_held_drew (S := fun w' => w'.cell? ⟨w2.heap.size, 0, none⟩ = some (.string t) ∧ w'.cell? ⟨w2.heap.size, 1, none⟩ = some (.int .i64 (b : Int))) (by kernel_rfl) C7.cu (fun hHeld => ?_)
  refine wpAnyH_take (i := 0) (oi := ⟨_, _, _, _, _, _⟩) (v := .pointer (some ⟨w2.heap.size, 0, none⟩)) rfl (by kernel_rfl) (by kernel_rfl) (by kernel_rfl) (fun _ _ _ h => rw_putm (k := 26) (by decide) (by decide) h) (Or.inl ⟨wanted_free rfl, fun w' hSw => ?_⟩) hHeld ?_
  · obtain ⟨s0, s1⟩ := hSw
    go_simp
  try simp only [Act.put, List.setIfInBounds_toArray, List.set_cons_zero, List.set_cons_succ]
  refine wpAnyH_take (i := 1) (oi := ⟨_, _, _, _, _, _⟩) (v := .pointer (some ⟨w2.heap.size, 0, none⟩)) rfl (by kernel_rfl) (by kernel_rfl) (by kernel_rfl) (fun _ _ _ h => rw_putm (k := 27) (by decide) (by decide) h) (Or.inl ⟨wanted_free rfl, fun w' hSw => ?_⟩) hHeld ?_
  · obtain ⟨s0, s1⟩ := hSw
    go_simp
  try simp only [Act.put, List.setIfInBounds_toArray, List.set_cons_zero, List.set_cons_succ]
  refine wpAnyH_take (i := 2) (oi := ⟨_, _, _, _, _, _⟩) (v := .pointer (some ⟨w2.heap.size, 0, none⟩)) rfl (by kernel_rfl) (by kernel_rfl) (by kernel_rfl) (fun _ _ _ h => rw_putm (k := 28) (by decide) (by decide) h) (Or.inl ⟨wanted_free rfl, fun w' hSw => ?_⟩) hHeld ?_
  · obtain ⟨s0, s1⟩ := hSw
    go_simp
  try simp only [Act.put, List.setIfInBounds_toArray, List.set_cons_zero, List.set_cons_succ]
  refine wpAnyH_take (i := 3) (oi := ⟨_, _, _, _, _, _⟩) (v := .pointer (some ⟨w2.heap.size, 0, none⟩)) rfl (by kernel_rfl) (by kernel_rfl) (by kernel_rfl) (fun _ _ _ h => rw_putm (k := 29) (by decide) (by decide) h) (Or.inl ⟨wanted_free rfl, fun w' hSw => ?_⟩) hHeld ?_
  · obtain ⟨s0, s1⟩ := hSw
    go_simp
  try simp only [Act.put, List.setIfInBounds_toArray, List.set_cons_zero, List.set_cons_succ]
  refine wpAnyH_take (i := 4) (oi := ⟨_, _, _, _, _, _⟩) (v := .pointer (some ⟨w2.heap.size, 0, none⟩)) rfl (by kernel_rfl) (by kernel_rfl) (by kernel_rfl) (fun _ _ _ h => rw_putm (k := 30) (by decide) (by decide) h) (Or.inl ⟨wanted_free rfl, fun w' hSw => ?_⟩) hHeld ?_
  · obtain ⟨s0, s1⟩ := hSw
    go_simp
  try simp only [Act.put, List.setIfInBounds_toArray, List.set_cons_zero, List.set_cons_succ]
  refine wpAnyH_take (i := 5) (oi := ⟨_, _, _, _, _, _⟩) (v := .pointer (some ⟨w2.heap.size, 0, none⟩)) rfl (by kernel_rfl) (by kernel_rfl) (by kernel_rfl) (fun _ _ _ h => rw_putm (k := 31) (by decide) (by decide) h) (Or.inl ⟨wanted_free rfl, fun w' hSw => ?_⟩) hHeld ?_
  · obtain ⟨s0, s1⟩ := hSw
    go_simp
  try simp only [Act.put, List.setIfInBounds_toArray, List.set_cons_zero, List.set_cons_succ]
  refine wpAnyH_take (i := 6) (oi := ⟨_, _, _, _, _, _⟩) (v := .pointer (some ⟨w2.heap.size, 1, none⟩)) rfl (by kernel_rfl) (by kernel_rfl) (by kernel_rfl) (fun _ _ _ h => rw_putm (k := 32) (by decide) (by decide) h) (Or.inl ⟨wanted_free rfl, fun w' hSw => ?_⟩) hHeld ?_
  · obtain ⟨s0, s1⟩ := hSw
    go_simp
  try simp only [Act.put, List.setIfInBounds_toArray, List.set_cons_zero, List.set_cons_succ]
  refine wpAnyH_take (i := 7) (oi := ⟨_, _, _, _, _, _⟩) (v := .int .i64 (b : Int)) rfl (by kernel_rfl) (by kernel_rfl) (by kernel_rfl) (fun _ _ _ h => rw_putm (k := 33) (by decide) (by decide) h) (Or.inl ⟨wanted_free rfl, fun w' hSw => ?_⟩) hHeld ?_
  · obtain ⟨s0, s1⟩ := hSw
    go_simp
  try simp only [Act.put, List.setIfInBounds_toArray, List.set_cons_zero, List.set_cons_succ]
  refine wpAnyH_take (i := 8) (oi := ⟨_, _, _, _, _, _⟩) (v := .pointer (some ⟨w2.heap.size, 0, none⟩)) rfl (by kernel_rfl) (by kernel_rfl) (by kernel_rfl) (fun _ _ _ h => rw_putm (k := 34) (by decide) (by decide) h) (Or.inl ⟨wanted_free rfl, fun w' hSw => ?_⟩) hHeld ?_
  · obtain ⟨s0, s1⟩ := hSw
    go_simp
  try simp only [Act.put, List.setIfInBounds_toArray, List.set_cons_zero, List.set_cons_succ]
  refine wpAnyH_take (i := 9) (oi := ⟨_, _, _, _, _, _⟩) (v := .pointer (some ⟨w2.heap.size, 0, none⟩)) rfl (by kernel_rfl) (by kernel_rfl) (by kernel_rfl) (fun _ _ _ h => rw_putm (k := 35) (by decide) (by decide) h) (Or.inl ⟨wanted_free rfl, fun w' hSw => ?_⟩) hHeld ?_
  · obtain ⟨s0, s1⟩ := hSw
    go_simp
  try simp only [Act.put, List.setIfInBounds_toArray, List.set_cons_zero, List.set_cons_succ]
  refine wpAnyH_take (i := 10) (oi := ⟨_, _, _, _, _, _⟩) (v := .pointer (some ⟨w2.heap.size, 0, none⟩)) rfl (by kernel_rfl) (by kernel_rfl) (by kernel_rfl) (fun _ _ _ h => rw_putm (k := 36) (by decide) (by decide) h) (Or.inl ⟨wanted_free rfl, fun w' hSw => ?_⟩) hHeld ?_
  · obtain ⟨s0, s1⟩ := hSw
    go_simp
  try simp only [Act.put, List.setIfInBounds_toArray, List.set_cons_zero, List.set_cons_succ]
  refine wpAnyH_take (i := 11) (oi := ⟨_, _, _, _, _, _⟩) (v := .pointer (some ⟨w2.heap.size, 0, none⟩)) rfl (by kernel_rfl) (by kernel_rfl) (by kernel_rfl) (fun _ _ _ h => rw_putm (k := 37) (by decide) (by decide) h) (Or.inl ⟨wanted_free rfl, fun w' hSw => ?_⟩) hHeld ?_
  · obtain ⟨s0, s1⟩ := hSw
    go_simp
  try simp only [Act.put, List.setIfInBounds_toArray, List.set_cons_zero, List.set_cons_succ]
  refine wpAnyH_take (i := 12) (oi := ⟨_, _, _, _, _, _⟩) (v := .string t) rfl (by kernel_rfl) (by kernel_rfl) (by kernel_rfl) (fun _ _ _ h => rw_putm (k := 38) (by decide) (by decide) h) (Or.inl ⟨wanted_free rfl, fun w' hSw => ?_⟩) hHeld ?_
  · obtain ⟨s0, s1⟩ := hSw
    go_simp
  try simp only [Act.put, List.setIfInBounds_toArray, List.set_cons_zero, List.set_cons_succ]
  refine wpAnyH_take (i := 13) (oi := ⟨_, _, _, _, _, _⟩) (v := .int .i64 (t.size : Int)) rfl (by kernel_rfl) (by kernel_rfl) (by kernel_rfl) (fun _ _ _ h => rw_putm (k := 39) (by decide) (by decide) h) (Or.inl ⟨wanted_free rfl, fun w' hSw => ?_⟩) hHeld ?_
  · obtain ⟨s0, s1⟩ := hSw
    go_simp
  try simp only [Act.put, List.setIfInBounds_toArray, List.set_cons_zero, List.set_cons_succ]
  refine wpAnyH_take (i := 14) (oi := ⟨_, _, _, _, _, _⟩) (v := .bool false) rfl (by kernel_rfl) (by kernel_rfl) (by kernel_rfl) (fun _ _ _ h => rw_putm (k := 40) (by decide) (by decide) h) (Or.inl ⟨wanted_free rfl, fun w' hSw => ?_⟩) hHeld ?_
  · obtain ⟨s0, s1⟩ := hSw
    go_simp
  try simp only [Act.put, List.setIfInBounds_toArray, List.set_cons_zero, List.set_cons_succ]
  generalize w6.drew = w7 at *
  refine wpAnyH_ready (rs := [15]) (by kernel_rfl) (by simp) (AllReadyH.cons (o := ⟨_, _, _, _, _, _⟩) rfl (fun K hK => ?_) AllReadyH.nil)
  rewrite [if_pos (wanted_free rfl)]
  go_simp
  refine (mustNo _ w7).mono ?_
  rintro r w' ⟨rfl, rfl⟩
  refine leaves_cons (f := 76) (args := #[.pointer (some ⟨w.heap.size, 0, none⟩), .pointer (some ⟨w1.heap.size, 0, none⟩)]) (by simp) (by simp [go_sem]) ?_
  refine (catchPm w.heap.size w1.heap.size L hL1 0 w7 (Nat.ne_of_lt z1) hA7 S7).mono ?_
  rintro e u' w9 ⟨rfl, rfl, q6, q7, qB⟩
  exact ⟨_, results_V2 rfl _ w.heap.size zm rfl q6 Tryd.uT_implManifest 3 Tryd.sT_implManifest rfl w1.heap.size 3 rfl q7 Tryd.underlying2, rfl, B07.trans (qB _ (Nat.le_refl _) (Nat.le_of_lt z1))⟩
set_option maxRecDepth 100000 in
set_option maxHeartbeats 1000000 in
theorem rmYes (t m : ByteArray) (w : World) (hs : t.size ≤ 20000) (hP : ∀ g w0, RowV w0 g (cuv t 0) → Calls Tryd.prog 77 #[.pointer (some ⟨g, 0, none⟩), .string m] w0 fun e w' => e = .returned (.tuple #[]) ∧ RowV w' g (cuv t 1) ∧ Only g w0 w') (Q : List Value → World → Prop) (F : List Value → Nat → Nat → Prop) (hM : ∀ L a b c d, F L a b → c ≤ a → b ≤ d → F L c d) (b : Nat) (hK : ∀ g w0, RowV w0 g (cuv t 1) → Calls Tryd.prog 53 #[.pointer (some ⟨g, 0, none⟩)] w0 fun r w' => ∃ L, r = .returned (.agg L.toArray) ∧ L.length = 3 ∧ L.all Value.oneCell' = true ∧ F L w0.heap.size w'.heap.size ∧ RowV w' g (cuv t b) ∧ Only g w0 w' ∧ Made w0 w' (Q L)) (hb : b = t.size) :
    Calls Tryd.prog 52 #[.string t, .string m, .func (.func 53) #[] #[]] w fun r w' => ∃ L, r = .returned (.tuple #[.agg L.toArray, .int .i64 0]) ∧ L.length = 3 ∧ L.all Value.oneCell' = true ∧ F L w.heap.size w'.heap.size ∧ Made w w' (Q L) ∧ Below w.heap.size w w' := by
  have e1 : ((b : Int) == (t.size : Int)) = true := by rw [hb]; simp
  have e2 : (b == t.size) = true := by rw [hb]; simp
  clear hb
  have d1 : decide ((20000 : Int) < (t.size : Int)) = false := decide_eq_false (by omega)
  have hmf : ∀ (fn : Fn) (first cap : Array Value) (w : World), (Instr.makeFunc fn first cap).run Tryd.prog w = .ok (.func fn first cap) w := fun _ _ _ _ => rfl
  go_enter_defers Tryd.func52, Tryd.ntmps52
  go_wp2_with (first
    | (with_reducible refine wpList_allocV (w := w) (by with_unfolding_all rfl) 41 (by with_unfolding_all rfl) zm Tryd.zT_implManifest ?_; intro w1 hA1 hB1 hS1; have z1 : w.heap.size < w1.heap.size := (by omega); clear hS1)
    | (with_reducible refine wpList_alloc1 (w := w1) (by with_unfolding_all rfl) 2 (by with_unfolding_all rfl) 0 Tryd.zeroI ?_; intro w2 hA2 hB2 hS2; have z2 : w1.heap.size < w2.heap.size := (by omega); clear hS2; have R2 := hA1.below hB2 z1; have B02 : Below w.heap.size w w2 := hB1.trans (hB2.mono (Nat.le_of_lt z1)))
    | (with_reducible refine wpList_boxV (w := w2) (by with_unfolding_all rfl) 122 (.tmp 16) (by with_unfolding_all rfl) (cuv t 0) (by with_unfolding_all rfl) ?_; intro w3 hA3 hB3 hS3; clear hS3; have R3 := R2.below hB3 (Nat.lt_trans z1 z2); have S3 := hA2.below hB3 z2; have B03 : Below w.heap.size w w3 := B02.trans (hB3.mono (Nat.le_of_lt (Nat.lt_trans z1 z2))); obtain ⟨c0, c1⟩ := hA3.cu)
    | (go_at_call 77; with_reducible refine (hP _ w3 hA3).mono ?_; rintro r w4 ⟨rfl, hA4, hO4⟩; have R4 := hO4.row R3 zm_ne (Nat.ne_of_lt (Nat.lt_trans z1 z2)); have S4 := hO4.row S3 (i1v_ne _) (Nat.ne_of_lt z2); have B04 : Below w.heap.size w w4 := B03.trans (hO4.bel (Nat.le_of_lt (Nat.lt_trans z1 z2))); have z04 := Nat.lt_of_lt_of_le (Nat.lt_trans z1 z2) (Nat.le_trans hB3.size hO4.size); have z14 := Nat.lt_of_lt_of_le z2 (Nat.le_trans hB3.size hO4.size); clear c0 c1)
    | (go_at_call 53; with_reducible refine (hK _ w4 hA4).mono ?_; rintro r w5 ⟨L, rfl, hL1, hL2, hF5, hA5, hO5, hW5⟩; have nL : L ≠ [] := (fun e => absurd (congrArg List.length e) (by rw [hL1]; decide)); have R5 := hO5.row R4 zm_ne (Nat.ne_of_lt (Nat.lt_trans z1 z2)); have S5 := hO5.row S4 (i1v_ne _) (Nat.ne_of_lt z2); have B05 : Below w.heap.size w w5 := B04.trans (hO5.bel (Nat.le_of_lt (Nat.lt_trans z1 z2))))
    | (with_reducible refine wpList_storeH (w := w5) (by with_unfolding_all rfl) 41 (.tmp 6) (.tmp 25) (by with_unfolding_all rfl) w.heap.size zm L (by with_unfolding_all rfl) (by with_unfolding_all rfl) R5 3 Tryd.sT_implManifest rfl hL1 (List.all_eq_true.1 hL2) ?_; intro w6 hA6 hB6 hF6 hS6; have S6 := (Only.set hB6 hF6 hS6).row S5 (i1v_ne _) (Nat.ne_of_gt z1); have C6 := (Only.set hB6 hF6 hS6).row hA5 (cuv_ne _ _) (Nat.ne_of_gt (Nat.lt_trans z1 z2)); have B06 : Below w.heap.size w w6 := B05.trans (hB6 _ (Nat.le_refl _)); have OW6 := Kee.step (Kee.of hW5) (Only.set hB6 hF6 hS6) z04; have Z6 := (Only.set hB6 hF6 hS6).size))
  have hA7 := hA6.drew
  have OW7 := Kee.drew OW6
  have Z7 : w5.heap.size ≤ w6.drew.heap.size := Z6
  clear OW6 Z6
  have S7 := S6.drew
  have C7 := C6.drew
  have B07 := B06.drew
  refine wp_region_held_drew (S := fun w' => w'.cell? ⟨w2.heap.size, 0, none⟩ = some (.string t) ∧ w'.cell? ⟨w2.heap.size, 1, none⟩ = some (.int .i64 (b : Int))) (by kernel_rfl) C7.cu (fun hHeld => ?_)
  refine wpAnyH_take (i := 0) (oi := ⟨_, _, _, _, _, _⟩) (v := .pointer (some ⟨w2.heap.size, 0, none⟩)) rfl (by kernel_rfl) (by kernel_rfl) (by kernel_rfl) (fun _ _ _ h => rw_putm (k := 26) (by decide) (by decide) h) (Or.inl ⟨wanted_free rfl, fun w' hSw => ?_⟩) hHeld ?_
  · obtain ⟨s0, s1⟩ := hSw
    go_simp
  try simp only [Act.put, List.setIfInBounds_toArray, List.set_cons_zero, List.set_cons_succ]
  refine wpAnyH_take (i := 1) (oi := ⟨_, _, _, _, _, _⟩) (v := .pointer (some ⟨w2.heap.size, 0, none⟩)) rfl (by kernel_rfl) (by kernel_rfl) (by kernel_rfl) (fun _ _ _ h => rw_putm (k := 27) (by decide) (by decide) h) (Or.inl ⟨wanted_free rfl, fun w' hSw => ?_⟩) hHeld ?_
  · obtain ⟨s0, s1⟩ := hSw
    go_simp
  try simp only [Act.put, List.setIfInBounds_toArray, List.set_cons_zero, List.set_cons_succ]
  refine wpAnyH_take (i := 2) (oi := ⟨_, _, _, _, _, _⟩) (v := .pointer (some ⟨w2.heap.size, 0, none⟩)) rfl (by kernel_rfl) (by kernel_rfl) (by kernel_rfl) (fun _ _ _ h => rw_putm (k := 28) (by decide) (by decide) h) (Or.inl ⟨wanted_free rfl, fun w' hSw => ?_⟩) hHeld ?_
  · obtain ⟨s0, s1⟩ := hSw
    go_simp
  try simp only [Act.put, List.setIfInBounds_toArray, List.set_cons_zero, List.set_cons_succ]
  refine wpAnyH_take (i := 3) (oi := ⟨_, _, _, _, _, _⟩) (v := .pointer (some ⟨w2.heap.size, 0, none⟩)) rfl (by kernel_rfl) (by kernel_rfl) (by kernel_rfl) (fun _ _ _ h => rw_putm (k := 29) (by decide) (by decide) h) (Or.inl ⟨wanted_free rfl, fun w' hSw => ?_⟩) hHeld ?_
  · obtain ⟨s0, s1⟩ := hSw
    go_simp
  try simp only [Act.put, List.setIfInBounds_toArray, List.set_cons_zero, List.set_cons_succ]
  refine wpAnyH_take (i := 4) (oi := ⟨_, _, _, _, _, _⟩) (v := .pointer (some ⟨w2.heap.size, 0, none⟩)) rfl (by kernel_rfl) (by kernel_rfl) (by kernel_rfl) (fun _ _ _ h => rw_putm (k := 30) (by decide) (by decide) h) (Or.inl ⟨wanted_free rfl, fun w' hSw => ?_⟩) hHeld ?_
  · obtain ⟨s0, s1⟩ := hSw
    go_simp
  try simp only [Act.put, List.setIfInBounds_toArray, List.set_cons_zero, List.set_cons_succ]
  refine wpAnyH_take (i := 5) (oi := ⟨_, _, _, _, _, _⟩) (v := .pointer (some ⟨w2.heap.size, 0, none⟩)) rfl (by kernel_rfl) (by kernel_rfl) (by kernel_rfl) (fun _ _ _ h => rw_putm (k := 31) (by decide) (by decide) h) (Or.inl ⟨wanted_free rfl, fun w' hSw => ?_⟩) hHeld ?_
  · obtain ⟨s0, s1⟩ := hSw
    go_simp
  try simp only [Act.put, List.setIfInBounds_toArray, List.set_cons_zero, List.set_cons_succ]
  refine wpAnyH_take (i := 6) (oi := ⟨_, _, _, _, _, _⟩) (v := .pointer (some ⟨w2.heap.size, 1, none⟩)) rfl (by kernel_rfl) (by kernel_rfl) (by kernel_rfl) (fun _ _ _ h => rw_putm (k := 32) (by decide) (by decide) h) (Or.inl ⟨wanted_free rfl, fun w' hSw => ?_⟩) hHeld ?_
  · obtain ⟨s0, s1⟩ := hSw
    go_simp
  try simp only [Act.put, List.setIfInBounds_toArray, List.set_cons_zero, List.set_cons_succ]
  refine wpAnyH_take (i := 7) (oi := ⟨_, _, _, _, _, _⟩) (v := .int .i64 (b : Int)) rfl (by kernel_rfl) (by kernel_rfl) (by kernel_rfl) (fun _ _ _ h => rw_putm (k := 33) (by decide) (by decide) h) (Or.inl ⟨wanted_free rfl, fun w' hSw => ?_⟩) hHeld ?_
  · obtain ⟨s0, s1⟩ := hSw
    go_simp
  try simp only [Act.put, List.setIfInBounds_toArray, List.set_cons_zero, List.set_cons_succ]
  refine wpAnyH_take (i := 8) (oi := ⟨_, _, _, _, _, _⟩) (v := .pointer (some ⟨w2.heap.size, 0, none⟩)) rfl (by kernel_rfl) (by kernel_rfl) (by kernel_rfl) (fun _ _ _ h => rw_putm (k := 34) (by decide) (by decide) h) (Or.inl ⟨wanted_free rfl, fun w' hSw => ?_⟩) hHeld ?_
  · obtain ⟨s0, s1⟩ := hSw
    go_simp
  try simp only [Act.put, List.setIfInBounds_toArray, List.set_cons_zero, List.set_cons_succ]
  refine wpAnyH_take (i := 9) (oi := ⟨_, _, _, _, _, _⟩) (v := .pointer (some ⟨w2.heap.size, 0, none⟩)) rfl (by kernel_rfl) (by kernel_rfl) (by kernel_rfl) (fun _ _ _ h => rw_putm (k := 35) (by decide) (by decide) h) (Or.inl ⟨wanted_free rfl, fun w' hSw => ?_⟩) hHeld ?_
  · obtain ⟨s0, s1⟩ := hSw
    go_simp
  try simp only [Act.put, List.setIfInBounds_toArray, List.set_cons_zero, List.set_cons_succ]
  refine wpAnyH_take (i := 10) (oi := ⟨_, _, _, _, _, _⟩) (v := .pointer (some ⟨w2.heap.size, 0, none⟩)) rfl (by kernel_rfl) (by kernel_rfl) (by kernel_rfl) (fun _ _ _ h => rw_putm (k := 36) (by decide) (by decide) h) (Or.inl ⟨wanted_free rfl, fun w' hSw => ?_⟩) hHeld ?_
  · obtain ⟨s0, s1⟩ := hSw
    go_simp
  try simp only [Act.put, List.setIfInBounds_toArray, List.set_cons_zero, List.set_cons_succ]
  refine wpAnyH_take (i := 11) (oi := ⟨_, _, _, _, _, _⟩) (v := .pointer (some ⟨w2.heap.size, 0, none⟩)) rfl (by kernel_rfl) (by kernel_rfl) (by kernel_rfl) (fun _ _ _ h => rw_putm (k := 37) (by decide) (by decide) h) (Or.inl ⟨wanted_free rfl, fun w' hSw => ?_⟩) hHeld ?_
  · obtain ⟨s0, s1⟩ := hSw
    go_simp
  try simp only [Act.put, List.setIfInBounds_toArray, List.set_cons_zero, List.set_cons_succ]
  refine wpAnyH_take (i := 12) (oi := ⟨_, _, _, _, _, _⟩) (v := .string t) rfl (by kernel_rfl) (by kernel_rfl) (by kernel_rfl) (fun _ _ _ h => rw_putm (k := 38) (by decide) (by decide) h) (Or.inl ⟨wanted_free rfl, fun w' hSw => ?_⟩) hHeld ?_
  · obtain ⟨s0, s1⟩ := hSw
    go_simp
  try simp only [Act.put, List.setIfInBounds_toArray, List.set_cons_zero, List.set_cons_succ]
  refine wpAnyH_take (i := 13) (oi := ⟨_, _, _, _, _, _⟩) (v := .int .i64 (t.size : Int)) rfl (by kernel_rfl) (by kernel_rfl) (by kernel_rfl) (fun _ _ _ h => rw_putm (k := 39) (by decide) (by decide) h) (Or.inl ⟨wanted_free rfl, fun w' hSw => ?_⟩) hHeld ?_
  · obtain ⟨s0, s1⟩ := hSw
    go_simp
  try simp only [Act.put, List.setIfInBounds_toArray, List.set_cons_zero, List.set_cons_succ]
  refine wpAnyH_take (i := 14) (oi := ⟨_, _, _, _, _, _⟩) (v := .bool true) rfl (by kernel_rfl) (by kernel_rfl) (by kernel_rfl) (fun _ _ _ h => rw_putm (k := 40) (by decide) (by decide) h) (Or.inl ⟨wanted_free rfl, fun w' hSw => ?_⟩) hHeld ?_
  · obtain ⟨s0, s1⟩ := hSw
    go_simp
  try simp only [Act.put, List.setIfInBounds_toArray, List.set_cons_zero, List.set_cons_succ]
  generalize w6.drew = w7 at *
  refine wpAnyH_ready (rs := [15]) (by kernel_rfl) (by simp) (AllReadyH.cons (o := ⟨_, _, _, _, _, _⟩) rfl (fun K hK => ?_) AllReadyH.nil)
  rewrite [if_pos (wanted_free rfl)]
  go_simp
  refine (mustYes _ w7).mono ?_
  rintro r w' ⟨rfl, rfl⟩
  go_wp2_with fail
  refine hK.out _ _ C7.cu (fun _ => ?_)
  clear hK K
  try simp only [Act.put, List.setIfInBounds_toArray, List.set_cons_zero, List.set_cons_succ]
  refine wpAnyH_done (by kernel_rfl) ?_ _
  clear hHeld
  go_wp2_with (first
    | (with_reducible refine wpList_loadV (w := w7) (by with_unfolding_all rfl) 41 (.tmp 6) (by with_unfolding_all rfl) w.heap.size L (by with_unfolding_all rfl) hA7 Tryd.uT_implManifest 3 Tryd.sT_implManifest hL1 ?_)
    | (with_reducible refine wpList_storeH (w := w7) (by with_unfolding_all rfl) 41 (.tmp 6) (.tmp 42) (by with_unfolding_all rfl) w.heap.size L L (by with_unfolding_all rfl) (by with_unfolding_all rfl) hA7 3 Tryd.sT_implManifest hL1 hL1 (List.all_eq_true.1 hL2) ?_; intro w8 hA8 hB8 hF8 hS8; have Q8 := (Only.set hB8 hF8 hS8).row S7 (i1v_ne _) (Nat.ne_of_gt z1); have OW8 := Kee.step OW7 (Only.set hB8 hF8 hS8) z04; have Z8 := Nat.le_trans Z7 (Only.set hB8 hF8 hS8).size)
    | (with_reducible refine wpList_cellH (w := w8) (by with_unfolding_all rfl) 2 (.tmp 7) (.const (.int .i64 0)) (by with_unfolding_all rfl) w1.heap.size 0 (i1v 0) (i1v 0) (.int .i64 0) (by with_unfolding_all rfl) (by with_unfolding_all rfl) rfl Tryd.siz1I Q8 (by simp [i1v]) (by with_unfolding_all rfl) ?_; intro w9 hA9 hB9 hF9 hS9; have Q9 := (Only.set hB9 hF9 hS9).row hA8 nL (Nat.ne_of_lt z1); have B9 : Below w.heap.size w w9 := (B07.trans (hB8 _ (Nat.le_refl _))).trans (hB9 _ (Nat.le_of_lt z1)); have OW9 := Kee.step OW8 (Only.set hB9 hF9 hS9) z14; have Z9 := Nat.le_trans Z8 (Only.set hB9 hF9 hS9).size))
  refine leaves_cons (f := 76) (args := #[.pointer (some ⟨w.heap.size, 0, none⟩), .pointer (some ⟨w1.heap.size, 0, none⟩)]) (by simp) (by simp [go_sem]) ?_
  refine (catchRm _ _ w9).mono ?_
  rintro r u' w' ⟨rfl, rfl, rfl⟩
  exact ⟨_, results_V2 rfl _ w.heap.size L rfl Q9 Tryd.uT_implManifest 3 Tryd.sT_implManifest hL1 w1.heap.size 0 rfl hA9 Tryd.underlying2, L, rfl, hL1, hL2, hM L _ _ _ _ hF5 (Nat.le_of_lt z04) Z9, Kee.made OW9 (Nat.le_of_lt z04) Z9, B9⟩
end Go.Proofs.YtchfpiadfmnphaaDoor
namespace Go.Proofs.YtchfpiadfmnphaaDoor
open Go.RowKit
set_option linter.unusedVariables false

theorem mdI (g p : Nat) (t : ByteArray) (w : World) (hs : t.size ≤ maxLen) (hp : p ≤ t.size) (h : RowV w g (cuv t p)) :
    Calls Tryd.prog 53 #[.pointer (some ⟨g, 0, none⟩)] w (ManT t g (manO t p) w) := by
  cases h1 : textO t p with
  | none => exact mdN0 g p t _ w hs hp (by show _ = _; unfold manO; rw [h1]) h1 h
  | some y1 =>
  obtain ⟨nm, b1⟩ := y1
  have l1 := (textO_some h1).2.1
  cases h2 : countO t b1 10 with
  | none => exact mdN1 g p t _ nm b1 w hs hp (by show _ = _; unfold manO; rw [h1]; simp only; rw [h2]) h1 l1 h2 h
  | some y2 =>
  obtain ⟨k, b2⟩ := y2
  exact mdY g p t _ nm b1 k b2 w hs hp (by show _ = _; unfold manO; rw [h1]; simp only; rw [h2]) h1 l1 h2 (countO_le h2).2 (countO_le h2).1 h
def ManB (a1 a2 : Option Addr) (lo hi : Nat) : Prop := (∀ ad, a1 = some ad → lo ≤ ad.block ∧ ad.block < hi) ∧ (∀ ad, a2 = some ad → lo ≤ ad.block ∧ ad.block < hi) ∧ (∀ x y, a1 = some x → a2 = some y → x.block ≠ y.block)
theorem ManB.mono {a1 a2 : Option Addr} {a b c d : Nat} (h : ManB a1 a2 a b) (h1 : c ≤ a) (h2 : ∀ k, a ≤ k → k < b → k < d) : ManB a1 a2 c d := ⟨fun ad e => ⟨Nat.le_trans h1 (h.1 ad e).1, h2 _ (h.1 ad e).1 (h.1 ad e).2⟩, fun ad e => ⟨Nat.le_trans h1 (h.2.1 ad e).1, h2 _ (h.2.1 ad e).1 (h.2.1 ad e).2⟩, h.2.2⟩
theorem ManB.nil (a b : Nat) : ManB none none a b := ⟨fun _ e => (by cases e), fun _ e => (by cases e), fun _ _ e => (by cases e)⟩
theorem rmAll (t : ByteArray) (w : World) (hs : t.size ≤ maxLen) :
    Calls Tryd.prog 52 #[.string t, .string ⟨#[73]⟩, .func (.func 53) #[] #[]] w fun e w' => ∃ (nm : ByteArray) (ls : List LayV) (bs : List LabV) (a1 : Option Addr) (n1 c1 : Nat) (a2 : Option Addr) (n2 c2 : Nat) (c : Int), e = .returned (.tuple #[.agg #[.string nm, .slice a1 n1 c1, .slice a2 n2 c2], .int .i64 c]) ∧ MnAns t nm ls bs c ∧ (n1 = ls.length ∧ n2 = bs.length) ∧ ManB a1 a2 w.heap.size w'.heap.size ∧ Made w w' (fun w2 => VR w2 a1 (layL ls).flatten ∧ VR w2 a2 (labL bs).flatten) ∧ Below w.heap.size w w' := by
  have nil : ∀ w', Made w w' (fun w2 => VR w2 none (layL []).flatten ∧ VR w2 none (labL []).flatten) := fun w' w2 _ => ⟨fun h => absurd rfl h, fun h => absurd rfl h⟩
  by_cases hbig : 20000 < t.size
  · refine (rmBig t _ _ w hs hbig).mono ?_
    rintro r w' ⟨rfl, hB⟩
    exact ⟨⟨#[]⟩, [], [], none, 0, 0, none, 0, 0, 2, rfl, Or.inl ⟨hbig, rfl, rfl, rfl, rfl⟩, ⟨rfl, rfl⟩, ManB.nil _ _, nil w', hB⟩
  have hs2 : t.size ≤ 20000 := by omega
  have bad : (¬ ∃ nm ls bs, ManOkT t nm ls bs) → Calls Tryd.prog 52 #[.string t, .string ⟨#[73]⟩, .func (.func 53) #[] #[]] w (fun e w' => e = .returned (.tuple #[.agg #[.string ⟨#[]⟩, .slice none 0 0, .slice none 0 0], .int .i64 3]) ∧ Below w.heap.size w w') → Calls Tryd.prog 52 #[.string t, .string ⟨#[73]⟩, .func (.func 53) #[] #[]] w (fun e w' => ∃ (nm : ByteArray) (ls : List LayV) (bs : List LabV) (a1 : Option Addr) (n1 c1 : Nat) (a2 : Option Addr) (n2 c2 : Nat) (c : Int), e = .returned (.tuple #[.agg #[.string nm, .slice a1 n1 c1, .slice a2 n2 c2], .int .i64 c]) ∧ MnAns t nm ls bs c ∧ (n1 = ls.length ∧ n2 = bs.length) ∧ ManB a1 a2 w.heap.size w'.heap.size ∧ Made w w' (fun w2 => VR w2 a1 (layL ls).flatten ∧ VR w2 a2 (labL bs).flatten) ∧ Below w.heap.size w w') := fun hn hc => hc.mono (by
    rintro r w' ⟨rfl, hB⟩
    exact ⟨⟨#[]⟩, [], [], none, 0, 0, none, 0, 0, 3, rfl, Or.inr (Or.inr ⟨hs2, hn, rfl, rfl, rfl, rfl⟩), ⟨rfl, rfl⟩, ManB.nil _ _, nil w', hB⟩)
  by_cases hf : FirstB t 73
  case neg =>
    refine bad ?_ (rmPassNo t _ w hs2 (fun g w0 h0 => passNo g t 73 w0 hs hf h0))
    rintro ⟨_, _, _, k1, _⟩
    exact hf k1
  have hP : ∀ g w0, RowV w0 g (cuv t 0) → Calls Tryd.prog 77 #[.pointer (some ⟨g, 0, none⟩), .string ⟨#[73]⟩] w0 fun e w' => e = .returned (.tuple #[]) ∧ RowV w' g (cuv t 1) ∧ Only g w0 w' := fun g w0 h0 => passYes g t 73 w0 hs hf h0
  cases ho : manO t 1 with
  | none =>
    refine bad ?_ (rmReadNo t _ w hs2 hP (fun g w0 h0 => ?_))
    · rintro ⟨_, _, _, _, q, k1, _⟩
      rw [ho] at k1; cases k1
    · refine (mdI g 1 t w0 hs hf.1 h0).mono ?_
      rintro r w' (⟨nm, ls, bs, q, L, e1, _⟩ | ⟨_, e2, e3⟩)
      · rw [ho] at e1; cases e1
      · exact ⟨e2, e3⟩
  | some y =>
  obtain ⟨nm, ls, bs, q⟩ := y
  have hY : ∀ g w0, RowV w0 g (cuv t 1) → Calls Tryd.prog 53 #[.pointer (some ⟨g, 0, none⟩)] w0 fun r w' => ∃ L, r = .returned (.agg L.toArray) ∧ L.length = 3 ∧ L.all Value.oneCell' = true ∧ ManF L w0.heap.size w'.heap.size ∧ RowV w' g (cuv t q) ∧ Only g w0 w' ∧ Made w0 w' (ManQ nm ls bs L) := fun g w0 h0 => by
    refine (mdI g 1 t w0 hs hf.1 h0).mono ?_
    rintro r w' (⟨nm', ls', bs', q', L, e1, e2, e3, e4, e5, e6, e7, e8, e9, e10⟩ | ⟨e1, _⟩)
    · rw [ho] at e1
      injection e1 with e1
      injection e1 with f1 e1
      injection e1 with f2 e1
      injection e1 with f3 f4
      subst f1 f2 f3 f4
      exact ⟨L, e2, e3, e4, e5, e8, e9, e10⟩
    · rw [ho] at e1; cases e1
  by_cases hq : q = t.size
  · refine (rmYes t _ w hs2 hP (ManQ nm ls bs) ManF (fun L a b c d h h1 h2 => h.mono h1 h2) q hY hq).mono ?_
    rintro r w' ⟨L, rfl, h1, h2, ⟨nm', a1, n1, c1, a2, n2, c2, rfl, f1, f2, f3⟩, hM, hB⟩
    obtain ⟨b1, d1, b2, d2, e, _⟩ := hM.now
    injection e with e0 e
    injection e with e1 e
    injection e with e2 e
    injection e0 with e0
    injection e1 with g1 g2 g3
    injection e2 with g4 g5 g6
    subst e0 g2 g5
    refine ⟨nm', ls, bs, a1, _, c1, a2, _, c2, 0, rfl, Or.inr (Or.inl ⟨hs2, ⟨hf, q, ho, hq⟩, rfl⟩), ⟨rfl, rfl⟩, ⟨f1, f2, f3⟩, hM.imp fun w2 h2 => ?_, hB⟩
    obtain ⟨b1, d1, b2, d2, e, v1, v2⟩ := h2
    injection e with e0 e
    injection e with e1 e
    injection e with e2 e
    injection e1 with g1 g2 g3
    injection e2 with g4 g5 g6
    subst g1 g4
    exact ⟨v1, v2⟩
  · refine bad ?_ (rmEndNo t _ w hs2 hP (ManQ nm ls bs) ManF (fun L a b c d h h1 h2 => h.mono h1 h2) q hY (manO_le ho).1 hq)
    rintro ⟨_, _, _, _, q', k1, k2⟩
    rw [ho] at k1
    injection k1 with k1
    injection k1 with _ k1
    injection k1 with _ k1
    injection k1 with _ f3
    subst f3
    exact hq k2
set_option maxRecDepth 100000 in
set_option maxHeartbeats 4000000 in
theorem implManRd (t : ByteArray) (w : World) (hs : t.size ≤ maxLen) :
    Calls Tryd.prog 36 #[.string t] w fun r w' => ∃ (nm : ByteArray) (ls : List LayV) (bs : List LabV) (a1 : Option Addr) (n1 c1 : Nat) (a2 : Option Addr) (n2 c2 : Nat) (c : Int), r = .returned (.agg #[.string nm, .slice a1 n1 c1, .slice a2 n2 c2, .int .i64 c]) ∧ MnAns t nm ls bs c ∧ (n1 = ls.length ∧ n2 = bs.length) ∧ ManB a1 a2 w.heap.size w'.heap.size ∧ Made w w' (fun w2 => VR w2 a1 (layL ls).flatten ∧ VR w2 a2 (labL bs).flatten) ∧ Below w.heap.size w w' := by
  have hC1 : ∀ w0, Calls Tryd.prog 52 #[.string t, .string ⟨#[73]⟩, .func (.func 53) #[] #[]] w0 fun r w' => ∃ (nm : ByteArray) (ls : List LayV) (bs : List LabV) (a1 : Option Addr) (y1 : Nat) (c1 : Nat) (a2 : Option Addr) (y2 : Nat) (c2 : Nat) (c : Int), r = .returned (.tuple #[.agg #[.string nm, .slice a1 y1 c1, .slice a2 y2 c2], .int .i64 c]) ∧ MnAns t nm ls bs c ∧ (y1 = ls.length ∧ y2 = bs.length) ∧ ManB a1 a2 w0.heap.size w'.heap.size ∧ Made w0 w' (fun w2 => VR w2 a1 (layL ls).flatten ∧ VR w2 a2 (labL bs).flatten) ∧ Below w0.heap.size w0 w' := fun w0 => rmAll t w0 hs
  have HS0 : Hid (Sta [] w [] [] w) := Sta.start w
  clear hs
  go_enter Tryd.func36, Tryd.ntmps36
  go_wp2_with (first
    | ((with_reducible refine wpList_allocV (w := w) (by with_unfolding_all rfl) 60 (by with_unfolding_all rfl) [.string ⟨#[]⟩, .slice none 0 0, .slice none 0 0, .int .i64 0] Tryd.zT_implManifestOut ?_); intro w1 hA1 hB1 hS1; clear hS1; have HS1 := Sta.new HS0 hA1 hB1 (by simp); clear hA1 hB1)
    | (go_at_call 52; (with_reducible refine (hC1 w1).mono ?_); rintro r w2 ⟨nm, ls, bs, a1, y1, c1, a2, y2, c2, c, rfl, an, ln, bn, hP2, hB2⟩; have Han := hidP an; clear an; have Hln := hidP ln; clear ln; have Hbn := hidP bn; clear bn; have HS2 := Sta.made HS1 hB2 hP2; clear hB2 hP2)
    | ((with_reducible refine wpList_allocV (w := w2) (by with_unfolding_all rfl) 41 (by with_unfolding_all rfl) [.string ⟨#[]⟩, .slice none 0 0, .slice none 0 0] Tryd.zT_implManifest ?_); intro w3 hA3 hB3 hS3; clear hS3; have HS3 := Sta.new HS2 hA3 hB3 (by simp); clear hA3 hB3)
    | ((with_reducible refine wpList_storeS (w := w3) (by with_unfolding_all rfl) 41 (.tmp 3) (.tmp 8) (by with_unfolding_all rfl) w2.heap.size [.string ⟨#[]⟩, .slice none 0 0, .slice none 0 0] [.string nm, .slice a1 y1 c1, .slice a2 y2 c2] (by with_unfolding_all rfl) (by with_unfolding_all rfl) (Sta.r (i := 0) HS3 (by with_unfolding_all rfl)) 3 Tryd.sT_implManifest (by with_unfolding_all rfl) (by with_unfolding_all rfl) (by with_unfolding_all rfl) ?_); intro w4 hA4 hO4; have HS4 := Sta.put 0 HS3 rfl hA4 (by simp) hO4; clear hA4 hO4)
    | ((with_reducible refine wpList_loadV (w := w4) (by with_unfolding_all rfl) 41 (.tmp 3) (by with_unfolding_all rfl) w2.heap.size [.string nm, .slice a1 y1 c1, .slice a2 y2 c2] (by with_unfolding_all rfl) (Sta.r (i := 0) HS4 (by with_unfolding_all rfl)) Tryd.uT_implManifest 3 Tryd.sT_implManifest (by with_unfolding_all rfl) ?_))
    | ((with_reducible refine wpList_storeS (w := w4) (by with_unfolding_all rfl) 60 (.tmp 2) (.tmp 12) (by with_unfolding_all rfl) w.heap.size [.string ⟨#[]⟩, .slice none 0 0, .slice none 0 0, .int .i64 0] [.string nm, .slice a1 y1 c1, .slice a2 y2 c2, .int .i64 c] (by with_unfolding_all rfl) (by with_unfolding_all rfl) (Sta.r (i := 1) HS4 (by with_unfolding_all rfl)) 4 Tryd.sT_implManifestOut (by with_unfolding_all rfl) (by with_unfolding_all rfl) (by with_unfolding_all rfl) ?_); intro w5 hA5 hO5; have HS5 := Sta.put 1 HS4 rfl hA5 (by simp) hO5; clear hA5 hO5))
  exact bodyPost_ret (results_V (t := 60) rfl _ w.heap.size [.string nm, .slice a1 y1 c1, .slice a2 y2 c2, .int .i64 c] rfl (Sta.r (i := 1) HS5 (by with_unfolding_all rfl)) Tryd.uT_implManifestOut 4 Tryd.sT_implManifestOut rfl) rfl ⟨nm, ls, bs, a1, y1, c1, a2, y2, c2, c, rfl, Han.out, Hln.out, ManB.mono Hbn.out (Sta.size HS1) (fun k h1 h2 => Sta.lt (i := 0) HS5 rfl k ⟨h1, h2⟩), Sta.made_of (i := 0) HS5 rfl (fun k hk => Nat.le_trans (Sta.size HS1) hk.1), Sta.fin HS5⟩
end Go.Proofs.YtchfpiadfmnphaaDoor
