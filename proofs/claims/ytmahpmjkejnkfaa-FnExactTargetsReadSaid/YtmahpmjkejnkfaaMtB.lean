/- The program's face that reads a whole text: what its deferred function does; readWhole of a link. readWhole of a link, on the program's side. readWhole of targets, on the program's side. The specification's reader of a link. LinkRead, on both sides: one answer. TargetsRead of the program: what it answers, whatever the text. The specification's reader of targets. -/
import Derived.Test.YtmahpmjkejnkfaaLnI
import Derived.Defers
import Derived.Recover
import Derived.Test.YtmahpmjkejnkfaaTdJ
import Derived.Test.YtmahpmjkejnkfaaMtA
import Derived.Test.YtmahpmjkejnkfaaMetU
namespace Go.Proofs.Ytmahpmjkejnkfaa
open Go.RowKit
set_option linter.unusedVariables false

def i1v (c : Int) : List Value := [.int .i64 c]
theorem i1v_ne (c : Int) : i1v c ≠ [] := by simp [i1v]
end Go.Proofs.Ytmahpmjkejnkfaa
namespace Go.Proofs.Ytmahpmjkejnkfaa
open Go.RowKit
set_option linter.unusedVariables false

theorem wpList_alloc1 {P : Program} {ops : Array Oper} {rest : List Oper} {o : Oper} {a : Act} {w : World} {Q : Exit → Act → World → Prop} (hg : o.guard = none) (t : TypeId) (ho : o.op = .alloc t) (z : Int)
    (hi : (P.info? t).map (fun i => i.zero) = some (some (.int .i64 z)))
    (h : ∀ w', RowV w' w.heap.size (i1v z) → Below w.heap.size w w' → w'.heap.size = w.heap.size + 1 → wpList P ops Q rest (a.put o.dst (.pointer (some ⟨w.heap.size, 0, none⟩))) w') : wpList P ops Q (o :: rest) a w := by
  refine wpList_plain hg fun K hK => ?_
  cases hq : P.info? t with
  | none => simp [hq] at hi
  | some i =>
    have hz : i.zero = some (.int .i64 z) := by simpa [hq] using hi
    unfold Oper.wp execOp
    simp only [ho, Sem.run_bind, Instr.alloc, zeroValue, run_typeInfo w hq, hz, newVar, newRow, run_newObj_alloc, Sem.run_pure, Result.andThen_ok]
    exact hK _ _ (h _ (RowV.new w (i1v z) t) ((Below.refl _ _).alloc (Nat.le_refl _) _) (Array.size_push _))
theorem Try.zeroI : (Try.prog.info? 2).map (fun i => i.zero) = some (some (.int .i64 0)) := by kernel_rfl
theorem results_V2 {P : Program} {fn : Func} {a b : Tmp} {t t2 : TypeId} {w : World} (h : fn.results = #[.cell a t, .cell b t2]) (tmps : Array Value) (g : Nat) (l : List Value) (hx : tmps.getD a undef = .pointer (some ⟨g, 0, none⟩))
    (hl : RowV w g l) (hu : ∃ d, P.underlying t = some d ∧ d.isRow = true) (n : Nat) (hi : (P.info? t).map (·.size) = some n) (hn : l.length = n) (g2 : Nat) (c : Int) (hx2 : tmps.getD b undef = .pointer (some ⟨g2, 0, none⟩)) (hl2 : RowV w g2 (i1v c)) (ht2 : P.underlying t2 = some (.int .i64)) :
    (results fn tmps).run P w = .ok (.tuple #[.agg l.toArray, .int .i64 c]) w := by
  obtain ⟨d, hd, hr⟩ := hu
  have := run_loadVar_mid (P := P) w g 0 t l d hl.rng hd hr (by rw [hn]; exact hi)
  rw [Array.getD_eq_getD_getElem?] at hx hx2
  have hc : w.cell? ⟨g2, 0, none⟩ = some (.int .i64 c) := hl2.cell (k := 0) rfl
  have h2 : (loadVar t2 ⟨g2, 0, none⟩).run P w = .ok (.int .i64 c) w := by simp [loadVar, isAgg, run_underlying ht2, go_sem, hc]
  simp [results, h, hx, hx2, asAddr, this, h2]
theorem leaves_tmps {P : Program} {fn : Func} {tmps tmps' : Array Value} {R : Ending → World → Prop} (h : results fn tmps = results fn tmps') : ∀ (ds : List Deferred) (u : FrameMode) (w : World), Leaves P fn tmps R ds u w → Leaves P fn tmps' R ds u w
  | [], .returning, w, hL => by
    obtain ⟨v, h1, h2⟩ := hL
    exact ⟨v, by rw [← h]; exact h1, h2⟩
  | [], .panicking chain, w, hL => hL
  | [], .run, w, hL => hL
  | d :: ds, u, w, hL => by
    obtain ⟨h0, fv, cap, f, args, h1, h2, h3⟩ := hL
    refine ⟨h0, fv, cap, f, args, h1, h2, h3.mono (fun e u' w' hh => ?_)⟩
    cases e with
    | returned v => exact leaves_tmps h ds _ _ hh
    | panicked c => exact leaves_tmps h ds _ _ hh
    | outgrown => exact hh
theorem pair_ret {a b : Value} {x y : Value} (h1 : a = x) (h2 : b = y) : Ending.returned (.tuple #[a, b]) = .returned (.tuple #[x, y]) := by rw [h1, h2]
end Go.Proofs.Ytmahpmjkejnkfaa
namespace Go.Proofs.Ytmahpmjkejnkfaa
open Go.RowKit
set_option linter.unusedVariables false

theorem rtv_nev {v e : Int} {a : Option Addr} {n c : Nat} : rtv v e a n c ≠ [] := by simp [rtv]
theorem OwnTg.store {w w' : World} {base G : Nat} {v : Value} {l : List TarV} (h : OwnTg w base v l) (hF : ∀ k, k ≠ G → w'.heap[k]? = w.heap[k]?) (hG : G < base) : OwnTg w' base v l := own_same h (fun k hk _ => hF k (by have := (own_ge h hk).1; omega))
theorem OwnTg.base {w : World} {base b : Nat} {v : Value} {l : List TarV} (h : OwnTg w base v l) (hb : b ≤ base) : OwnTg w b v l := by
  refine ⟨h.1, ?_⟩
  rcases h.2 with h0 | ⟨g, cap, cur, hv, hbg, h1⟩
  · exact .inl h0
  · exact .inr ⟨g, cap, cur, hv, Nat.le_trans hb hbg, h1⟩
set_option maxRecDepth 100000 in
set_option maxHeartbeats 1000000 in
theorem catchPt (G6 G7 : Nat) (l : List Value) (hl : l.length = 3) (c : Int) (w : World) (hne : G6 ≠ G7) (h6 : RowV w G6 l) (h7 : RowV w G7 (i1v c)) :
    CallsD Try.prog 94 #[.pointer (some ⟨G6, 0, none⟩), .pointer (some ⟨G7, 0, none⟩)] (.panicking [{ v := faultV, recovered := false }]) w fun e u' w' =>
      e = .returned (.tuple #[]) ∧ u' = .panicking [{ v := faultV, recovered := true }] ∧ RowV w' G6 (rtv 0 0 none 0 0) ∧ RowV w' G7 (i1v 3) ∧ ∀ B, B ≤ G6 → B ≤ G7 → Below B w w' := by
  refine callsD_of_wpS Try.func94 rfl fun c₀ cs hu => ?_
  apply wpS_seq
  apply wpS_region
  simp [wpOpsS, go_sem, recoverD, hu, Try.ntmps94, Exit.thenS]
  refine wpS_cond (t := true) (by simp [Act.eval, Array.replicate]) ?_
  simp only [if_true]
  refine wpS_of_wp ?_
  have hact : (#[Value.pointer (some { block := G6, off := 0 }), Value.pointer (some { block := G7, off := 0 })] ++ ((Array.replicate 4 undef).setIfInBounds 1 faultV).setIfInBounds 2 (Value.bool true) : Array Value) = #[.pointer (some ⟨G6, 0, none⟩), .pointer (some ⟨G7, 0, none⟩), undef, faultV, .bool true, undef] := rfl
  rw [hact]
  clear hact
  have z6 := h6.lt (show l ≠ [] from fun e => by rw [e] at hl; cases hl)
  have z7 := h7.lt (i1v_ne _)
  go_wp2_with (first
    | (with_reducible refine wpList_allocV (w := w) (by with_unfolding_all rfl) 44 (by with_unfolding_all rfl) (rtv 0 0 none 0 0) Try.infoTsz ?_; intro w1 hA1 hB1 hS1; clear hS1; have R6 := h6.below hB1 z6; have R7 := h7.below hB1 z7)
    | (with_reducible refine wpList_loadV (w := w1) (by with_unfolding_all rfl) 44 (.tmp 2) (by with_unfolding_all rfl) w.heap.size (rtv 0 0 none 0 0) (by with_unfolding_all rfl) hA1 Try.undTs 3 Try.sizeTs (by with_unfolding_all rfl) ?_)
    | (with_reducible refine wpList_storeH (w := w1) (by with_unfolding_all rfl) 44 (.tmp 0) (.tmp 5) (by with_unfolding_all rfl) G6 l (rtv 0 0 none 0 0) (by with_unfolding_all rfl) (by with_unfolding_all rfl) R6 3 Try.sizeTs hl (by with_unfolding_all rfl) (rtv_one _ _ _ _ _) ?_; intro w2 hA2 hB2 hF2 hS2; have Q7 := (Only.set hB2 hF2 hS2).row R7 (i1v_ne _) (Ne.symm hne))
    | (with_reducible refine wpList_cellH (w := w2) (by with_unfolding_all rfl) 2 (.tmp 1) (.const (.int .i64 3)) (by with_unfolding_all rfl) G7 0 (i1v c) (i1v 3) (.int .i64 3) (by with_unfolding_all rfl) (by with_unfolding_all rfl) rfl Try.siz1I Q7 (by simp [i1v]) (by with_unfolding_all rfl) ?_; intro w3 hA3 hB3 hF3 hS3; have Q6 := (Only.set hB3 hF3 hS3).row hA2 (rtv_nev) hne; have HB : ∀ B, B ≤ G6 → B ≤ G7 → Below B w w3 := fun B b1 b2 => ((hB1.mono (Nat.le_trans b1 (Nat.le_of_lt z6))).trans (hB2 B b1)).trans (hB3 B b2)))
  simp [bodyPostS, results, Try.results94]
  exact ⟨Q6, hA3, HB⟩
set_option maxRecDepth 100000 in
theorem catchRt (x y : Option Addr) (w : World) :
    CallsD Try.prog 94 #[.pointer x, .pointer y] .returning w fun e u' w' => e = .returned (.tuple #[]) ∧ u' = .returning ∧ w = w' := by
  refine callsD_of_wpS Try.func94 rfl fun c₀ cs hu => ?_
  apply wpS_seq
  apply wpS_region
  simp [wpOpsS, go_sem, recoverD, hu, Try.ntmps94, Exit.thenS]
  refine wpS_cond (t := false) (by simp [Act.eval, Array.replicate]) ?_
  simp only [Bool.false_eq_true, if_false]
  refine wpS_of_wp (wp_skip ?_)
  cases c₀
  simp_all [bodyPostS, results, Try.results94]
theorem rw_putt {R : Ending → World → Prop} {c : List PanicEntry} {a : Act} {k : Nat} {v : Value} {w : World} (h6 : k ≠ 6) (h7 : k ≠ 7) (h : bodyPostD Try.prog Try.f54 R (.panic c) (a.put (some k) v) w) : bodyPostD Try.prog Try.f54 R (.panic c) a w := by
  refine leaves_tmps ?_ _ _ _ h
  simp [results, Try.results54, Act.put, Array.getElem?_setIfInBounds_ne h6, Array.getElem?_setIfInBounds_ne h7]
set_option maxRecDepth 100000 in
set_option maxHeartbeats 1000000 in
theorem rtBig (t m : ByteArray) (f : Value) (w : World) (hs : t.size ≤ maxLen) (hb : 20000 < t.size) :
    Calls Try.prog 54 #[.string t, .string m, f] w fun e w' => e = .returned (.tuple #[.agg #[.int .i64 0, .int .i64 0, .slice none 0 0], .int .i64 2]) ∧ Below w.heap.size w w' := by
  unfold maxLen at hs
  have d1 : decide ((20000 : Int) < (t.size : Int)) = true := decide_eq_true (by omega)
  go_enter_defers Try.func54, Try.ntmps54
  go_wp2_with (first
    | (with_reducible refine wpList_allocV (w := w) (by with_unfolding_all rfl) 44 (by with_unfolding_all rfl) (rtv 0 0 none 0 0) Try.infoTsz ?_; intro w1 hA1 hB1 hS1; have z1 : w.heap.size < w1.heap.size := (by omega); clear hS1)
    | (with_reducible refine wpList_alloc1 (w := w1) (by with_unfolding_all rfl) 2 (by with_unfolding_all rfl) 0 Try.zeroI ?_; intro w2 hA2 hB2 hS2; clear hS2; have R2 := hA1.below hB2 z1)
    | (with_reducible refine wpList_loadV (w := w2) (by with_unfolding_all rfl) 44 (.tmp 6) (by with_unfolding_all rfl) w.heap.size (rtv 0 0 none 0 0) (by with_unfolding_all rfl) R2 Try.undTs 3 Try.sizeTs (by with_unfolding_all rfl) ?_)
    | (with_reducible refine wpList_storeH (w := w2) (by with_unfolding_all rfl) 44 (.tmp 6) (.tmp 12) (by with_unfolding_all rfl) w.heap.size (rtv 0 0 none 0 0) (rtv 0 0 none 0 0) (by with_unfolding_all rfl) (by with_unfolding_all rfl) R2 3 Try.sizeTs (by with_unfolding_all rfl) (by with_unfolding_all rfl) (rtv_one _ _ _ _ _) ?_; intro w3 hA3 hB3 hF3 hS3; have Q3 := (Only.set hB3 hF3 hS3).row hA2 (i1v_ne _) (Nat.ne_of_gt z1))
    | (with_reducible refine wpList_cellH (w := w3) (by with_unfolding_all rfl) 2 (.tmp 7) (.const (.int .i64 2)) (by with_unfolding_all rfl) w1.heap.size 0 (i1v 0) (i1v 2) (.int .i64 2) (by with_unfolding_all rfl) (by with_unfolding_all rfl) rfl Try.siz1I Q3 (by simp [i1v]) (by with_unfolding_all rfl) ?_; intro w4 hA4 hB4 hF4 hS4; have Q4 := (Only.set hB4 hF4 hS4).row hA3 (rtv_nev) (Nat.ne_of_lt z1); have B4 : Below w.heap.size w w4 := ((hB1.trans (hB2.mono (Nat.le_of_lt z1))).trans (hB3 _ (Nat.le_refl _))).trans (hB4 _ (Nat.le_of_lt z1))))
  exact ⟨_, results_V2 rfl _ w.heap.size (rtv 0 0 none 0 0) rfl Q4 Try.undTs 3 Try.sizeTs rfl w1.heap.size 2 rfl hA4 Try.underlying2, rfl, B4⟩
set_option maxRecDepth 100000 in
set_option maxHeartbeats 1000000 in
theorem rtPassNo (t m : ByteArray) (w : World) (hs : t.size ≤ 20000) (hP : ∀ g w0, RowV w0 g (cuv t 0) → Calls Try.prog 74 #[.pointer (some ⟨g, 0, none⟩), .string m] w0 fun e w' => e = .panicked [{ v := faultV, recovered := false }] ∧ Only g w0 w') :
    Calls Try.prog 54 #[.string t, .string m, .func (.func 55) #[] #[]] w fun e w' => e = .returned (.tuple #[.agg #[.int .i64 0, .int .i64 0, .slice none 0 0], .int .i64 3]) ∧ Below w.heap.size w w' := by
  have d1 : decide ((20000 : Int) < (t.size : Int)) = false := decide_eq_false (by omega)
  have hmf : ∀ (fn : Fn) (first cap : Array Value) (w : World), (Instr.makeFunc fn first cap).run Try.prog w = .ok (.func fn first cap) w := fun _ _ _ _ => rfl
  go_enter_defers Try.func54, Try.ntmps54
  go_wp2_with (first
    | (with_reducible refine wpList_allocV (w := w) (by with_unfolding_all rfl) 44 (by with_unfolding_all rfl) (rtv 0 0 none 0 0) Try.infoTsz ?_; intro w1 hA1 hB1 hS1; have z1 : w.heap.size < w1.heap.size := (by omega); clear hS1)
    | (with_reducible refine wpList_alloc1 (w := w1) (by with_unfolding_all rfl) 2 (by with_unfolding_all rfl) 0 Try.zeroI ?_; intro w2 hA2 hB2 hS2; have z2 : w1.heap.size < w2.heap.size := (by omega); clear hS2; have R2 := hA1.below hB2 z1; have B02 : Below w.heap.size w w2 := hB1.trans (hB2.mono (Nat.le_of_lt z1)))
    | (with_reducible refine wpList_boxV (w := w2) (by with_unfolding_all rfl) 108 (.tmp 16) (by with_unfolding_all rfl) (cuv t 0) (by with_unfolding_all rfl) ?_; intro w3 hA3 hB3 hS3; clear hS3; have R3 := R2.below hB3 (Nat.lt_trans z1 z2); have S3 := hA2.below hB3 z2; have B03 : Below w.heap.size w w3 := B02.trans (hB3.mono (Nat.le_of_lt (Nat.lt_trans z1 z2))); obtain ⟨c0, c1⟩ := hA3.cu)
    | (go_at_call 74; with_reducible refine (hP _ w3 hA3).mono ?_; rintro r w4 ⟨rfl, hO4⟩; have R4 := hO4.row R3 (rtv_nev) (Nat.ne_of_lt (Nat.lt_trans z1 z2)); have S4 := hO4.row S3 (i1v_ne _) (Nat.ne_of_lt z2); have B04 : Below w.heap.size w w4 := B03.trans (hO4.bel (Nat.le_of_lt (Nat.lt_trans z1 z2)))))
  refine leaves_cons (f := 94) (args := #[.pointer (some ⟨w.heap.size, 0, none⟩), .pointer (some ⟨w1.heap.size, 0, none⟩)]) (by simp) (by simp [go_sem]) ?_
  refine (catchPt w.heap.size w1.heap.size (rtv 0 0 none 0 0) rfl 0 w4 (Nat.ne_of_lt z1) R4 S4).mono ?_
  rintro e u' w9 ⟨rfl, rfl, q6, q7, qB⟩
  exact ⟨_, results_V2 rfl _ w.heap.size (rtv 0 0 none 0 0) rfl q6 Try.undTs 3 Try.sizeTs rfl w1.heap.size 3 rfl q7 Try.underlying2, rfl, B04.trans (qB _ (Nat.le_refl _) (Nat.le_of_lt z1))⟩
set_option maxRecDepth 100000 in
set_option maxHeartbeats 1000000 in
theorem rtReadNo (t m : ByteArray) (w : World) (hs : t.size ≤ 20000) (hP : ∀ g w0, RowV w0 g (cuv t 0) → Calls Try.prog 74 #[.pointer (some ⟨g, 0, none⟩), .string m] w0 fun e w' => e = .returned (.tuple #[]) ∧ RowV w' g (cuv t 1) ∧ Only g w0 w') (hK : ∀ g w0, RowV w0 g (cuv t 1) → Calls Try.prog 55 #[.pointer (some ⟨g, 0, none⟩)] w0 fun e w' => e = .panicked [{ v := faultV, recovered := false }] ∧ Only g w0 w') :
    Calls Try.prog 54 #[.string t, .string m, .func (.func 55) #[] #[]] w fun e w' => e = .returned (.tuple #[.agg #[.int .i64 0, .int .i64 0, .slice none 0 0], .int .i64 3]) ∧ Below w.heap.size w w' := by
  have d1 : decide ((20000 : Int) < (t.size : Int)) = false := decide_eq_false (by omega)
  have hmf : ∀ (fn : Fn) (first cap : Array Value) (w : World), (Instr.makeFunc fn first cap).run Try.prog w = .ok (.func fn first cap) w := fun _ _ _ _ => rfl
  go_enter_defers Try.func54, Try.ntmps54
  go_wp2_with (first
    | (with_reducible refine wpList_allocV (w := w) (by with_unfolding_all rfl) 44 (by with_unfolding_all rfl) (rtv 0 0 none 0 0) Try.infoTsz ?_; intro w1 hA1 hB1 hS1; have z1 : w.heap.size < w1.heap.size := (by omega); clear hS1)
    | (with_reducible refine wpList_alloc1 (w := w1) (by with_unfolding_all rfl) 2 (by with_unfolding_all rfl) 0 Try.zeroI ?_; intro w2 hA2 hB2 hS2; have z2 : w1.heap.size < w2.heap.size := (by omega); clear hS2; have R2 := hA1.below hB2 z1; have B02 : Below w.heap.size w w2 := hB1.trans (hB2.mono (Nat.le_of_lt z1)))
    | (with_reducible refine wpList_boxV (w := w2) (by with_unfolding_all rfl) 108 (.tmp 16) (by with_unfolding_all rfl) (cuv t 0) (by with_unfolding_all rfl) ?_; intro w3 hA3 hB3 hS3; clear hS3; have R3 := R2.below hB3 (Nat.lt_trans z1 z2); have S3 := hA2.below hB3 z2; have B03 : Below w.heap.size w w3 := B02.trans (hB3.mono (Nat.le_of_lt (Nat.lt_trans z1 z2))); obtain ⟨c0, c1⟩ := hA3.cu)
    | (go_at_call 74; with_reducible refine (hP _ w3 hA3).mono ?_; rintro r w4 ⟨rfl, hA4, hO4⟩; have R4 := hO4.row R3 (rtv_nev) (Nat.ne_of_lt (Nat.lt_trans z1 z2)); have S4 := hO4.row S3 (i1v_ne _) (Nat.ne_of_lt z2); have B04 : Below w.heap.size w w4 := B03.trans (hO4.bel (Nat.le_of_lt (Nat.lt_trans z1 z2))); have z04 := Nat.lt_of_lt_of_le (Nat.lt_trans z1 z2) (Nat.le_trans hB3.size hO4.size); have z14 := Nat.lt_of_lt_of_le z2 (Nat.le_trans hB3.size hO4.size); clear c0 c1)
    | (go_at_call 55; with_reducible refine (hK _ w4 hA4).mono ?_; rintro r w5 ⟨rfl, hO5⟩; have R5 := hO5.row R4 (rtv_nev) (Nat.ne_of_lt (Nat.lt_trans z1 z2)); have S5 := hO5.row S4 (i1v_ne _) (Nat.ne_of_lt z2); have B05 : Below w.heap.size w w5 := B04.trans (hO5.bel (Nat.le_of_lt (Nat.lt_trans z1 z2)))))
  refine leaves_cons (f := 94) (args := #[.pointer (some ⟨w.heap.size, 0, none⟩), .pointer (some ⟨w1.heap.size, 0, none⟩)]) (by simp) (by simp [go_sem]) ?_
  refine (catchPt w.heap.size w1.heap.size (rtv 0 0 none 0 0) rfl 0 w5 (Nat.ne_of_lt z1) R5 S5).mono ?_
  rintro e u' w9 ⟨rfl, rfl, q6, q7, qB⟩
  exact ⟨_, results_V2 rfl _ w.heap.size (rtv 0 0 none 0 0) rfl q6 Try.undTs 3 Try.sizeTs rfl w1.heap.size 3 rfl q7 Try.underlying2, rfl, B05.trans (qB _ (Nat.le_refl _) (Nat.le_of_lt z1))⟩
set_option maxRecDepth 100000 in
set_option maxHeartbeats 1000000 in
theorem rtEndNo (t m : ByteArray) (w : World) (hs : t.size ≤ 20000) (hP : ∀ g w0, RowV w0 g (cuv t 0) → Calls Try.prog 74 #[.pointer (some ⟨g, 0, none⟩), .string m] w0 fun e w' => e = .returned (.tuple #[]) ∧ RowV w' g (cuv t 1) ∧ Only g w0 w') (v e : Int) (n : Nat) (l : List TarV) (b : Nat) (hK : ∀ g w0, RowV w0 g (cuv t 1) → Calls Try.prog 55 #[.pointer (some ⟨g, 0, none⟩)] w0 fun r w' => ∃ a c, r = .returned (.agg #[.int .i64 v, .int .i64 e, .slice a n c]) ∧ RowV w' g (cuv t b) ∧ Only g w0 w' ∧ OwnTg w' w0.heap.size (.slice a n c) l) (hb : b ≤ t.size) (hne : ¬ b = t.size) :
    Calls Try.prog 54 #[.string t, .string m, .func (.func 55) #[] #[]] w fun e w' => e = .returned (.tuple #[.agg #[.int .i64 0, .int .i64 0, .slice none 0 0], .int .i64 3]) ∧ Below w.heap.size w w' := by
  have e1 : ((b : Int) == (t.size : Int)) = false := beq_eq_false_iff_ne.2 (by omega)
  have e2 : (b == t.size) = false := beq_eq_false_iff_ne.2 hne
  have d1 : decide ((20000 : Int) < (t.size : Int)) = false := decide_eq_false (by omega)
  have hmf : ∀ (fn : Fn) (first cap : Array Value) (w : World), (Instr.makeFunc fn first cap).run Try.prog w = .ok (.func fn first cap) w := fun _ _ _ _ => rfl
  go_enter_defers Try.func54, Try.ntmps54
  go_wp2_with (first
    | (with_reducible refine wpList_allocV (w := w) (by with_unfolding_all rfl) 44 (by with_unfolding_all rfl) (rtv 0 0 none 0 0) Try.infoTsz ?_; intro w1 hA1 hB1 hS1; have z1 : w.heap.size < w1.heap.size := (by omega); clear hS1)
    | (with_reducible refine wpList_alloc1 (w := w1) (by with_unfolding_all rfl) 2 (by with_unfolding_all rfl) 0 Try.zeroI ?_; intro w2 hA2 hB2 hS2; have z2 : w1.heap.size < w2.heap.size := (by omega); clear hS2; have R2 := hA1.below hB2 z1; have B02 : Below w.heap.size w w2 := hB1.trans (hB2.mono (Nat.le_of_lt z1)))
    | (with_reducible refine wpList_boxV (w := w2) (by with_unfolding_all rfl) 108 (.tmp 16) (by with_unfolding_all rfl) (cuv t 0) (by with_unfolding_all rfl) ?_; intro w3 hA3 hB3 hS3; clear hS3; have R3 := R2.below hB3 (Nat.lt_trans z1 z2); have S3 := hA2.below hB3 z2; have B03 : Below w.heap.size w w3 := B02.trans (hB3.mono (Nat.le_of_lt (Nat.lt_trans z1 z2))); obtain ⟨c0, c1⟩ := hA3.cu)
    | (go_at_call 74; with_reducible refine (hP _ w3 hA3).mono ?_; rintro r w4 ⟨rfl, hA4, hO4⟩; have R4 := hO4.row R3 (rtv_nev) (Nat.ne_of_lt (Nat.lt_trans z1 z2)); have S4 := hO4.row S3 (i1v_ne _) (Nat.ne_of_lt z2); have B04 : Below w.heap.size w w4 := B03.trans (hO4.bel (Nat.le_of_lt (Nat.lt_trans z1 z2))); have z04 := Nat.lt_of_lt_of_le (Nat.lt_trans z1 z2) (Nat.le_trans hB3.size hO4.size); have z14 := Nat.lt_of_lt_of_le z2 (Nat.le_trans hB3.size hO4.size); clear c0 c1)
    | (go_at_call 55; with_reducible refine (hK _ w4 hA4).mono ?_; rintro r w5 ⟨a, c, rfl, hA5, hO5, hW5⟩; have R5 := hO5.row R4 (rtv_nev) (Nat.ne_of_lt (Nat.lt_trans z1 z2)); have S5 := hO5.row S4 (i1v_ne _) (Nat.ne_of_lt z2); have B05 : Below w.heap.size w w5 := B04.trans (hO5.bel (Nat.le_of_lt (Nat.lt_trans z1 z2))))
    | (with_reducible refine wpList_storeH (w := w5) (by with_unfolding_all rfl) 44 (.tmp 6) (.tmp 25) (by with_unfolding_all rfl) w.heap.size (rtv 0 0 none 0 0) (rtv v e a n c) (by with_unfolding_all rfl) (by with_unfolding_all rfl) R5 3 Try.sizeTs (by with_unfolding_all rfl) (by with_unfolding_all rfl) (rtv_one _ _ _ _ _) ?_; intro w6 hA6 hB6 hF6 hS6; have S6 := (Only.set hB6 hF6 hS6).row S5 (i1v_ne _) (Nat.ne_of_gt z1); have C6 := (Only.set hB6 hF6 hS6).row hA5 (cuv_ne _ _) (Nat.ne_of_gt (Nat.lt_trans z1 z2)); have B06 : Below w.heap.size w w6 := B05.trans (hB6 _ (Nat.le_refl _)); have OW6 := OwnTg.store hW5 hF6 z04))
  have hA7 := hA6.drew
  have OW7 : OwnTg w6.drew w4.heap.size (.slice a n c) l := OW6
  have S7 := S6.drew
  have C7 := C6.drew
  have B07 := B06.drew
  refine wp_region_held_drew (S := fun w' => w'.cell? ⟨w2.heap.size, 0, none⟩ = some (.string t) ∧ w'.cell? ⟨w2.heap.size, 1, none⟩ = some (.int .i64 (b : Int))) (by kernel_rfl) C7.cu (fun hHeld => ?_)
  refine wpAnyH_take (i := 0) (oi := ⟨_, _, _, _, _, _⟩) (v := .pointer (some ⟨w2.heap.size, 0, none⟩)) rfl (by kernel_rfl) (by kernel_rfl) (by kernel_rfl) (fun _ _ _ h => rw_putt (k := 26) (by decide) (by decide) h) (Or.inl ⟨wanted_free rfl, fun w' hSw => ?_⟩) hHeld ?_
  · obtain ⟨s0, s1⟩ := hSw
    go_simp
  try simp only [Act.put, List.setIfInBounds_toArray, List.set_cons_zero, List.set_cons_succ]
  refine wpAnyH_take (i := 1) (oi := ⟨_, _, _, _, _, _⟩) (v := .pointer (some ⟨w2.heap.size, 0, none⟩)) rfl (by kernel_rfl) (by kernel_rfl) (by kernel_rfl) (fun _ _ _ h => rw_putt (k := 27) (by decide) (by decide) h) (Or.inl ⟨wanted_free rfl, fun w' hSw => ?_⟩) hHeld ?_
  · obtain ⟨s0, s1⟩ := hSw
    go_simp
  try simp only [Act.put, List.setIfInBounds_toArray, List.set_cons_zero, List.set_cons_succ]
  refine wpAnyH_take (i := 2) (oi := ⟨_, _, _, _, _, _⟩) (v := .pointer (some ⟨w2.heap.size, 0, none⟩)) rfl (by kernel_rfl) (by kernel_rfl) (by kernel_rfl) (fun _ _ _ h => rw_putt (k := 28) (by decide) (by decide) h) (Or.inl ⟨wanted_free rfl, fun w' hSw => ?_⟩) hHeld ?_
  · obtain ⟨s0, s1⟩ := hSw
    go_simp
  try simp only [Act.put, List.setIfInBounds_toArray, List.set_cons_zero, List.set_cons_succ]
  refine wpAnyH_take (i := 3) (oi := ⟨_, _, _, _, _, _⟩) (v := .pointer (some ⟨w2.heap.size, 0, none⟩)) rfl (by kernel_rfl) (by kernel_rfl) (by kernel_rfl) (fun _ _ _ h => rw_putt (k := 29) (by decide) (by decide) h) (Or.inl ⟨wanted_free rfl, fun w' hSw => ?_⟩) hHeld ?_
  · obtain ⟨s0, s1⟩ := hSw
    go_simp
  try simp only [Act.put, List.setIfInBounds_toArray, List.set_cons_zero, List.set_cons_succ]
  refine wpAnyH_take (i := 4) (oi := ⟨_, _, _, _, _, _⟩) (v := .pointer (some ⟨w2.heap.size, 0, none⟩)) rfl (by kernel_rfl) (by kernel_rfl) (by kernel_rfl) (fun _ _ _ h => rw_putt (k := 30) (by decide) (by decide) h) (Or.inl ⟨wanted_free rfl, fun w' hSw => ?_⟩) hHeld ?_
  · obtain ⟨s0, s1⟩ := hSw
    go_simp
  try simp only [Act.put, List.setIfInBounds_toArray, List.set_cons_zero, List.set_cons_succ]
  refine wpAnyH_take (i := 5) (oi := ⟨_, _, _, _, _, _⟩) (v := .pointer (some ⟨w2.heap.size, 0, none⟩)) rfl (by kernel_rfl) (by kernel_rfl) (by kernel_rfl) (fun _ _ _ h => rw_putt (k := 31) (by decide) (by decide) h) (Or.inl ⟨wanted_free rfl, fun w' hSw => ?_⟩) hHeld ?_
  · obtain ⟨s0, s1⟩ := hSw
    go_simp
  try simp only [Act.put, List.setIfInBounds_toArray, List.set_cons_zero, List.set_cons_succ]
  refine wpAnyH_take (i := 6) (oi := ⟨_, _, _, _, _, _⟩) (v := .pointer (some ⟨w2.heap.size, 1, none⟩)) rfl (by kernel_rfl) (by kernel_rfl) (by kernel_rfl) (fun _ _ _ h => rw_putt (k := 32) (by decide) (by decide) h) (Or.inl ⟨wanted_free rfl, fun w' hSw => ?_⟩) hHeld ?_
  · obtain ⟨s0, s1⟩ := hSw
    go_simp
  try simp only [Act.put, List.setIfInBounds_toArray, List.set_cons_zero, List.set_cons_succ]
  refine wpAnyH_take (i := 7) (oi := ⟨_, _, _, _, _, _⟩) (v := .int .i64 (b : Int)) rfl (by kernel_rfl) (by kernel_rfl) (by kernel_rfl) (fun _ _ _ h => rw_putt (k := 33) (by decide) (by decide) h) (Or.inl ⟨wanted_free rfl, fun w' hSw => ?_⟩) hHeld ?_
  · obtain ⟨s0, s1⟩ := hSw
    go_simp
  try simp only [Act.put, List.setIfInBounds_toArray, List.set_cons_zero, List.set_cons_succ]
  refine wpAnyH_take (i := 8) (oi := ⟨_, _, _, _, _, _⟩) (v := .pointer (some ⟨w2.heap.size, 0, none⟩)) rfl (by kernel_rfl) (by kernel_rfl) (by kernel_rfl) (fun _ _ _ h => rw_putt (k := 34) (by decide) (by decide) h) (Or.inl ⟨wanted_free rfl, fun w' hSw => ?_⟩) hHeld ?_
  · obtain ⟨s0, s1⟩ := hSw
    go_simp
  try simp only [Act.put, List.setIfInBounds_toArray, List.set_cons_zero, List.set_cons_succ]
  refine wpAnyH_take (i := 9) (oi := ⟨_, _, _, _, _, _⟩) (v := .pointer (some ⟨w2.heap.size, 0, none⟩)) rfl (by kernel_rfl) (by kernel_rfl) (by kernel_rfl) (fun _ _ _ h => rw_putt (k := 35) (by decide) (by decide) h) (Or.inl ⟨wanted_free rfl, fun w' hSw => ?_⟩) hHeld ?_
  · obtain ⟨s0, s1⟩ := hSw
    go_simp
  try simp only [Act.put, List.setIfInBounds_toArray, List.set_cons_zero, List.set_cons_succ]
  refine wpAnyH_take (i := 10) (oi := ⟨_, _, _, _, _, _⟩) (v := .pointer (some ⟨w2.heap.size, 0, none⟩)) rfl (by kernel_rfl) (by kernel_rfl) (by kernel_rfl) (fun _ _ _ h => rw_putt (k := 36) (by decide) (by decide) h) (Or.inl ⟨wanted_free rfl, fun w' hSw => ?_⟩) hHeld ?_
  · obtain ⟨s0, s1⟩ := hSw
    go_simp
  try simp only [Act.put, List.setIfInBounds_toArray, List.set_cons_zero, List.set_cons_succ]
  refine wpAnyH_take (i := 11) (oi := ⟨_, _, _, _, _, _⟩) (v := .pointer (some ⟨w2.heap.size, 0, none⟩)) rfl (by kernel_rfl) (by kernel_rfl) (by kernel_rfl) (fun _ _ _ h => rw_putt (k := 37) (by decide) (by decide) h) (Or.inl ⟨wanted_free rfl, fun w' hSw => ?_⟩) hHeld ?_
  · obtain ⟨s0, s1⟩ := hSw
    go_simp
  try simp only [Act.put, List.setIfInBounds_toArray, List.set_cons_zero, List.set_cons_succ]
  refine wpAnyH_take (i := 12) (oi := ⟨_, _, _, _, _, _⟩) (v := .string t) rfl (by kernel_rfl) (by kernel_rfl) (by kernel_rfl) (fun _ _ _ h => rw_putt (k := 38) (by decide) (by decide) h) (Or.inl ⟨wanted_free rfl, fun w' hSw => ?_⟩) hHeld ?_
  · obtain ⟨s0, s1⟩ := hSw
    go_simp
  try simp only [Act.put, List.setIfInBounds_toArray, List.set_cons_zero, List.set_cons_succ]
  refine wpAnyH_take (i := 13) (oi := ⟨_, _, _, _, _, _⟩) (v := .int .i64 (t.size : Int)) rfl (by kernel_rfl) (by kernel_rfl) (by kernel_rfl) (fun _ _ _ h => rw_putt (k := 39) (by decide) (by decide) h) (Or.inl ⟨wanted_free rfl, fun w' hSw => ?_⟩) hHeld ?_
  · obtain ⟨s0, s1⟩ := hSw
    go_simp
  try simp only [Act.put, List.setIfInBounds_toArray, List.set_cons_zero, List.set_cons_succ]
  refine wpAnyH_take (i := 14) (oi := ⟨_, _, _, _, _, _⟩) (v := .bool false) rfl (by kernel_rfl) (by kernel_rfl) (by kernel_rfl) (fun _ _ _ h => rw_putt (k := 40) (by decide) (by decide) h) (Or.inl ⟨wanted_free rfl, fun w' hSw => ?_⟩) hHeld ?_
  · obtain ⟨s0, s1⟩ := hSw
    go_simp
  try simp only [Act.put, List.setIfInBounds_toArray, List.set_cons_zero, List.set_cons_succ]
  generalize w6.drew = w7 at *
  refine wpAnyH_ready (rs := [15]) (by kernel_rfl) (by simp) (AllReadyH.cons (o := ⟨_, _, _, _, _, _⟩) rfl (fun K hK => ?_) AllReadyH.nil)
  rewrite [if_pos (wanted_free rfl)]
  go_simp
  refine (mustNo _ w7).mono ?_
  rintro r w' ⟨rfl, rfl⟩
  refine leaves_cons (f := 94) (args := #[.pointer (some ⟨w.heap.size, 0, none⟩), .pointer (some ⟨w1.heap.size, 0, none⟩)]) (by simp) (by simp [go_sem]) ?_
  refine (catchPt w.heap.size w1.heap.size (rtv v e a n c) rfl 0 w7 (Nat.ne_of_lt z1) hA7 S7).mono ?_
  rintro e u' w9 ⟨rfl, rfl, q6, q7, qB⟩
  exact ⟨_, results_V2 rfl _ w.heap.size (rtv 0 0 none 0 0) rfl q6 Try.undTs 3 Try.sizeTs rfl w1.heap.size 3 rfl q7 Try.underlying2, rfl, B07.trans (qB _ (Nat.le_refl _) (Nat.le_of_lt z1))⟩
set_option maxRecDepth 100000 in
set_option maxHeartbeats 1000000 in
theorem rtYes (t m : ByteArray) (w : World) (hs : t.size ≤ 20000) (hP : ∀ g w0, RowV w0 g (cuv t 0) → Calls Try.prog 74 #[.pointer (some ⟨g, 0, none⟩), .string m] w0 fun e w' => e = .returned (.tuple #[]) ∧ RowV w' g (cuv t 1) ∧ Only g w0 w') (v e : Int) (n : Nat) (l : List TarV) (b : Nat) (hK : ∀ g w0, RowV w0 g (cuv t 1) → Calls Try.prog 55 #[.pointer (some ⟨g, 0, none⟩)] w0 fun r w' => ∃ a c, r = .returned (.agg #[.int .i64 v, .int .i64 e, .slice a n c]) ∧ RowV w' g (cuv t b) ∧ Only g w0 w' ∧ OwnTg w' w0.heap.size (.slice a n c) l) (hb : b = t.size) :
    Calls Try.prog 54 #[.string t, .string m, .func (.func 55) #[] #[]] w fun r w' => ∃ a c, r = .returned (.tuple #[.agg #[.int .i64 v, .int .i64 e, .slice a n c], .int .i64 0]) ∧ OwnTg w' w.heap.size (.slice a n c) l ∧ Below w.heap.size w w' := by
  have e1 : ((b : Int) == (t.size : Int)) = true := by rw [hb]; simp
  have e2 : (b == t.size) = true := by rw [hb]; simp
  clear hb
  have d1 : decide ((20000 : Int) < (t.size : Int)) = false := decide_eq_false (by omega)
  have hmf : ∀ (fn : Fn) (first cap : Array Value) (w : World), (Instr.makeFunc fn first cap).run Try.prog w = .ok (.func fn first cap) w := fun _ _ _ _ => rfl
  go_enter_defers Try.func54, Try.ntmps54
  go_wp2_with (first
    | (with_reducible refine wpList_allocV (w := w) (by with_unfolding_all rfl) 44 (by with_unfolding_all rfl) (rtv 0 0 none 0 0) Try.infoTsz ?_; intro w1 hA1 hB1 hS1; have z1 : w.heap.size < w1.heap.size := (by omega); clear hS1)
    | (with_reducible refine wpList_alloc1 (w := w1) (by with_unfolding_all rfl) 2 (by with_unfolding_all rfl) 0 Try.zeroI ?_; intro w2 hA2 hB2 hS2; have z2 : w1.heap.size < w2.heap.size := (by omega); clear hS2; have R2 := hA1.below hB2 z1; have B02 : Below w.heap.size w w2 := hB1.trans (hB2.mono (Nat.le_of_lt z1)))
    | (with_reducible refine wpList_boxV (w := w2) (by with_unfolding_all rfl) 108 (.tmp 16) (by with_unfolding_all rfl) (cuv t 0) (by with_unfolding_all rfl) ?_; intro w3 hA3 hB3 hS3; clear hS3; have R3 := R2.below hB3 (Nat.lt_trans z1 z2); have S3 := hA2.below hB3 z2; have B03 : Below w.heap.size w w3 := B02.trans (hB3.mono (Nat.le_of_lt (Nat.lt_trans z1 z2))); obtain ⟨c0, c1⟩ := hA3.cu)
    | (go_at_call 74; with_reducible refine (hP _ w3 hA3).mono ?_; rintro r w4 ⟨rfl, hA4, hO4⟩; have R4 := hO4.row R3 (rtv_nev) (Nat.ne_of_lt (Nat.lt_trans z1 z2)); have S4 := hO4.row S3 (i1v_ne _) (Nat.ne_of_lt z2); have B04 : Below w.heap.size w w4 := B03.trans (hO4.bel (Nat.le_of_lt (Nat.lt_trans z1 z2))); have z04 := Nat.lt_of_lt_of_le (Nat.lt_trans z1 z2) (Nat.le_trans hB3.size hO4.size); have z14 := Nat.lt_of_lt_of_le z2 (Nat.le_trans hB3.size hO4.size); clear c0 c1)
    | (go_at_call 55; with_reducible refine (hK _ w4 hA4).mono ?_; rintro r w5 ⟨a, c, rfl, hA5, hO5, hW5⟩; have R5 := hO5.row R4 (rtv_nev) (Nat.ne_of_lt (Nat.lt_trans z1 z2)); have S5 := hO5.row S4 (i1v_ne _) (Nat.ne_of_lt z2); have B05 : Below w.heap.size w w5 := B04.trans (hO5.bel (Nat.le_of_lt (Nat.lt_trans z1 z2))))
    | (with_reducible refine wpList_storeH (w := w5) (by with_unfolding_all rfl) 44 (.tmp 6) (.tmp 25) (by with_unfolding_all rfl) w.heap.size (rtv 0 0 none 0 0) (rtv v e a n c) (by with_unfolding_all rfl) (by with_unfolding_all rfl) R5 3 Try.sizeTs (by with_unfolding_all rfl) (by with_unfolding_all rfl) (rtv_one _ _ _ _ _) ?_; intro w6 hA6 hB6 hF6 hS6; have S6 := (Only.set hB6 hF6 hS6).row S5 (i1v_ne _) (Nat.ne_of_gt z1); have C6 := (Only.set hB6 hF6 hS6).row hA5 (cuv_ne _ _) (Nat.ne_of_gt (Nat.lt_trans z1 z2)); have B06 : Below w.heap.size w w6 := B05.trans (hB6 _ (Nat.le_refl _)); have OW6 := OwnTg.store hW5 hF6 z04))
  have hA7 := hA6.drew
  have OW7 : OwnTg w6.drew w4.heap.size (.slice a n c) l := OW6
  have S7 := S6.drew
  have C7 := C6.drew
  have B07 := B06.drew
  refine wp_region_held_drew (S := fun w' => w'.cell? ⟨w2.heap.size, 0, none⟩ = some (.string t) ∧ w'.cell? ⟨w2.heap.size, 1, none⟩ = some (.int .i64 (b : Int))) (by kernel_rfl) C7.cu (fun hHeld => ?_)
  refine wpAnyH_take (i := 0) (oi := ⟨_, _, _, _, _, _⟩) (v := .pointer (some ⟨w2.heap.size, 0, none⟩)) rfl (by kernel_rfl) (by kernel_rfl) (by kernel_rfl) (fun _ _ _ h => rw_putt (k := 26) (by decide) (by decide) h) (Or.inl ⟨wanted_free rfl, fun w' hSw => ?_⟩) hHeld ?_
  · obtain ⟨s0, s1⟩ := hSw
    go_simp
  try simp only [Act.put, List.setIfInBounds_toArray, List.set_cons_zero, List.set_cons_succ]
  refine wpAnyH_take (i := 1) (oi := ⟨_, _, _, _, _, _⟩) (v := .pointer (some ⟨w2.heap.size, 0, none⟩)) rfl (by kernel_rfl) (by kernel_rfl) (by kernel_rfl) (fun _ _ _ h => rw_putt (k := 27) (by decide) (by decide) h) (Or.inl ⟨wanted_free rfl, fun w' hSw => ?_⟩) hHeld ?_
  · obtain ⟨s0, s1⟩ := hSw
    go_simp
  try simp only [Act.put, List.setIfInBounds_toArray, List.set_cons_zero, List.set_cons_succ]
  refine wpAnyH_take (i := 2) (oi := ⟨_, _, _, _, _, _⟩) (v := .pointer (some ⟨w2.heap.size, 0, none⟩)) rfl (by kernel_rfl) (by kernel_rfl) (by kernel_rfl) (fun _ _ _ h => rw_putt (k := 28) (by decide) (by decide) h) (Or.inl ⟨wanted_free rfl, fun w' hSw => ?_⟩) hHeld ?_
  · obtain ⟨s0, s1⟩ := hSw
    go_simp
  try simp only [Act.put, List.setIfInBounds_toArray, List.set_cons_zero, List.set_cons_succ]
  refine wpAnyH_take (i := 3) (oi := ⟨_, _, _, _, _, _⟩) (v := .pointer (some ⟨w2.heap.size, 0, none⟩)) rfl (by kernel_rfl) (by kernel_rfl) (by kernel_rfl) (fun _ _ _ h => rw_putt (k := 29) (by decide) (by decide) h) (Or.inl ⟨wanted_free rfl, fun w' hSw => ?_⟩) hHeld ?_
  · obtain ⟨s0, s1⟩ := hSw
    go_simp
  try simp only [Act.put, List.setIfInBounds_toArray, List.set_cons_zero, List.set_cons_succ]
  refine wpAnyH_take (i := 4) (oi := ⟨_, _, _, _, _, _⟩) (v := .pointer (some ⟨w2.heap.size, 0, none⟩)) rfl (by kernel_rfl) (by kernel_rfl) (by kernel_rfl) (fun _ _ _ h => rw_putt (k := 30) (by decide) (by decide) h) (Or.inl ⟨wanted_free rfl, fun w' hSw => ?_⟩) hHeld ?_
  · obtain ⟨s0, s1⟩ := hSw
    go_simp
  try simp only [Act.put, List.setIfInBounds_toArray, List.set_cons_zero, List.set_cons_succ]
  refine wpAnyH_take (i := 5) (oi := ⟨_, _, _, _, _, _⟩) (v := .pointer (some ⟨w2.heap.size, 0, none⟩)) rfl (by kernel_rfl) (by kernel_rfl) (by kernel_rfl) (fun _ _ _ h => rw_putt (k := 31) (by decide) (by decide) h) (Or.inl ⟨wanted_free rfl, fun w' hSw => ?_⟩) hHeld ?_
  · obtain ⟨s0, s1⟩ := hSw
    go_simp
  try simp only [Act.put, List.setIfInBounds_toArray, List.set_cons_zero, List.set_cons_succ]
  refine wpAnyH_take (i := 6) (oi := ⟨_, _, _, _, _, _⟩) (v := .pointer (some ⟨w2.heap.size, 1, none⟩)) rfl (by kernel_rfl) (by kernel_rfl) (by kernel_rfl) (fun _ _ _ h => rw_putt (k := 32) (by decide) (by decide) h) (Or.inl ⟨wanted_free rfl, fun w' hSw => ?_⟩) hHeld ?_
  · obtain ⟨s0, s1⟩ := hSw
    go_simp
  try simp only [Act.put, List.setIfInBounds_toArray, List.set_cons_zero, List.set_cons_succ]
  refine wpAnyH_take (i := 7) (oi := ⟨_, _, _, _, _, _⟩) (v := .int .i64 (b : Int)) rfl (by kernel_rfl) (by kernel_rfl) (by kernel_rfl) (fun _ _ _ h => rw_putt (k := 33) (by decide) (by decide) h) (Or.inl ⟨wanted_free rfl, fun w' hSw => ?_⟩) hHeld ?_
  · obtain ⟨s0, s1⟩ := hSw
    go_simp
  try simp only [Act.put, List.setIfInBounds_toArray, List.set_cons_zero, List.set_cons_succ]
  refine wpAnyH_take (i := 8) (oi := ⟨_, _, _, _, _, _⟩) (v := .pointer (some ⟨w2.heap.size, 0, none⟩)) rfl (by kernel_rfl) (by kernel_rfl) (by kernel_rfl) (fun _ _ _ h => rw_putt (k := 34) (by decide) (by decide) h) (Or.inl ⟨wanted_free rfl, fun w' hSw => ?_⟩) hHeld ?_
  · obtain ⟨s0, s1⟩ := hSw
    go_simp
  try simp only [Act.put, List.setIfInBounds_toArray, List.set_cons_zero, List.set_cons_succ]
  refine wpAnyH_take (i := 9) (oi := ⟨_, _, _, _, _, _⟩) (v := .pointer (some ⟨w2.heap.size, 0, none⟩)) rfl (by kernel_rfl) (by kernel_rfl) (by kernel_rfl) (fun _ _ _ h => rw_putt (k := 35) (by decide) (by decide) h) (Or.inl ⟨wanted_free rfl, fun w' hSw => ?_⟩) hHeld ?_
  · obtain ⟨s0, s1⟩ := hSw
    go_simp
  try simp only [Act.put, List.setIfInBounds_toArray, List.set_cons_zero, List.set_cons_succ]
  refine wpAnyH_take (i := 10) (oi := ⟨_, _, _, _, _, _⟩) (v := .pointer (some ⟨w2.heap.size, 0, none⟩)) rfl (by kernel_rfl) (by kernel_rfl) (by kernel_rfl) (fun _ _ _ h => rw_putt (k := 36) (by decide) (by decide) h) (Or.inl ⟨wanted_free rfl, fun w' hSw => ?_⟩) hHeld ?_
  · obtain ⟨s0, s1⟩ := hSw
    go_simp
  try simp only [Act.put, List.setIfInBounds_toArray, List.set_cons_zero, List.set_cons_succ]
  refine wpAnyH_take (i := 11) (oi := ⟨_, _, _, _, _, _⟩) (v := .pointer (some ⟨w2.heap.size, 0, none⟩)) rfl (by kernel_rfl) (by kernel_rfl) (by kernel_rfl) (fun _ _ _ h => rw_putt (k := 37) (by decide) (by decide) h) (Or.inl ⟨wanted_free rfl, fun w' hSw => ?_⟩) hHeld ?_
  · obtain ⟨s0, s1⟩ := hSw
    go_simp
  try simp only [Act.put, List.setIfInBounds_toArray, List.set_cons_zero, List.set_cons_succ]
  refine wpAnyH_take (i := 12) (oi := ⟨_, _, _, _, _, _⟩) (v := .string t) rfl (by kernel_rfl) (by kernel_rfl) (by kernel_rfl) (fun _ _ _ h => rw_putt (k := 38) (by decide) (by decide) h) (Or.inl ⟨wanted_free rfl, fun w' hSw => ?_⟩) hHeld ?_
  · obtain ⟨s0, s1⟩ := hSw
    go_simp
  try simp only [Act.put, List.setIfInBounds_toArray, List.set_cons_zero, List.set_cons_succ]
  refine wpAnyH_take (i := 13) (oi := ⟨_, _, _, _, _, _⟩) (v := .int .i64 (t.size : Int)) rfl (by kernel_rfl) (by kernel_rfl) (by kernel_rfl) (fun _ _ _ h => rw_putt (k := 39) (by decide) (by decide) h) (Or.inl ⟨wanted_free rfl, fun w' hSw => ?_⟩) hHeld ?_
  · obtain ⟨s0, s1⟩ := hSw
    go_simp
  try simp only [Act.put, List.setIfInBounds_toArray, List.set_cons_zero, List.set_cons_succ]
  refine wpAnyH_take (i := 14) (oi := ⟨_, _, _, _, _, _⟩) (v := .bool true) rfl (by kernel_rfl) (by kernel_rfl) (by kernel_rfl) (fun _ _ _ h => rw_putt (k := 40) (by decide) (by decide) h) (Or.inl ⟨wanted_free rfl, fun w' hSw => ?_⟩) hHeld ?_
  · obtain ⟨s0, s1⟩ := hSw
    go_simp
  try simp only [Act.put, List.setIfInBounds_toArray, List.set_cons_zero, List.set_cons_succ]
  generalize w6.drew = w7 at *
  refine wpAnyH_ready (rs := [15]) (by kernel_rfl) (by simp) (AllReadyH.cons (o := ⟨_, _, _, _, _, _⟩) rfl (fun K hK => ?_) AllReadyH.nil)
  rewrite [if_pos (wanted_free rfl)]
  go_simp
  refine (mustYes _ w7).mono ?_
  rintro r w' ⟨rfl, rfl⟩
  go_wp2_with fail
  refine hK.out _ _ C7.cu (fun _ => ?_)
  clear hK K
  try simp only [Act.put, List.setIfInBounds_toArray, List.set_cons_zero, List.set_cons_succ]
  refine wpAnyH_done (by kernel_rfl) ?_ _
  clear hHeld
  go_wp2_with (first
    | (with_reducible refine wpList_loadV (w := w7) (by with_unfolding_all rfl) 44 (.tmp 6) (by with_unfolding_all rfl) w.heap.size (rtv v e a n c) (by with_unfolding_all rfl) hA7 Try.undTs 3 Try.sizeTs (by with_unfolding_all rfl) ?_)
    | (with_reducible refine wpList_storeH (w := w7) (by with_unfolding_all rfl) 44 (.tmp 6) (.tmp 42) (by with_unfolding_all rfl) w.heap.size (rtv v e a n c) (rtv v e a n c) (by with_unfolding_all rfl) (by with_unfolding_all rfl) hA7 3 Try.sizeTs (by with_unfolding_all rfl) (by with_unfolding_all rfl) (rtv_one _ _ _ _ _) ?_; intro w8 hA8 hB8 hF8 hS8; have Q8 := (Only.set hB8 hF8 hS8).row S7 (i1v_ne _) (Nat.ne_of_gt z1); have OW8 := OwnTg.store OW7 hF8 z04)
    | (with_reducible refine wpList_cellH (w := w8) (by with_unfolding_all rfl) 2 (.tmp 7) (.const (.int .i64 0)) (by with_unfolding_all rfl) w1.heap.size 0 (i1v 0) (i1v 0) (.int .i64 0) (by with_unfolding_all rfl) (by with_unfolding_all rfl) rfl Try.siz1I Q8 (by simp [i1v]) (by with_unfolding_all rfl) ?_; intro w9 hA9 hB9 hF9 hS9; have Q9 := (Only.set hB9 hF9 hS9).row hA8 (rtv_nev) (Nat.ne_of_lt z1); have B9 : Below w.heap.size w w9 := (B07.trans (hB8 _ (Nat.le_refl _))).trans (hB9 _ (Nat.le_of_lt z1)); have OW9 := OwnTg.store OW8 hF9 z14))
  refine leaves_cons (f := 94) (args := #[.pointer (some ⟨w.heap.size, 0, none⟩), .pointer (some ⟨w1.heap.size, 0, none⟩)]) (by simp) (by simp [go_sem]) ?_
  refine (catchRt _ _ w9).mono ?_
  rintro r u' w' ⟨rfl, rfl, rfl⟩
  exact ⟨_, results_V2 rfl _ w.heap.size (rtv v e a n c) rfl Q9 Try.undTs 3 Try.sizeTs rfl w1.heap.size 0 rfl hA9 Try.underlying2, a, c, rfl, OwnTg.base OW9 (Nat.le_of_lt z04), B9⟩
end Go.Proofs.Ytmahpmjkejnkfaa
namespace Go.Proofs.Ytmahpmjkejnkfaa
open Go.RowKit
set_option linter.unusedVariables false

theorem Try.sizeSr : (Try.prog.info? 115).map (·.size) = some 3 := by kernel_rfl
/- A link whose bytes a text is. -/
def LinkOk (k : Int) (t : ByteArray) (v e x : Int) : Prop := ∃ y b1 b2 b3, kindB k = ⟨#[y]⟩ ∧ FirstB t y ∧ numO t 1 = some (v, b1) ∧ numO t b1 = some (e, b2) ∧ numO t b2 = some (x, b3) ∧ b3 = t.size ∧ linkB v e x = true
theorem kind_ways (k : Int) : kindB k = ⟨#[]⟩ ∨ ∃ y, kindB k = ⟨#[y]⟩ := by
  unfold kindB
  by_cases h2 : k = 2
  · rw [if_pos h2]; exact Or.inr ⟨_, rfl⟩
  · rw [if_neg h2]
    by_cases h3 : k = 3
    · rw [if_pos h3]; exact Or.inr ⟨_, rfl⟩
    · rw [if_neg h3]; exact Or.inl rfl
/- What the reader's steps say together. -/
structure LnR (k : Int) (t : ByteArray) (p1 : Nat) (d1 : Bool) (v : Int) (p2 : Nat) (d2 : Bool) (e : Int) (p3 : Nat) (d3 : Bool) (x : Int) (p4 : Nat) (d4 : Bool) : Prop where
  f : FstR t (kindB k) p1 d1
  a : NumR t p1 d1 v p2 d2
  b : NumR t p2 d2 e p3 d3
  c : NumR t p3 d3 x p4 d4
theorem LnR.yes {k : Int} {t : ByteArray} {p1 p2 p3 p4 : Nat} {d1 d2 d3 d4 : Bool} {v e x : Int} (h : LnR k t p1 d1 v p2 d2 e p3 d3 x p4 d4) (hd : doneB t p4 d4 = true) (hl : linkB v e x = true) : LinkOk k t v e x := by
  unfold doneB at hd
  rw [Bool.and_eq_true, decide_eq_true_eq] at hd
  obtain ⟨h4, hq⟩ := hd
  have h4' : d4 = false := by cases d4 with
    | true => cases h4
    | false => rfl
  rcases h.c.2 with ⟨c1, c2, -⟩ | ⟨-, c3⟩
  · rcases h.b.2 with ⟨b1, b2, -⟩ | ⟨-, b3⟩
    · rcases h.a.2 with ⟨a1, a2, -⟩ | ⟨-, a3⟩
      · rcases h.f.2 with ⟨y, f1, f2, f3, -⟩ | ⟨-, f4⟩
        · subst f3
          exact ⟨y, _, _, _, f1, f2, a2, b2, c2, hq, hl⟩
        · rw [a1] at f4; cases f4
      · rw [b1] at a3; cases a3
    · rw [c1] at b3; cases b3
  · rw [h4'] at c3; cases c3
theorem LnR.no {k : Int} {t : ByteArray} {p1 p2 p3 p4 : Nat} {d1 d2 d3 d4 : Bool} {v e x : Int} (h : LnR k t p1 d1 v p2 d2 e p3 d3 x p4 d4) (hn : ¬ (doneB t p4 d4 = true ∧ linkB v e x = true)) : ¬ ∃ v e x, LinkOk k t v e x := by
  rintro ⟨v', e', x', y, b1, b2, b3, k1, k2, k3, k4, k5, k6, k7⟩
  apply hn
  rcases h.f.2 with ⟨z, f1, f2, f3, f4⟩ | ⟨f5, -⟩
  · subst f3 f4
    rcases h.a.2 with ⟨-, a2, a3⟩ | ⟨a4, -⟩
    · rw [k3] at a2
      injection a2 with a2
      injection a2 with a5 a6
      subst a5 a6 a3
      rcases h.b.2 with ⟨-, b4, b5⟩ | ⟨b6, -⟩
      · rw [k4] at b4
        injection b4 with b4
        injection b4 with b7 b8
        subst b7 b8 b5
        rcases h.c.2 with ⟨-, c2, c3⟩ | ⟨c4, -⟩
        · rw [k5] at c2
          injection c2 with c2
          injection c2 with c5 c6
          subst c5 c6 c3
          exact ⟨by unfold doneB; rw [decide_eq_true k6]; rfl, k7⟩
        · rcases c4 with c4 | c4
          · cases c4
          · rw [k5] at c4; cases c4
      · rcases b6 with b6 | b6
        · cases b6
        · rw [k4] at b6; cases b6
    · rcases a4 with a4 | a4
      · cases a4
      · rw [k3] at a4; cases a4
  · exact absurd ⟨y, k1, k2⟩ f5
theorem no_kind {k : Int} {t : ByteArray} (h : kindB k = ⟨#[]⟩) : ¬ ∃ v e x, LinkOk k t v e x := by
  rintro ⟨_, _, _, y, _, _, _, k1, _⟩
  rw [h] at k1
  exact absurd (show (0 : Nat) = 1 from congrArg ByteArray.size k1) (by decide)
/- The rows of the call: its result, the reader, the link that is read. -/
structure Rk (k : Int) (w : World) (g G : Nat) (t : ByteArray) (p : Nat) (d : Bool) (v e x : Int) (w' : World) : Prop where
  bel : Below w.heap.size w w'
  res : RowV w' w.heap.size (lkv 0 0 0)
  cur : RowV w' g (srv t p d)
  var : RowV w' G (lkv v e x)
  l1 : w.heap.size < g
  l2 : g < G
theorem Rk.start {k : Int} {w w1 w2 w3 w4 : World} {t : ByteArray} (r : RowV w3 w.heap.size (lkv 0 0 0)) (c : RowV w3 w1.heap.size (srv t 0 false)) (a : RowV w4 w2.heap.size (lkv 0 0 0)) (z1 : w.heap.size < w1.heap.size) (z2 : w1.heap.size < w2.heap.size) (b : Below w.heap.size w w3) (o : Only w2.heap.size w3 w4) : Hid (Rk k w w1.heap.size w2.heap.size t 0 false 0 0 0 w4) :=
  ⟨b.trans (o.bel (by omega)), o.row r (lkv_ne _ _ _) (by omega), o.row c (srv_ne _ _ _) (by omega), a, z1, z2⟩
theorem Rk.read {k : Int} {w w' w2 : World} {g G p q : Nat} {d d' : Bool} {t : ByteArray} {v e x : Int} (h : Hid (Rk k w g G t p d v e x w')) (c : RowV w2 g (srv t q d')) (o : Only g w' w2) : Hid (Rk k w g G t q d' v e x w2) :=
  ⟨h.out.bel.trans (o.bel (Nat.le_of_lt h.out.l1)), o.row h.out.res (lkv_ne _ _ _) (Nat.ne_of_lt h.out.l1), c, o.row h.out.var (lkv_ne _ _ _) (Nat.ne_of_gt h.out.l2), h.out.l1, h.out.l2⟩
theorem Rk.put {k : Int} {w w' w2 : World} {g G p : Nat} {d : Bool} {t : ByteArray} {v e x v' e' x' : Int} (h : Hid (Rk k w g G t p d v e x w')) (c : RowV w2 G (lkv v' e' x')) (o : Only G w' w2) : Hid (Rk k w g G t p d v' e' x' w2) :=
  ⟨h.out.bel.trans (o.bel (Nat.le_of_lt (Nat.lt_trans h.out.l1 h.out.l2))), o.row h.out.res (lkv_ne _ _ _) (Nat.ne_of_lt (Nat.lt_trans h.out.l1 h.out.l2)), o.row h.out.cur (srv_ne _ _ _) (Nat.ne_of_lt h.out.l2), c, h.out.l1, h.out.l2⟩
theorem Rk.call {k : Int} {w w' w2 : World} {g G p : Nat} {d : Bool} {t : ByteArray} {v e x : Int} (h : Hid (Rk k w g G t p d v e x w')) (b : Below w'.heap.size w' w2) : Hid (Rk k w g G t p d v e x w2) :=
  ⟨h.out.bel.trans (b.mono h.out.bel.size), h.out.res.below b (h.out.res.lt (lkv_ne _ _ _)), h.out.cur.below b (h.out.cur.lt (srv_ne _ _ _)), h.out.var.below b (h.out.var.lt (lkv_ne _ _ _)), h.out.l1, h.out.l2⟩
theorem Rk.drew {k : Int} {w w' : World} {g G p : Nat} {d : Bool} {t : ByteArray} {v e x : Int} (h : Hid (Rk k w g G t p d v e x w')) : Hid (Rk k w g G t p d v e x w'.drew) := ⟨h.out.bel.drew, h.out.res.drew, h.out.cur.drew, h.out.var.drew, h.out.l1, h.out.l2⟩
theorem Rk.curH {k : Int} {w w' : World} {g G p : Nat} {d : Bool} {t : ByteArray} {v e x : Int} (h : Hid (Rk k w g G t p d v e x w')) : RowV w' g (srv t p d) := h.out.cur
theorem Rk.varH {k : Int} {w w' : World} {g G p : Nat} {d : Bool} {t : ByteArray} {v e x : Int} (h : Hid (Rk k w g G t p d v e x w')) : RowV w' G (lkv v e x) := h.out.var
theorem Rk.resH {k : Int} {w w' : World} {g G p : Nat} {d : Bool} {t : ByteArray} {v e x : Int} (h : Hid (Rk k w g G t p d v e x w')) : RowV w' w.heap.size (lkv 0 0 0) := h.out.res
theorem Rk.belH {k : Int} {w w' : World} {g G p : Nat} {d : Bool} {t : ByteArray} {v e x : Int} (h : Hid (Rk k w g G t p d v e x w')) : Below w.heap.size w w' := h.out.bel
theorem Rk.neH {k : Int} {w w' : World} {g G p : Nat} {d : Bool} {t : ByteArray} {v e x : Int} (h : Hid (Rk k w g G t p d v e x w')) : G ≠ w.heap.size := Nat.ne_of_gt (Nat.lt_trans h.out.l1 h.out.l2)
theorem fst_le {t m : ByteArray} {p : Nat} {d : Bool} (h : Hid (FstR t m p d)) : p ≤ t.size := h.out.1
theorem num_le {t : ByteArray} {p p' : Nat} {d d' : Bool} {n : Int} (h : Hid (NumR t p d n p' d')) : p' ≤ t.size := h.out.1
theorem results_VB {P : Program} {fn : Func} {a b : Tmp} {t : TypeId} {w : World} (h : fn.results = #[.cell a t, .tmp b]) (tmps : Array Value) (g : Nat) (l : List Value) (hx : tmps.getD a undef = .pointer (some ⟨g, 0, none⟩))
    (hl : RowV w g l) (hu : ∃ d, P.underlying t = some d ∧ d.isRow = true) (n : Nat) (hi : (P.info? t).map (·.size) = some n) (hn : l.length = n) (v : Value) (hx2 : tmps.getD b undef = v) :
    (results fn tmps).run P w = .ok (.tuple #[.agg l.toArray, v]) w := by
  obtain ⟨d, hd, hr⟩ := hu
  have := run_loadVar_mid (P := P) w g 0 t l d hl.rng hd hr (by rw [hn]; exact hi)
  rw [Array.getD_eq_getD_getElem?] at hx hx2
  simp [results, h, hx, hx2, asAddr, this]
end Go.Proofs.Ytmahpmjkejnkfaa
namespace Go.Proofs.Ytmahpmjkejnkfaa
open Go.RowKit
set_option linter.unusedVariables false

def lov (v e x c : Int) : List Value := [.int .i64 v, .int .i64 e, .int .i64 x, .int .i64 c]
theorem lov_ne (v e x c : Int) : lov v e x c ≠ [] := by simp [lov]
theorem lov_one (v e x c : Int) : ∀ y ∈ lov v e x c, y.oneCell' = true := by
  intro y hy
  simp [lov] at hy
  rcases hy with h | h | h | h <;> (rw [h]; rfl)
theorem RowV.lo {w : World} {g : Nat} {v e x c : Int} (h : RowV w g (lov v e x c)) : w.cell? ⟨g, 0, none⟩ = some (.int .i64 v) ∧ w.cell? ⟨g, 1, none⟩ = some (.int .i64 e) ∧ w.cell? ⟨g, 2, none⟩ = some (.int .i64 x) ∧ w.cell? ⟨g, 3, none⟩ = some (.int .i64 c) := ⟨h.cell (k := 0) rfl, h.cell (k := 1) rfl, h.cell (k := 2) rfl, h.cell (k := 3) rfl⟩
/- What LinkRead answers. -/
def LkAns (k : Int) (t : ByteArray) (v e x c : Int) : Prop := (20000 < t.size ∧ v = 0 ∧ e = 0 ∧ x = 0 ∧ c = 2) ∨ (t.size ≤ 20000 ∧ LinkOk k t v e x ∧ c = 0) ∨ (t.size ≤ 20000 ∧ (¬ ∃ v e x, LinkOk k t v e x) ∧ v = 0 ∧ e = 0 ∧ x = 0 ∧ c = 3)
theorem linkOk_one {k : Int} {t : ByteArray} {v e x v' e' x' : Int} (h : LinkOk k t v e x) (h' : LinkOk k t v' e' x') : v = v' ∧ e = e' ∧ x = x' := by
  obtain ⟨y, b1, b2, b3, -, -, h1, h2, h3, -, -⟩ := h
  obtain ⟨z, c1, c2, c3, -, -, k1, k2, k3, -, -⟩ := h'
  rw [h1] at k1
  injection k1 with k1
  injection k1 with e1 e2
  subst e1 e2
  rw [h2] at k2
  injection k2 with k2
  injection k2 with e1 e2
  subst e1 e2
  rw [h3] at k3
  injection k3 with k3
  injection k3 with e1 e2
  exact ⟨rfl, rfl, e1⟩
theorem lkAns_one {k : Int} {t : ByteArray} {v e x c v' e' x' c' : Int} (h : LkAns k t v e x c) (h' : LkAns k t v' e' x' c') : v = v' ∧ e = e' ∧ x = x' ∧ c = c' := by
  rcases h with ⟨h0, rfl, rfl, rfl, rfl⟩ | ⟨h0, h1, rfl⟩ | ⟨h0, h1, rfl, rfl, rfl, rfl⟩
  · rcases h' with ⟨_, rfl, rfl, rfl, rfl⟩ | ⟨k0, _, _⟩ | ⟨k0, _⟩
    · exact ⟨rfl, rfl, rfl, rfl⟩
    · omega
    · omega
  · rcases h' with ⟨k0, _⟩ | ⟨k0, k1, rfl⟩ | ⟨k0, k1, _⟩
    · omega
    · obtain ⟨a, b, d⟩ := linkOk_one h1 k1
      exact ⟨a, b, d, rfl⟩
    · exact absurd ⟨_, _, _, h1⟩ k1
  · rcases h' with ⟨k0, _⟩ | ⟨k0, k1, rfl⟩ | ⟨k0, k1, rfl, rfl, rfl, rfl⟩
    · omega
    · exact absurd ⟨_, _, _, k1⟩ h1
    · exact ⟨rfl, rfl, rfl, rfl⟩
end Go.Proofs.Ytmahpmjkejnkfaa
namespace Go.Proofs.Ytmahpmjkejnkfaa
open Go.RowKit
set_option linter.unusedVariables false

theorem countO_le {t : ByteArray} {p m k b : Nat} (h : countO t p m = some (k, b)) : k ≤ m ∧ b ≤ t.size := by
  unfold countO at h
  cases hn : numO t p with
  | none => rw [hn] at h; cases h
  | some u =>
    obtain ⟨n, c⟩ := u
    rw [hn] at h
    simp only at h
    split at h
    · have := Option.some.inj h
      injection this with e1 e2
      subst e2
      exact ⟨by omega, (numO_some hn).2.1⟩
    · cases h
theorem tdI (g p : Nat) (t : ByteArray) (w : World) (hs : t.size ≤ maxLen) (hp : p ≤ t.size) (h : RowV w g (cuv t p)) :
    Calls Try.prog 55 #[.pointer (some ⟨g, 0, none⟩)] w (SdT t g (targetsO t p) w) := by
  cases h1 : numO t p with
  | none => exact tdN0 g p t w hs hp _ h1 hp (by show _ = _; unfold targetsO; rw [h1]) h
  | some y1 =>
  obtain ⟨v, b1⟩ := y1
  have l1 := (numO_some h1).2.1
  cases h2 : numO t b1 with
  | none => exact tdN1 g p t w hs hp _ v b1 ⟨h1, hp⟩ h2 l1 (by show _ = _; unfold targetsO; rw [h1]; simp only; rw [h2]) h
  | some y2 =>
  obtain ⟨e, b2⟩ := y2
  have l2 := (numO_some h2).2.1
  cases hc : countO t b2 20 with
  | none => exact tdN2 g p t w hs hp _ v e b1 b2 ⟨h1, hp⟩ ⟨h2, l1⟩ l2 hc (by show _ = _; unfold targetsO; rw [h1]; simp only; rw [h2]; simp only; rw [hc]) h
  | some y3 =>
  obtain ⟨k, b3⟩ := y3
  exact tdMain g p t w hs hp _ v e b1 b2 b3 k ⟨h1, hp⟩ ⟨h2, l1⟩ l2 hc (countO_le hc).2 (countO_le hc).1 (by show _ = _; unfold targetsO; rw [h1]; simp only; rw [h2]; simp only; rw [hc]; rfl) h
theorem tgsO_le {t : ByteArray} : ∀ (m p : Nat) {l : List TarV} {q : Nat}, tgsO t m p = some (l, q) → p ≤ t.size → q ≤ t.size
  | 0, p, l, q, h, hp => by
    unfold tgsO at h
    injection h with h
    injection h with _ e
    omega
  | m + 1, p, l, q, h, hp => by
    rw [tgsO] at h
    cases h1 : textO t p with
    | none => rw [h1] at h; cases h
    | some y1 =>
    rw [h1] at h
    simp only at h
    cases h2 : bytesO t y1.2 32 with
    | none => rw [h2] at h; cases h
    | some y2 =>
    rw [h2] at h
    simp only at h
    cases h3 : numO t y2.2 with
    | none => rw [h3] at h; cases h
    | some y3 =>
    rw [h3] at h
    simp only at h
    cases h4 : tgsO t m y3.2 with
    | none => rw [h4] at h; cases h
    | some y4 =>
    rw [h4] at h
    simp only at h
    injection h with h
    injection h with _ e
    subst e
    exact tgsO_le m y3.2 h4 (numO_some (n := y3.1) (b := y3.2) h3).2.1
theorem targetsO_le {t : ByteArray} {v e : Int} {l : List TarV} {q : Nat} (h : targetsO t 1 = some (v, e, l, q)) : q ≤ t.size := by
  unfold targetsO at h
  cases h1 : numO t 1 with
  | none => rw [h1] at h; cases h
  | some y1 =>
  rw [h1] at h
  simp only at h
  cases h2 : numO t y1.2 with
  | none => rw [h2] at h; cases h
  | some y2 =>
  rw [h2] at h
  simp only at h
  cases h3 : countO t y2.2 20 with
  | none => rw [h3] at h; cases h
  | some y3 =>
  rw [h3] at h
  simp only at h
  unfold restT at h
  cases h4 : tgsO t y3.1 y3.2 with
  | none => rw [h4] at h; cases h
  | some y4 =>
  rw [h4] at h
  simp only at h
  split at h
  · injection h with h
    injection h with _ h
    injection h with _ h
    injection h with _ e
    subst e
    exact tgsO_le _ _ h4 (countO_le (k := y3.1) (b := y3.2) h3).2
  · cases h
theorem OwnTg.keep {w w' : World} {base : Nat} {v : Value} {l : List TarV} (h : OwnTg w base v l) (hb : Below w.heap.size w w') : OwnTg w' base v l := own_same h (fun k _ hl => hb.block k hl)
theorem OwnTg.new {w w3 w4 : World} {base : Nat} {v : Value} {l : List TarV} (h0 : OwnTg w base v l) (h : OwnTg w3 base v l) (hF : ∀ k, k ≠ w.heap.size → w4.heap[k]? = w3.heap[k]?) : OwnTg w4 base v l := own_same h (fun k hk _ => hF k (by have := (own_ge h0 hk).2; omega))
def TargetsOk (t : ByteArray) (v e : Int) (l : List TarV) : Prop := FirstB t 84 ∧ ∃ q, targetsO t 1 = some (v, e, l, q) ∧ q = t.size
def TgAns (t : ByteArray) (v e : Int) (l : List TarV) (c : Int) : Prop := (20000 < t.size ∧ v = 0 ∧ e = 0 ∧ l = [] ∧ c = 2) ∨ (t.size ≤ 20000 ∧ TargetsOk t v e l ∧ c = 0) ∨ (t.size ≤ 20000 ∧ (¬ ∃ v e l, TargetsOk t v e l) ∧ v = 0 ∧ e = 0 ∧ l = [] ∧ c = 3)
theorem tgAns_one {t : ByteArray} {v v' e e' : Int} {l l' : List TarV} {c c' : Int} (h : TgAns t v e l c) (h' : TgAns t v' e' l' c') : v = v' ∧ e = e' ∧ l = l' ∧ c = c' := by
  rcases h with ⟨h0, rfl, rfl, rfl, rfl⟩ | ⟨h0, h1, rfl⟩ | ⟨h0, h1, rfl, rfl, rfl, rfl⟩
  · rcases h' with ⟨_, rfl, rfl, rfl, rfl⟩ | ⟨k0, _⟩ | ⟨k0, _⟩
    · exact ⟨rfl, rfl, rfl, rfl⟩
    · omega
    · omega
  · rcases h' with ⟨k0, _⟩ | ⟨k0, k1, rfl⟩ | ⟨k0, k1, _⟩
    · omega
    · obtain ⟨_, q, a1, _⟩ := h1
      obtain ⟨_, q', a2, _⟩ := k1
      rw [a1] at a2
      injection a2 with a2
      injection a2 with e1 a2
      injection a2 with e2 a2
      injection a2 with e3 e4
      exact ⟨e1, e2, e3, rfl⟩
    · exact absurd ⟨_, _, _, h1⟩ k1
  · rcases h' with ⟨k0, _⟩ | ⟨k0, k1, rfl⟩ | ⟨k0, k1, rfl, rfl, rfl, rfl⟩
    · omega
    · exact absurd ⟨_, _, _, k1⟩ h1
    · exact ⟨rfl, rfl, rfl, rfl⟩
theorem ownTg_nil (w : World) (base : Nat) : OwnTg w base (.slice none 0 0) [] := ⟨rfl, .inl ⟨rfl, rfl⟩⟩
theorem rtAll (t : ByteArray) (w : World) (hs : t.size ≤ maxLen) :
    Calls Try.prog 54 #[.string t, .string ⟨#[84]⟩, .func (.func 55) #[] #[]] w fun r w' => ∃ v e l a n cp c, r = .returned (.tuple #[.agg #[.int .i64 v, .int .i64 e, .slice a n cp], .int .i64 c]) ∧ TgAns t v e l c ∧ OwnTg w' w.heap.size (.slice a n cp) l ∧ Below w.heap.size w w' := by
  by_cases hbig : 20000 < t.size
  · refine (rtBig t _ _ w hs hbig).mono ?_
    rintro r w' ⟨rfl, hB⟩
    exact ⟨0, 0, [], none, 0, 0, 2, rfl, Or.inl ⟨hbig, rfl, rfl, rfl, rfl⟩, ownTg_nil _ _, hB⟩
  have hs2 : t.size ≤ 20000 := by omega
  have bad : (¬ ∃ v e l, TargetsOk t v e l) → Calls Try.prog 54 #[.string t, .string ⟨#[84]⟩, .func (.func 55) #[] #[]] w (fun e w' => e = .returned (.tuple #[.agg #[.int .i64 0, .int .i64 0, .slice none 0 0], .int .i64 3]) ∧ Below w.heap.size w w') → Calls Try.prog 54 #[.string t, .string ⟨#[84]⟩, .func (.func 55) #[] #[]] w (fun r w' => ∃ v e l a n cp c, r = .returned (.tuple #[.agg #[.int .i64 v, .int .i64 e, .slice a n cp], .int .i64 c]) ∧ TgAns t v e l c ∧ OwnTg w' w.heap.size (.slice a n cp) l ∧ Below w.heap.size w w') := fun hn hc => hc.mono (by
    rintro r w' ⟨rfl, hB⟩
    exact ⟨0, 0, [], none, 0, 0, 3, rfl, Or.inr (Or.inr ⟨hs2, hn, rfl, rfl, rfl, rfl⟩), ownTg_nil _ _, hB⟩)
  by_cases hf : FirstB t 84
  case neg =>
    refine bad ?_ (rtPassNo t _ w hs2 (fun g w0 h0 => passNo g t 84 w0 hs hf h0))
    rintro ⟨_, _, _, k1, _⟩
    exact hf k1
  have hP : ∀ g w0, RowV w0 g (cuv t 0) → Calls Try.prog 74 #[.pointer (some ⟨g, 0, none⟩), .string ⟨#[84]⟩] w0 fun e w' => e = .returned (.tuple #[]) ∧ RowV w' g (cuv t 1) ∧ Only g w0 w' := fun g w0 h0 => passYes g t 84 w0 hs hf h0
  cases ho : targetsO t 1 with
  | none =>
    refine bad ?_ (rtReadNo t _ w hs2 hP (fun g w0 h0 => ?_))
    · rintro ⟨_, _, _, _, q, k1, _⟩
      rw [ho] at k1; cases k1
    · refine (tdI g 1 t w0 hs hf.1 h0).mono ?_
      rintro r w' (⟨x, y, l, q, v, e1, _⟩ | ⟨_, e2, e3⟩)
      · rw [ho] at e1; cases e1
      · exact ⟨e2, e3⟩
  | some y =>
  obtain ⟨v, e, l, q⟩ := y
  have hY : ∀ g w0, RowV w0 g (cuv t 1) → Calls Try.prog 55 #[.pointer (some ⟨g, 0, none⟩)] w0 fun r w' => ∃ a c, r = .returned (.agg #[.int .i64 v, .int .i64 e, .slice a l.length c]) ∧ RowV w' g (cuv t q) ∧ Only g w0 w' ∧ OwnTg w' w0.heap.size (.slice a l.length c) l := fun g w0 h0 => by
    refine (tdI g 1 t w0 hs hf.1 h0).mono ?_
    rintro r w' (⟨x', y', l', q', u, e1, e2, e3, e4, e5⟩ | ⟨e1, _⟩)
    · rw [ho] at e1
      injection e1 with e1
      injection e1 with f1 e1
      injection e1 with f2 e1
      injection e1 with f3 f4
      subst f1 f2 f3 f4
      obtain ⟨a, c, rfl, _⟩ := e5.form
      exact ⟨a, c, e2, e3, e4, e5⟩
    · rw [ho] at e1; cases e1
  by_cases hq : q = t.size
  · refine (rtYes t _ w hs2 hP v e l.length l q hY hq).mono ?_
    rintro r w' ⟨a, c, rfl, hO, hB⟩
    exact ⟨v, e, l, a, l.length, c, 0, rfl, Or.inr (Or.inl ⟨hs2, ⟨hf, q, ho, hq⟩, rfl⟩), hO, hB⟩
  · by_cases hql : q ≤ t.size
    · refine bad ?_ (rtEndNo t _ w hs2 hP v e l.length l q hY hql hq)
      rintro ⟨_, _, _, _, q', k1, k2⟩
      rw [ho] at k1
      injection k1 with k1
      injection k1 with _ k1
      injection k1 with _ k1
      injection k1 with _ f3
      subst f3
      exact hq k2
    · exact absurd (targetsO_le ho) hql
def tov (v e : Int) (a : Option Addr) (n cp : Nat) (c : Int) : List Value := [.int .i64 v, .int .i64 e, .slice a n cp, .int .i64 c]
theorem tov_ne (v e : Int) (a : Option Addr) (n cp : Nat) (c : Int) : tov v e a n cp c ≠ [] := by simp [tov]
theorem tov_one (v e : Int) (a : Option Addr) (n cp : Nat) (c : Int) : ∀ y ∈ tov v e a n cp c, y.oneCell' = true := by
  intro y hy
  simp [tov] at hy
  rcases hy with h | h | h | h <;> (rw [h]; rfl)
theorem RowV.to4 {w : World} {g : Nat} {v e : Int} {a : Option Addr} {n cp : Nat} {c : Int} (h : RowV w g (tov v e a n cp c)) : w.cell? ⟨g, 0, none⟩ = some (.int .i64 v) ∧ w.cell? ⟨g, 1, none⟩ = some (.int .i64 e) ∧ w.cell? ⟨g, 2, none⟩ = some (.slice a n cp) ∧ w.cell? ⟨g, 3, none⟩ = some (.int .i64 c) := ⟨h.cell (k := 0) rfl, h.cell (k := 1) rfl, h.cell (k := 2) rfl, h.cell (k := 3) rfl⟩
theorem Try.infoTgo : (Try.prog.info? 46).map (fun i => i.zero) = some (some (.agg (tov 0 0 none 0 0 0).toArray)) := by kernel_rfl
theorem Try.undTgo : ∃ d, Try.prog.underlying 46 = some d ∧ d.isRow = true := ⟨_, Try.underlying46, rfl⟩
theorem Try.sizeTgo : (Try.prog.info? 46).map (·.size) = some 4 := by kernel_rfl
set_option maxRecDepth 100000 in
set_option maxHeartbeats 1000000 in
theorem implTargetsRd (t : ByteArray) (w : World) (hs : t.size ≤ maxLen) :
    Calls Try.prog 19 #[.string t] w fun r w' => ∃ v e l a n cp c, r = .returned (.agg #[.int .i64 v, .int .i64 e, .slice a n cp, .int .i64 c]) ∧ TgAns t v e l c ∧ OwnTg w' w.heap.size (.slice a n cp) l ∧ Below w.heap.size w w' := by
  have hR : ∀ w0, Calls Try.prog 54 #[.string t, .string ⟨#[84]⟩, .func (.func 55) #[] #[]] w0 fun r w' => ∃ v e l a n cp c, r = .returned (.tuple #[.agg #[.int .i64 v, .int .i64 e, .slice a n cp], .int .i64 c]) ∧ TgAns t v e l c ∧ OwnTg w' w0.heap.size (.slice a n cp) l ∧ Below w0.heap.size w0 w' := fun w0 => rtAll t w0 hs
  go_enter Try.func19, Try.ntmps19
  go_wp2_with (first
    | (with_reducible refine wpList_allocV (w := w) (by with_unfolding_all rfl) 46 (by with_unfolding_all rfl) (tov 0 0 none 0 0 0) Try.infoTgo ?_; intro w1 hA1 hB1 hS1; have z1 : w.heap.size < w1.heap.size := (by omega); clear hS1)
    | (go_at_call 54; with_reducible refine (hR w1).mono ?_; rintro r w2 ⟨v, e, l, a, n, cp, c, rfl, hAn, hO2, hB2⟩; have HAn := hidP hAn; clear hAn; have R2 := hA1.below hB2 z1; have B2 : Below w.heap.size w w2 := hB1.trans (hB2.mono (Nat.le_of_lt z1)))
    | (with_reducible refine wpList_allocV (w := w2) (by with_unfolding_all rfl) 44 (by with_unfolding_all rfl) (rtv 0 0 none 0 0) Try.infoTsz ?_; intro w3 hA3 hB3 hS3; clear hS3; have R3 := R2.below hB3 (R2.lt (tov_ne _ _ _ _ _ _)); have O3 := OwnTg.keep hO2 hB3)
    | (with_reducible refine wpList_storeH (w := w3) (by with_unfolding_all rfl) 44 (.tmp 3) (.tmp 8) (by with_unfolding_all rfl) w2.heap.size (rtv 0 0 none 0 0) (rtv v e a n cp) (by with_unfolding_all rfl) (by with_unfolding_all rfl) hA3 3 Try.sizeTs (by with_unfolding_all rfl) (by with_unfolding_all rfl) (rtv_one _ _ _ _ _) ?_; intro w4 hA4 hB4 hF4 hS4; have R4 := (Only.set hB4 hF4 hS4).row R3 (tov_ne _ _ _ _ _ _) (Nat.ne_of_lt (R2.lt (tov_ne _ _ _ _ _ _))); have O4 := OwnTg.new hO2 O3 hF4; have B4 : Below w.heap.size w w4 := (B2.trans (hB3.mono B2.size)).trans (hB4 _ B2.size); obtain ⟨p0, p1, p2⟩ := hA4.rt3)
    | (with_reducible refine wpList_storeH (w := w4) (by with_unfolding_all rfl) 46 (.tmp 2) (.tmp 12) (by with_unfolding_all rfl) w.heap.size (tov 0 0 none 0 0 0) (tov v e a n cp c) (by with_unfolding_all rfl) (by with_unfolding_all rfl) R4 4 Try.sizeTgo (by with_unfolding_all rfl) (by with_unfolding_all rfl) (tov_one _ _ _ _ _ _) ?_; intro w5 hA5 hB5 hF5 hS5; have O5 := OwnTg.store O4 hF5 z1; have B5 : Below w.heap.size w w5 := B4.trans (hB5 _ (Nat.le_refl _))))
  exact bodyPost_ret (results_V (t := 46) rfl _ w.heap.size _ rfl hA5 Try.undTgo 4 Try.sizeTgo rfl) rfl ⟨v, e, l, a, n, cp, c, rfl, HAn.out, OwnTg.base O5 (Nat.le_of_lt z1), B5⟩
end Go.Proofs.Ytmahpmjkejnkfaa
namespace Go.Proofs.Ytmahpmjkejnkfaa
open Go.RowKit
set_option linter.unusedVariables false

def BytR (t : ByteArray) (p : Nat) (bad : Bool) (x : ByteArray) (p' : Nat) (bad' : Bool) : Prop := p' ≤ t.size ∧ ((bad = false ∧ bytesO t p 32 = some (x, p') ∧ bad' = false) ∨ ((bad = true ∨ bytesO t p 32 = none) ∧ bad' = true ∧ x = ⟨#[]⟩))
theorem spByt (g p : Nat) (t : ByteArray) (w : World) (hs : t.size ≤ maxLen) (hp : p ≤ t.size) (bad : Bool) (h : RowV w g (srv t p bad)) :
    Calls Try.prog 92 #[.pointer (some ⟨g, 0, none⟩), .int .i64 32] w fun e w' => ∃ x p' bad', e = .returned (.string x) ∧ BytR t p bad x p' bad' ∧ RowV w' g (srv t p' bad') ∧ Only g w w' := by
  by_cases hb : bad = true ∨ t.size < p + 32
  · refine (spBytesBad g p 32 t w hs hp (by omega) bad hb h).mono ?_
    rintro e w' ⟨rfl, h1, h2⟩
    refine ⟨⟨#[]⟩, p, true, rfl, ⟨hp, Or.inr ⟨hb.imp id (fun hh => ?_), rfl, rfl⟩⟩, h1, h2⟩
    unfold bytesO
    rw [if_neg (by omega)]
  · have hbf : bad = false := by
      cases bad with
      | false => rfl
      | true => exact absurd (Or.inl rfl) hb
    subst hbf
    have hq : p + 32 ≤ t.size := by
      by_cases h3 : t.size < p + 32
      · exact absurd (Or.inr h3) hb
      · omega
    refine (spBytesYes g p 32 (p + 32) t w hs rfl hq h).mono ?_
    rintro e w' ⟨rfl, h1, h2⟩
    exact ⟨_, p + 32, false, rfl, ⟨hq, Or.inl ⟨rfl, by unfold bytesO; rw [if_pos hq], rfl⟩⟩, h1, h2⟩
/- The text is that of targets just where what was read says so. -/
def OiT (t : ByteArray) (O : Option (Int × Int × List TarV × Nat)) : Prop := ∀ v e l, TargetsOk t v e l ↔ ∃ q, O = some (v, e, l, q) ∧ q = t.size
theorem ot_first {t : ByteArray} {p : Nat} {d : Bool} (h : FstR t ⟨#[84]⟩ p d) : (d = false ∧ p = 1 ∧ OiT t (targetsO t 1)) ∨ (d = true ∧ OiT t none) := by
  rcases h.2 with ⟨y, e1, e2, e3, e4⟩ | ⟨e1, e2⟩
  · have : y = 84 := by simpa using (congrArg (fun b : ByteArray => b.data.toList) e1).symm
    subst this
    exact Or.inl ⟨e4, e3, fun v e l => ⟨fun ⟨_, q, k1, k2⟩ => ⟨q, k1, k2⟩, fun ⟨q, k1, k2⟩ => ⟨e2, q, k1, k2⟩⟩⟩
  · exact Or.inr ⟨e2, fun v e l => ⟨fun ⟨k0, _⟩ => absurd ⟨84, rfl, k0⟩ e1, fun ⟨q, k1, _⟩ => by cases k1⟩⟩
def ot1 (t : ByteArray) (v : Int) (b1 : Nat) : Option (Int × Int × List TarV × Nat) := match numO t b1 with
  | none => none
  | some (e, b2) => match countO t b2 20 with
    | none => none
    | some (k, b3) => restT t v e [] k b3
def ot2 (t : ByteArray) (v e : Int) (b2 : Nat) : Option (Int × Int × List TarV × Nat) := match countO t b2 20 with
  | none => none
  | some (k, b3) => restT t v e [] k b3
theorem ot_num1 {t : ByteArray} {v : Int} {p p2 : Nat} {d d2 : Bool} (h : (d = false ∧ p = 1 ∧ OiT t (targetsO t 1)) ∨ (d = true ∧ OiT t none)) (h2 : NumR t p d v p2 d2) : (d2 = false ∧ OiT t (ot1 t v p2)) ∨ (d2 = true ∧ OiT t none) := by
  rcases h with ⟨rfl, rfl, e3⟩ | ⟨rfl, e2⟩
  · unfold targetsO at e3
    rcases h2.2 with ⟨_, k1, k2⟩ | ⟨k1, k2⟩
    · rw [k1] at e3
      exact Or.inl ⟨k2, e3⟩
    · rcases k1 with k1 | k1
      · cases k1
      · rw [k1] at e3
        exact Or.inr ⟨k2, e3⟩
  · rcases h2.2 with ⟨k1, _⟩ | ⟨_, k2⟩
    · cases k1
    · exact Or.inr ⟨k2, e2⟩
theorem ot_num2 {t : ByteArray} {v e : Int} {p p2 : Nat} {d d2 : Bool} (h : (d = false ∧ OiT t (ot1 t v p)) ∨ (d = true ∧ OiT t none)) (h2 : NumR t p d e p2 d2) : (d2 = false ∧ OiT t (ot2 t v e p2)) ∨ (d2 = true ∧ OiT t none) := by
  rcases h with ⟨rfl, e3⟩ | ⟨rfl, e2⟩
  · unfold ot1 at e3
    rcases h2.2 with ⟨_, k1, k2⟩ | ⟨k1, k2⟩
    · rw [k1] at e3
      exact Or.inl ⟨k2, e3⟩
    · rcases k1 with k1 | k1
      · cases k1
      · rw [k1] at e3
        exact Or.inr ⟨k2, e3⟩
  · rcases h2.2 with ⟨k1, _⟩ | ⟨_, k2⟩
    · cases k1
    · exact Or.inr ⟨k2, e2⟩
def LpT (t : ByteArray) (v e : Int) (l : List TarV) (m p : Nat) (d : Bool) : Prop := (d = false ∧ OiT t (restT t v e l m p) ∧ ∀ y ∈ l, y.w) ∨ (d = true ∧ OiT t none)
theorem ot_many {t : ByteArray} {v e : Int} {p k p2 : Nat} {d d2 : Bool} (h : (d = false ∧ OiT t (ot2 t v e p)) ∨ (d = true ∧ OiT t none)) (h2 : ManR t p d 20 k p2 d2) : LpT t v e [] k p2 d2 := by
  rcases h with ⟨rfl, e3⟩ | ⟨rfl, e2⟩
  · unfold ot2 at e3
    rcases h2.2.2 with ⟨_, k1, k2⟩ | ⟨k1, k2⟩
    · rw [k1] at e3
      exact Or.inl ⟨k2, e3, fun y hy => by cases hy⟩
    · rcases k1 with k1 | k1
      · cases k1
      · rw [k1] at e3
        exact Or.inr ⟨k2, e3⟩
  · rcases h2.2.2 with ⟨k1, _⟩ | ⟨_, k2⟩
    · cases k1
    · exact Or.inr ⟨k2, e2⟩
theorem ot_round {t : ByteArray} {v e : Int} {l : List TarV} {m p p1 p2 p3 : Nat} {d d1 d2 d3 : Bool} {a b : ByteArray} {c : Int} (hs : t.size ≤ maxLen) (h : LpT t v e l (m + 1) p d) (h1 : TxtR t p d a p1 d1) (h2 : BytR t p1 d1 b p2 d2) (h3 : NumR t p2 d2 c p3 d3) : LpT t v e (l ++ [⟨a, b, c⟩]) m p3 d3 := by
  have badN : ∀ {p q : Nat} {e : Bool} {n : Int}, NumR t p true n q e → e = true := fun h => by
    rcases h.2 with ⟨k, _⟩ | ⟨_, k⟩
    · cases k
    · exact k
  have badB : ∀ {p q : Nat} {e : Bool} {n : ByteArray}, BytR t p true n q e → e = true := fun h => by
    rcases h.2 with ⟨k, _⟩ | ⟨_, k, _⟩
    · cases k
    · exact k
  have badT : ∀ {p q : Nat} {e : Bool} {n : ByteArray}, TxtR t p true n q e → e = true := fun h => by
    rcases h.2 with ⟨k, _⟩ | ⟨_, k, _⟩
    · cases k
    · exact k
  rcases h with ⟨rfl, e2, e3⟩ | ⟨rfl, e2⟩
  · rcases h1.2 with ⟨_, k1, rfl⟩ | ⟨k1, rfl, _⟩
    · rcases h2.2 with ⟨_, k2, rfl⟩ | ⟨k2, rfl, _⟩
      · rcases h3.2 with ⟨_, k3, rfl⟩ | ⟨k3, rfl⟩
        · refine Or.inl ⟨rfl, by rw [restT_step k1 k2 k3] at e2; exact e2, fun y hy => ?_⟩
          rcases List.mem_append.1 hy with hy | hy
          · exact e3 y hy
          · obtain rfl := List.mem_singleton.1 hy
            exact tarW hs k1 k2 k3
        · rcases k3 with k3 | k3
          · cases k3
          · exact Or.inr ⟨rfl, by rw [restT_no3 k1 k2 k3] at e2; exact e2⟩
      · rcases k2 with k2 | k2
        · cases k2
        · exact Or.inr ⟨badN h3, by rw [restT_no2 k1 k2] at e2; exact e2⟩
    · rcases k1 with k1 | k1
      · cases k1
      · obtain rfl := badB h2
        exact Or.inr ⟨badN h3, by rw [restT_no1 k1] at e2; exact e2⟩
  · obtain rfl := badT h1
    obtain rfl := badB h2
    exact Or.inr ⟨badN h3, e2⟩
theorem ot_end {t : ByteArray} {v e : Int} {l : List TarV} {p : Nat} {d : Bool} (h : LpT t v e l 0 p d) : (doneB t p d = false → ¬ ∃ v e l, TargetsOk t v e l) ∧ (doneB t p d = true → (∀ y ∈ l, y.w) ∧ ((targetsB v e l = true ∧ TargetsOk t v e l) ∨ (targetsB v e l = false ∧ ¬ ∃ v e l, TargetsOk t v e l))) := by
  unfold doneB
  rcases h with ⟨rfl, e2, e3⟩ | ⟨rfl, e2⟩
  · rw [restT_end] at e2
    constructor
    · intro hd
      have hp : ¬ p = t.size := by simpa using hd
      rintro ⟨v', x', l', hh⟩
      obtain ⟨q, k1, k2⟩ := (e2 v' x' l').1 hh
      split at k1
      · injection k1 with k1
        injection k1 with _ k1
        injection k1 with _ k1
        injection k1 with _ k4
        exact hp (k4.trans k2)
      · cases k1
    · intro hd
      have hp : p = t.size := by simpa using hd
      refine ⟨e3, ?_⟩
      cases hb : targetsB v e l with
      | true => exact Or.inl ⟨rfl, (e2 v e l).2 ⟨p, by rw [hb]; rfl, hp⟩⟩
      | false =>
        refine Or.inr ⟨rfl, ?_⟩
        rintro ⟨v', x', l', hh⟩
        obtain ⟨q, k1, _⟩ := (e2 v' x' l').1 hh
        rw [hb] at k1
        cases k1
  · refine ⟨fun _ => ?_, fun hd => by cases hd⟩
    rintro ⟨v', x', l', hh⟩
    obtain ⟨q, k1, _⟩ := (e2 v' x' l').1 hh
    cases k1
/- The rows of the call. -/
structure KpSt (w4 : World) (B0 g G2 G5 : Nat) (t : ByteArray) (p : Nat) (d : Bool) (x y : Int) (v : Value) (l : List TarV) (w' : World) : Prop where
  bel : Below B0 w4 w'
  cur : RowV w' g (srv t p d)
  r2 : RowV w' G2 (rtv 0 0 none 0 0)
  r5 : RowV w' G5 (rtw x y v)
  own : OwnTg w' w4.heap.size v l
  sz : w4.heap.size ≤ w'.heap.size
  b2 : B0 ≤ G2
  bg : G2 < g
  b5 : g < G5
  b4 : G5 < w4.heap.size
theorem KpSt.same {w4 w' w2 : World} {B0 g G2 G5 p : Nat} {d : Bool} {t : ByteArray} {x y : Int} {v : Value} {l : List TarV} (h : KpSt w4 B0 g G2 G5 t p d x y v l w') (hb : Below B0 w' w2) (hk : ∀ k, k < w4.heap.size → B0 ≤ k → w2.heap[k]? = w'.heap[k]?) (ho : OwnTg w2 w4.heap.size v l) : KpSt w4 B0 g G2 G5 t p d x y v l w2 := by
  have := h.b2
  have := h.bg
  have := h.b5
  have := h.b4
  exact ⟨h.bel.trans hb, row_blk h.cur (hk g (by omega) (by omega)), row_blk h.r2 (hk G2 (by omega) (by omega)), row_blk h.r5 (hk G5 (by omega) (by omega)), ho, Nat.le_trans h.sz hb.size, h.b2, h.bg, h.b5, h.b4⟩
theorem KpSt.call {w4 w' w2 : World} {B0 g G2 G5 p : Nat} {d : Bool} {t : ByteArray} {x y : Int} {v : Value} {l : List TarV} (h : Hid (KpSt w4 B0 g G2 G5 t p d x y v l w')) (hb : Below w'.heap.size w' w2) : Hid (KpSt w4 B0 g G2 G5 t p d x y v l w2) := by
  have e1 := h.out.b2
  have e2 := h.out.bg
  have e3 := h.out.b5
  have e4 := h.out.b4
  have e5 := h.out.sz
  exact h.out.same (hb.mono (by omega)) (fun k hk _ => hb.block k (by omega)) (OwnTg.keep h.out.own hb)
theorem KpSt.drew {w4 w' : World} {B0 g G2 G5 p : Nat} {d : Bool} {t : ByteArray} {x y : Int} {v : Value} {l : List TarV} (h : Hid (KpSt w4 B0 g G2 G5 t p d x y v l w')) : Hid (KpSt w4 B0 g G2 G5 t p d x y v l w'.drew) := ⟨h.out.bel.drew, h.out.cur.drew, h.out.r2.drew, h.out.r5.drew, h.out.own, h.out.sz, h.out.b2, h.out.bg, h.out.b5, h.out.b4⟩
theorem KpSt.far {w4 w' w2 : World} {B0 g G2 G5 p G : Nat} {d : Bool} {t : ByteArray} {x y : Int} {v : Value} {l : List TarV} (h : Hid (KpSt w4 B0 g G2 G5 t p d x y v l w')) (ho : Only G w' w2) (hG : w4.heap.size ≤ G) (hv : ∀ k, v.ownBlock = some k → k ≠ G) : Hid (KpSt w4 B0 g G2 G5 t p d x y v l w2) := by
  have e1 := h.out.b2
  have e2 := h.out.bg
  have e3 := h.out.b5
  have e4 := h.out.b4
  have e5 := h.out.sz
  exact h.out.same (ho.bel (by omega)) (fun k hk _ => ho.blk k (by omega) (by omega)) (own_same h.out.own (fun k hk hl => ho.blk k (hv k hk) hl))
theorem KpSt.read {w4 w' w2 : World} {B0 g G2 G5 p q : Nat} {d d' : Bool} {t : ByteArray} {x y : Int} {v : Value} {l : List TarV} (h : Hid (KpSt w4 B0 g G2 G5 t p d x y v l w')) (hr : RowV w2 g (srv t q d')) (ho : Only g w' w2) : Hid (KpSt w4 B0 g G2 G5 t q d' x y v l w2) := by
  have e1 := h.out.b2
  have e2 := h.out.bg
  have e3 := h.out.b5
  have e4 := h.out.b4
  have e5 := h.out.sz
  exact ⟨h.out.bel.trans (ho.bel (by omega)), hr, ho.row h.out.r2 (rtv_nev) (by omega), ho.row h.out.r5 (rtw_ne _ _ _) (by omega), own_same h.out.own (fun k hk hl => ho.blk k (by have := (own_ge h.out.own hk).1; omega) hl), Nat.le_trans e5 ho.size, e1, e2, e3, e4⟩
theorem KpSt.body {w4 w' w2 : World} {B0 g G2 G5 p : Nat} {d : Bool} {t : ByteArray} {x y x2 y2 : Int} {v : Value} {l : List TarV} (h : Hid (KpSt w4 B0 g G2 G5 t p d x y v l w')) (hr : RowV w2 G5 (rtw x2 y2 v)) (ho : Only G5 w' w2) : Hid (KpSt w4 B0 g G2 G5 t p d x2 y2 v l w2) := by
  have e1 := h.out.b2
  have e2 := h.out.bg
  have e3 := h.out.b5
  have e4 := h.out.b4
  have e5 := h.out.sz
  exact ⟨h.out.bel.trans (ho.bel (by omega)), ho.row h.out.cur (srv_ne _ _ _) (by omega), ho.row h.out.r2 (rtv_nev) (by omega), hr, own_same h.out.own (fun k hk hl => ho.blk k (by have := (own_ge h.out.own hk).1; omega) hl), Nat.le_trans e5 ho.size, e1, e2, e3, e4⟩
theorem KpSt.old {w4 w' w2 : World} {B0 g G2 G5 p k : Nat} {d : Bool} {t : ByteArray} {x y : Int} {v : Value} {l : List TarV} (h : Hid (KpSt w4 B0 g G2 G5 t p d x y v l w')) (hg : w'.grownBy w2 v.ownBlock) (hk : k < w4.heap.size) : w2.heap[k]? = w'.heap[k]? := hg.block k (by have := h.out.sz; omega) (fun e => by have := (own_ge h.out.own e.symm).1; omega)
theorem KpSt.r5a {w4 w' w2 : World} {B0 g G2 G5 p : Nat} {d : Bool} {t : ByteArray} {x y : Int} {v : Value} {l : List TarV} (h : Hid (KpSt w4 B0 g G2 G5 t p d x y v l w')) (hg : w'.grownBy w2 v.ownBlock) : RowV w2 G5 (rtw x y v) := row_blk h.out.r5 (KpSt.old h hg h.out.b4)
theorem KpSt.app {w4 w' w2 w3 : World} {B0 g G2 G5 p : Nat} {d : Bool} {t : ByteArray} {x y : Int} {v v' : Value} {l l' : List TarV} (h : Hid (KpSt w4 B0 g G2 G5 t p d x y v l w')) (hg : w'.grownBy w2 v.ownBlock) (hw : OwnTg w2 w4.heap.size v' l') (hr : RowV w3 G5 (rtw x y v')) (ho : Only G5 w2 w3) : Hid (KpSt w4 B0 g G2 G5 t p d x y v' l' w3) := by
  have e1 := h.out.b2
  have e2 := h.out.bg
  have e3 := h.out.b5
  have e4 := h.out.b4
  have e5 := h.out.sz
  refine ⟨(h.out.bel.trans ⟨hg.os, hg.tape, hg.output, hg.size, fun k hk => KpSt.old h hg (by omega)⟩).trans (ho.bel (by omega)), ho.row (row_blk h.out.cur (KpSt.old h hg (by omega))) (srv_ne _ _ _) (by omega), ho.row (row_blk h.out.r2 (KpSt.old h hg (by omega))) (rtv_nev) (by omega), hr, own_same hw (fun k hk hl => ho.blk k (by have := (own_ge hw hk).1; omega) hl), Nat.le_trans (Nat.le_trans e5 hg.size) ho.size, e1, e2, e3, e4⟩
theorem KpSt.curH {w4 w' : World} {B0 g G2 G5 p : Nat} {d : Bool} {t : ByteArray} {x y : Int} {v : Value} {l : List TarV} (h : Hid (KpSt w4 B0 g G2 G5 t p d x y v l w')) : RowV w' g (srv t p d) := h.out.cur
theorem KpSt.r5H {w4 w' : World} {B0 g G2 G5 p : Nat} {d : Bool} {t : ByteArray} {x y : Int} {v : Value} {l : List TarV} (h : Hid (KpSt w4 B0 g G2 G5 t p d x y v l w')) : RowV w' G5 (rtw x y v) := h.out.r5
theorem KpSt.r2H {w4 w' : World} {B0 g G2 G5 p : Nat} {d : Bool} {t : ByteArray} {x y : Int} {v : Value} {l : List TarV} (h : Hid (KpSt w4 B0 g G2 G5 t p d x y v l w')) : RowV w' G2 (rtv 0 0 none 0 0) := h.out.r2
theorem KpSt.szH {w4 w' : World} {B0 g G2 G5 p : Nat} {d : Bool} {t : ByteArray} {x y : Int} {v : Value} {l : List TarV} (h : Hid (KpSt w4 B0 g G2 G5 t p d x y v l w')) : w4.heap.size ≤ w'.heap.size := h.out.sz
theorem KpSt.ownH {w4 w' : World} {B0 g G2 G5 p : Nat} {d : Bool} {t : ByteArray} {x y : Int} {v : Value} {l : List TarV} (h : Hid (KpSt w4 B0 g G2 G5 t p d x y v l w')) : OwnTg w' w4.heap.size v l := h.out.own
theorem KpSt.ob {w4 w' : World} {B0 g G2 G5 p : Nat} {d : Bool} {t : ByteArray} {x y : Int} {v : Value} {l : List TarV} (h : Hid (KpSt w4 B0 g G2 G5 t p d x y v l w')) : ∀ k, v.ownBlock = some k → k ≠ w'.heap.size := fun k hk => Nat.ne_of_lt (own_ge h.out.own hk).2
theorem KpSt.neg {w4 w' : World} {B0 g G2 G5 p k : Nat} {d : Bool} {t : ByteArray} {x y : Int} {v : Value} {l : List TarV} (h : Hid (KpSt w4 B0 g G2 G5 t p d x y v l w')) (hk : w4.heap.size ≤ k) : k ≠ g := by
  have := h.out.b5
  have := h.out.b4
  omega
theorem KpSt.cell {w4 w' : World} {B0 g G2 G5 p : Nat} {d : Bool} {t : ByteArray} {x y : Int} {v : Value} {l : List TarV} (h : Hid (KpSt w4 B0 g G2 G5 t p d x y v l w')) : w'.cell? ⟨G5, 0, none⟩ = some (.int .i64 x) ∧ w'.cell? ⟨G5, 1, none⟩ = some (.int .i64 y) ∧ w'.cell? ⟨G5, 2, none⟩ = some v := ⟨h.out.r5.cell (k := 0) rfl, h.out.r5.cell (k := 1) rfl, h.out.r5.cell (k := 2) rfl⟩
theorem KpSt.start {w w1 w2 w3 w4 : World} {t : ByteArray} (r : RowV w3 w.heap.size (rtv 0 0 none 0 0)) (c : RowV w3 w1.heap.size (srv t 0 false)) (a : RowV w4 w2.heap.size (rtv 0 0 none 0 0)) (z1 : w.heap.size < w1.heap.size) (z2 : w1.heap.size < w2.heap.size) (z3 : w2.heap.size < w3.heap.size) (o : Only w2.heap.size w3 w4) (hs : w4.heap.size = w3.heap.size) : Hid (KpSt w4 w.heap.size w1.heap.size w.heap.size w2.heap.size t 0 false 0 0 (.slice none 0 0) [] w4) :=
  ⟨Below.refl _ _, o.row c (srv_ne _ _ _) (by omega), o.row r (rtv_nev) (by omega), a, ownTg_nil _ _, Nat.le_refl _, Nat.le_refl _, z1, z2, by omega⟩
theorem lenT_add {l : List TarV} {n : Nat} (h : Hid (l.length = n)) (y : TarV) : (l ++ [y]).length = n + 1 := by rw [List.length_append, h.out]; rfl
theorem txtT_le {t x : ByteArray} {p p' : Nat} {d d' : Bool} (h : Hid (TxtR t p d x p' d')) : p' ≤ t.size := h.out.1
theorem manT_le {t : ByteArray} {p p' m k : Nat} {d d' : Bool} (h : Hid (ManR t p d m k p' d')) : p' ≤ t.size := h.out.1
theorem Try.siz1S : (Try.prog.info? 9).map (·.size) = some 1 := by kernel_rfl
theorem byt_le {t x : ByteArray} {p p' : Nat} {d d' : Bool} (h : Hid (BytR t p d x p' d')) : p' ≤ t.size := h.out.1
theorem KpSt.sgf {w w1 w2 w4 w' w3 : World} {p : Nat} {d : Bool} {t : ByteArray} {x y : Int} {a : Option Addr} {n c : Nat} {l : List TarV} (h : Hid (KpSt w4 w.heap.size w1.heap.size w.heap.size w2.heap.size t p d x y (.slice a n c) l w')) (hat : TgsAt w' a l) (ho : Only w.heap.size w' w3) (z1 : w.heap.size < w1.heap.size) (z2 : w1.heap.size < w2.heap.size) : TgsAt w3 a l := by
  have hO : OwnTg w3 w4.heap.size (.slice a n c) l := own_same h.out.own (fun k hk hl => ho.blk k (by have := (own_ge h.out.own hk).1; have := h.out.b4; omega) hl)
  obtain ⟨a', c', e, hs⟩ := hO.form
  injection e with e1 e2 e3
  subst e1
  exact hs
theorem KpSt.ab {w w1 w2 w4 w' : World} {p : Nat} {d : Bool} {t : ByteArray} {x y : Int} {a : Option Addr} {n c : Nat} {l : List TarV} (h : Hid (KpSt w4 w.heap.size w1.heap.size w.heap.size w2.heap.size t p d x y (.slice a n c) l w')) (z1 : w.heap.size < w1.heap.size) (z2 : w1.heap.size < w2.heap.size) : ∀ ad, a = some ad → w.heap.size ≤ ad.block := by
  intro ad e
  subst e
  have := (own_ge h.out.own (k := ad.block) rfl).1
  have := h.out.b4
  omega
theorem KpSt.cf {w w1 w2 w4 w' w3 : World} {p : Nat} {d : Bool} {t : ByteArray} {x y : Int} {v : Value} {l : List TarV} (h : Hid (KpSt w4 w.heap.size w1.heap.size w.heap.size w2.heap.size t p d x y v l w')) (ho : Only w.heap.size w' w3) (z1 : w.heap.size < w1.heap.size) (z2 : w1.heap.size < w2.heap.size) : w3.cell? ⟨w2.heap.size, 0, none⟩ = some (.int .i64 x) ∧ w3.cell? ⟨w2.heap.size, 1, none⟩ = some (.int .i64 y) ∧ w3.cell? ⟨w2.heap.size, 2, none⟩ = some v := by
  have hr := ho.row h.out.r5 (rtw_ne _ _ _) (by omega)
  exact ⟨hr.cell (k := 0) rfl, hr.cell (k := 1) rfl, hr.cell (k := 2) rfl⟩
set_option maxRecDepth 100000 in
set_option maxHeartbeats 4000000 in
theorem spTargets (t : ByteArray) (w : World) (hs : t.size ≤ maxLen) :
    Calls Try.prog 53 #[.string t] w fun r w' => ∃ x y l a n c ok, r = .returned (.tuple #[.agg #[.int .i64 x, .int .i64 y, .slice a n c], .bool ok]) ∧ l.length = n ∧ TgsAt w' a l ∧ (∀ ad, a = some ad → w.heap.size ≤ ad.block) ∧ n ≤ 20 ∧ ((ok = true ∧ TargetsOk t x y l) ∨ (ok = false ∧ ¬ ∃ v e l, TargetsOk t v e l)) ∧ Below w.heap.size w w' := by
  have hs' : Hid (t.size ≤ maxLen) := hs
  clear hs
  go_enter Try.func53, Try.ntmps53
  go_wp2_with (first
    | (with_reducible refine wpList_allocV (w := w) (by with_unfolding_all rfl) 44 (by with_unfolding_all rfl) (rtv 0 0 none 0 0) Try.infoTsz ?_; intro w1 hA1 hB1 hS1; have z1 : w.heap.size < w1.heap.size := (by omega); clear hS1)
    | (with_reducible refine wpList_boxV (w := w1) (by with_unfolding_all rfl) 115 (.tmp 9) (by with_unfolding_all rfl) (srv t 0 false) (by with_unfolding_all rfl) ?_; intro w2 hA2 hB2 hS2; have z2 : w1.heap.size < w2.heap.size := (by omega); clear hS2; have R2 := hA1.below hB2 z1)
    | (with_reducible refine wpList_allocV (w := w2) (by with_unfolding_all rfl) 44 (by with_unfolding_all rfl) (rtv 0 0 none 0 0) Try.infoTsz ?_; intro w3 hA3 hB3 hS3; have z3 : w2.heap.size < w3.heap.size := (by omega); clear hS3; have R3 := R2.below hB3 (Nat.lt_trans z1 z2); have C3 := hA2.below hB3 z2; have B03 : Below w.heap.size w w3 := (hB1.trans (hB2.mono (Nat.le_of_lt z1))).trans (hB3.mono (Nat.le_of_lt (Nat.lt_trans z1 z2))))
    | (with_reducible refine wpList_storeH (w := w3) (by with_unfolding_all rfl) 44 (.tmp 5) (.tmp 11) (by with_unfolding_all rfl) w2.heap.size (rtv 0 0 none 0 0) (rtv 0 0 none 0 0) (by with_unfolding_all rfl) (by with_unfolding_all rfl) hA3 3 Try.sizeTs (by with_unfolding_all rfl) (by with_unfolding_all rfl) (rtv_one _ _ _ _ _) ?_; intro w4 hA4 hB4 hF4 hS4; have HS4 := KpSt.start R3 C3 hA4 z1 z2 z3 (Only.set hB4 hF4 hS4) hS4; have B04 : Below w.heap.size w w4 := B03.trans (hB4 _ (Nat.le_of_lt (Nat.lt_trans z1 z2))))
    | (go_at_call 80; refine (spFirst w1.heap.size t ⟨#[84]⟩ w4 hs'.out (KpSt.curH HS4)).mono ?_; rintro r w5 ⟨p1, d1, rfl, hf, hA5, hO5⟩; have HF1 := hidP hf; clear hf; have HS5 := KpSt.read HS4 hA5 hO5)
    | (go_at_call 83; with_reducible refine (spNum w1.heap.size p1 t w5 hs'.out (fst_le HF1) d1 (KpSt.curH HS5)).mono ?_; rintro r w6 ⟨x, p2, d2, rfl, hf, hA6, hO6⟩; have HT1 := hidP hf; clear hf; have HS6 := KpSt.read HS5 hA6 hO6)
    | (with_reducible refine wpList_cellH (w := w6) (by with_unfolding_all rfl) 2 (.tmp 16) (.tmp 15) (by with_unfolding_all rfl) w2.heap.size 0 (rtw 0 0 (.slice none 0 0)) (rtw x 0 (.slice none 0 0)) (.int .i64 x) (by with_unfolding_all rfl) (by with_unfolding_all rfl) rfl Try.siz1I (KpSt.r5H HS6) (by simp [rtw]) (by with_unfolding_all rfl) ?_; intro w7 hA7 hB7 hF7 hS7; have HS7 := KpSt.body HS6 hA7 (Only.set hB7 hF7 hS7))
    | (go_at_call 83; with_reducible refine (spNum w1.heap.size p2 t w7 hs'.out (num_le HT1) d2 (KpSt.curH HS7)).mono ?_; rintro r w9 ⟨y, p4, d4, rfl, hf, hA9, hO9⟩; have HT2 := hidP hf; clear hf; have HS9 := KpSt.read HS7 hA9 hO9)
    | (with_reducible refine wpList_cellH (w := w9) (by with_unfolding_all rfl) 2 (.tmp 19) (.tmp 18) (by with_unfolding_all rfl) w2.heap.size 1 (rtw x 0 (.slice none 0 0)) (rtw x y (.slice none 0 0)) (.int .i64 y) (by with_unfolding_all rfl) (by with_unfolding_all rfl) rfl Try.siz1I (KpSt.r5H HS9) (by simp [rtw]) (by with_unfolding_all rfl) ?_; intro w10 hA10 hB10 hF10 hS10; have HS10 := KpSt.body HS9 hA10 (Only.set hB10 hF10 hS10))
    | (go_at_call 82; refine (spMany w1.heap.size p4 20 t w10 hs'.out (num_le HT2) d4 (KpSt.curH HS10)).mono ?_; rintro r w8 ⟨k, p3, d3, rfl, hf, hA8, hO8⟩; have HM1 := hidP hf; clear hf; have HS8 := KpSt.read HS10 hA8 hO8))
  have HLp : Hid (LpT t x y [] k p3 d3) := ot_many (ot_num2 (ot_num1 (ot_first HF1.out) HT1.out) HT2.out) HM1.out
  have hp3 : p3 ≤ t.size := manT_le HM1
  have hk16 : k ≤ 20 := HM1.out.2.1
  clear HS4 HS5 HS6 HS7 HS9 HS10 HF1 HT1 HT2 HM1 hA9 hA10 hB10 hF10 hS10 hO9 hA1 hA2 hA3 hA4 hA5 hA6 hA7 hA8 hB1 hB2 hB3 hB4 hF4 hS4 hB7 hF7 hS7 R2 R3 C3 B03 hO5 hO6 hO8
  go_loopw [6] (fun vk wr => ∃ (m p : Nat) (d : Bool) (v : Value) (l : List TarV), vk = .int .i64 (m : Int) ∧ m ≤ 20 ∧ p ≤ t.size ∧ Hid (l.length + m = k) ∧ Hid (LpT t x y l m p d) ∧ Hid (KpSt w4 w.heap.size w1.heap.size w.heap.size w2.heap.size t p d x y v l wr)) (fun vk _ => (intOf vk).toNat)
  case atStart => exact ⟨k, p3, d3, .slice none 0 0, [], rfl, hk16, hp3, by show _ = _; simp, HLp, HS8⟩
  case round =>
  clear HLp HS8
  obtain ⟨m, p, d, v, l, rfl, hm, hp, HLn, HLp, HS⟩ := hrel
  have hvf := OwnTg.form (KpSt.ownH HS)
  obtain ⟨a, c, rfl, hat⟩ := hvf
  obtain ⟨n, hn⟩ : ∃ n, l.length = n := ⟨_, rfl⟩
  have HNn : Hid (l.length = n) := hn
  rw [hn] at HS
  have hn16 : n ≤ 20 := by have := HLn.out; omega
  by_cases hlt : 0 < m
  case pos =>
    have hl1000 : l.length ≤ 1000 := by omega
    obtain ⟨m', rfl⟩ : ∃ m', m = m' + 1 := ⟨m - 1, by omega⟩
    have em : ((m' + 1 : Nat) : Int) - 1 = (m' : Int) := by omega
    have d1 : decide ((0 : Int) < ((m' + 1 : Nat) : Int)) = true := decide_eq_true (by omega)
    go_wp2_with (first
      | (with_reducible refine wpList_allocV (w := wr) (by with_unfolding_all rfl) 122 (by with_unfolding_all rfl) (tgv ⟨#[]⟩ ⟨#[]⟩ 0) Try.infoTg ?_; intro wa Swa hBwa hSwa; clear hSwa; have HSwa := KpSt.call HS hBwa)
      | (with_reducible refine wpList_storeH (w := wa) (by with_unfolding_all rfl) 122 (.tmp 7) (.tmp 26) (by with_unfolding_all rfl) wr.heap.size (tgv ⟨#[]⟩ ⟨#[]⟩ 0) (tgv ⟨#[]⟩ ⟨#[]⟩ 0) (by with_unfolding_all rfl) (by with_unfolding_all rfl) Swa 3 Try.sizeTg (by with_unfolding_all rfl) (by with_unfolding_all rfl) (tgv_one _ _ _) ?_; intro wb Swb hBwb hFwb hSwb; have HSwb := KpSt.far HSwa (Only.set hBwb hFwb hSwb) (KpSt.szH HS) (KpSt.ob HS))
      | (go_at_call 81; with_reducible refine (spTxt w1.heap.size p t wb hs'.out hp d (KpSt.curH HSwb)).mono ?_; rintro r wc ⟨ka, q1, e1, rfl, hf, hAwc, hOwc⟩; have HN1 := hidP hf; clear hf; have HSwc := KpSt.read HSwb hAwc hOwc; have Swc := hOwc.row Swb (tgv_ne _ _ _) (KpSt.neg HSwb (KpSt.szH HS)))
      | (with_reducible refine wpList_cellH (w := wc) (by with_unfolding_all rfl) 9 (.tmp 29) (.tmp 28) (by with_unfolding_all rfl) wr.heap.size 0 (tgv ⟨#[]⟩ ⟨#[]⟩ 0) (tgv ka ⟨#[]⟩ 0) (.string ka) (by with_unfolding_all rfl) (by with_unfolding_all rfl) rfl Try.siz1S Swc (by simp [tgv]) (by with_unfolding_all rfl) ?_; intro wd Swd hBwd hFwd hSwd; have HSwd := KpSt.far HSwc (Only.set hBwd hFwd hSwd) (KpSt.szH HS) (KpSt.ob HS))
      | (go_at_call 92; with_reducible refine (spByt w1.heap.size q1 t wd hs'.out (txtT_le HN1) e1 (KpSt.curH HSwd)).mono ?_; rintro r we ⟨kb, q2, e2, rfl, hf, hAwe, hOwe⟩; have HN2 := hidP hf; clear hf; have HSwe := KpSt.read HSwd hAwe hOwe; have Swe := hOwe.row Swd (tgv_ne _ _ _) (KpSt.neg HSwd (KpSt.szH HS)))
      | (with_reducible refine wpList_cellH (w := we) (by with_unfolding_all rfl) 9 (.tmp 32) (.tmp 31) (by with_unfolding_all rfl) wr.heap.size 1 (tgv ka ⟨#[]⟩ 0) (tgv ka kb 0) (.string kb) (by with_unfolding_all rfl) (by with_unfolding_all rfl) rfl Try.siz1S Swe (by simp [tgv]) (by with_unfolding_all rfl) ?_; intro wf Swf hBwf hFwf hSwf; have HSwf := KpSt.far HSwe (Only.set hBwf hFwf hSwf) (KpSt.szH HS) (KpSt.ob HS))
      | (go_at_call 83; with_reducible refine (spNum w1.heap.size q2 t wf hs'.out (byt_le HN2) e2 (KpSt.curH HSwf)).mono ?_; rintro r wg ⟨kc, q3, e3, rfl, hf, hAwg, hOwg⟩; have HN3 := hidP hf; clear hf; have HSwg := KpSt.read HSwf hAwg hOwg; have Swg := hOwg.row Swf (tgv_ne _ _ _) (KpSt.neg HSwf (KpSt.szH HS)))
      | (with_reducible refine wpList_cellH (w := wg) (by with_unfolding_all rfl) 2 (.tmp 35) (.tmp 34) (by with_unfolding_all rfl) wr.heap.size 2 (tgv ka kb 0) (tgv ka kb kc) (.int .i64 kc) (by with_unfolding_all rfl) (by with_unfolding_all rfl) rfl Try.siz1I Swg (by simp [tgv]) (by with_unfolding_all rfl) ?_; intro wh Swh hBwh hFwh hSwh; have HSwh := KpSt.far HSwg (Only.set hBwh hFwh hSwh) (KpSt.szH HS) (KpSt.ob HS); obtain ⟨s0, s1, s2⟩ := Swh.tg; obtain ⟨t0, t1, t2⟩ := KpSt.cell HSwh)
      | (with_reducible refine wpList_buildTg (w := wh) (by with_unfolding_all rfl) (.tmp 38) (by with_unfolding_all rfl) ka kb kc (by with_unfolding_all rfl) ?_; intro wi Ri hBwi; have HSwi := KpSt.call HSwh hBwi)
      | (with_reducible refine wpList_appendTg (W := wi) (by with_unfolding_all rfl) (.tmp 37) (.tmp 39) (by with_unfolding_all rfl) w4.heap.size (.slice a n c) l ⟨ka, kb, kc⟩ (by with_unfolding_all rfl) (KpSt.ownH HSwi) wh.heap.size (by with_unfolding_all rfl) Ri hl1000 (KpSt.szH HSwi) ?_; intro v2 wj hOj hGj; obtain ⟨a2, c2, ev2, hatj⟩ := OwnTg.form hOj; subst ev2; have hl2 := lenT_add HNn ⟨ka, kb, kc⟩; rw [hl2] at hOj; have R5j := KpSt.r5a HSwi hGj)
      | (with_reducible refine wpList_cellH (w := wj) (by with_unfolding_all rfl) 42 (.tmp 41) (.tmp 40) (by with_unfolding_all rfl) w2.heap.size 2 (rtw x y (.slice a n c)) (rtw x y (.slice a2 (n + 1) c2)) (.slice a2 (n + 1) c2) (by with_unfolding_all rfl) (by with_unfolding_all rfl) rfl Try.size1Tgs R5j (by simp [rtw]) (by with_unfolding_all rfl) ?_; intro wz hAz hBz hFz hSz; have HSz := KpSt.app HSwi hGj hOj hAz (Only.set hBz hFz hSz)))
    have HLz : Hid (LpT t x y (l ++ [⟨ka, kb, kc⟩]) m' q3 e3) := ot_round hs'.out HLp.out HN1.out HN2.out HN3.out
    have hq3 : q3 ≤ t.size := num_le HN3
    go_roundw
    case rel => exact ⟨m', q3, e3, _, l ++ [⟨ka, kb, kc⟩], by go_num, by omega, hq3, by show _ = _; rw [List.length_append]; have := HLn.out; show l.length + 1 + m' = _; omega, HLz, HSz⟩
    case measure => simp [intOf]
  obtain rfl : m = 0 := by omega
  have HE := hidP (ot_end HLp.out)
  have HSd := KpSt.drew HS
  have hatd : TgsAt wr.drew a l := hat
  have hD : ∀ w0, Hid (KpSt w4 w.heap.size w1.heap.size w.heap.size w2.heap.size t p d x y (.slice a n c) l w0) → Calls Try.prog 84 #[.pointer (some ⟨w1.heap.size, 0, none⟩)] w0 fun e w' => e = .returned (.bool (doneB t p d)) ∧ Below w0.heap.size w0 w' := fun w0 h0 => spDone _ p t w0 hs'.out hp d (KpSt.curH h0)
  clear HLp HS hat
  cases hdn : doneB t p d with
  | false =>
    as_aux_lemma =>
    have HNo : Hid (¬ ∃ v e l, TargetsOk t v e l) := HE.out.1 hdn
    rw [hdn] at hD
    clear HE hdn
    go_wp2_with fail
    refine wp_region_held_drew (S := fun w' => w'.cell? ⟨w2.heap.size, 0, none⟩ = some (.int .i64 x) ∧ w'.cell? ⟨w2.heap.size, 1, none⟩ = some (.int .i64 y) ∧ w'.cell? ⟨w2.heap.size, 2, none⟩ = some (.slice a n c)) (by kernel_rfl) (KpSt.cell HSd) (fun hHeld => ?_)
    refine wpAnyH_take (i := 0) (oi := ⟨_, _, _, _, _, _⟩) (v := .agg #[.int .i64 x, .int .i64 y, .slice a n c]) rfl (by kernel_rfl) (by kernel_rfl) (by kernel_rfl) (fun _ _ _ h => h) (Or.inl ⟨wanted_free rfl, fun w' hSw => ?_⟩) hHeld ?_
    · obtain ⟨s0, s1, s2⟩ := hSw
      go_simp
    try simp only [Act.put, List.setIfInBounds_toArray, List.set_cons_zero, List.set_cons_succ]
    refine wpAnyH_take (i := 1) (oi := ⟨_, _, _, _, _, _⟩) (v := .pointer (some ⟨w1.heap.size, 0, none⟩)) rfl (by kernel_rfl) (by kernel_rfl) (by kernel_rfl) (fun _ _ _ h => h) (Or.inl ⟨wanted_free rfl, fun w' hSw => ?_⟩) hHeld ?_
    · go_simp
    try simp only [Act.put, List.setIfInBounds_toArray, List.set_cons_zero, List.set_cons_succ]
    generalize wr.drew = wc at *
    refine wpAnyH_ready (rs := [2]) (by kernel_rfl) (by simp) (AllReadyH.cons (o := ⟨_, _, _, _, _, _⟩) rfl (fun K hK => ?_) AllReadyH.nil)
    rewrite [if_pos (wanted_free rfl)]
    go_simp
    refine (hD wc HSd).mono ?_
    rintro r wd ⟨rfl, hBd⟩
    have HSe := KpSt.call HSd hBd
    have hate := hatd.below hBd
    go_wp2_with fail
    refine hK.out _ _ (KpSt.cell HSe) (fun hHeld => ?_)
    clear hK K
    try simp only [Act.put, List.setIfInBounds_toArray, List.set_cons_zero, List.set_cons_succ]
    refine wpAnyH_take (i := 3) (oi := ⟨_, _, _, _, _, _⟩) (v := .bool false) rfl (by kernel_rfl) (by kernel_rfl) (by kernel_rfl) (fun _ _ _ h => h) (Or.inl ⟨wanted_free rfl, fun w' hSw => ?_⟩) hHeld ?_
    · go_simp
    try simp only [Act.put, List.setIfInBounds_toArray, List.set_cons_zero, List.set_cons_succ]
    refine wpAnyH_take (i := 4) (oi := ⟨_, _, _, _, _, _⟩) (v := undef) rfl (by kernel_rfl) (by kernel_rfl) (by kernel_rfl) (fun _ _ _ h => h) (Or.inr ⟨by with_unfolding_all rfl, rfl⟩) hHeld ?_
    try simp only [Act.put, List.setIfInBounds_toArray, List.set_cons_zero, List.set_cons_succ]
    refine wpAnyH_take (i := 5) (oi := ⟨_, _, _, _, _, _⟩) (v := undef) rfl (by kernel_rfl) (by kernel_rfl) (by kernel_rfl) (fun _ _ _ h => h) (Or.inr ⟨by with_unfolding_all rfl, rfl⟩) hHeld ?_
    try simp only [Act.put, List.setIfInBounds_toArray, List.set_cons_zero, List.set_cons_succ]
    refine wpAnyH_take (i := 6) (oi := ⟨_, _, _, _, _, _⟩) (v := .bool false) rfl (by kernel_rfl) (by kernel_rfl) (by kernel_rfl) (fun _ _ _ h => h) (Or.inl ⟨wanted_free rfl, fun w' hSw => ?_⟩) hHeld ?_
    · go_simp
    try simp only [Act.put, List.setIfInBounds_toArray, List.set_cons_zero, List.set_cons_succ]
    refine wpAnyH_ready (rs := [7]) (by kernel_rfl) (by simp) (AllReadyH.cons (o := ⟨_, _, _, _, _, _⟩) rfl (fun K hK => ?_) AllReadyH.nil)
    rewrite [if_pos (wanted_free rfl)]
    with_reducible refine wp_storeV 44 (.tmp 2) (.tmp 42) (by with_unfolding_all rfl) w.heap.size (rtv 0 0 none 0 0) (rtv x y a n c) (by with_unfolding_all rfl) (by with_unfolding_all rfl) (KpSt.r2H HSe) 3 Try.sizeTs (by with_unfolding_all rfl) (by with_unfolding_all rfl) (rtv_one _ _ _ _ _) ?_
    intro wf hAf hOf
    have BF : Below w.heap.size w wf := (B04.trans HSe.out.bel).trans (hOf.bel (Nat.le_refl _))
    have SF := KpSt.sgf HSe hate hOf z1 z2
    have CF := KpSt.cf HSe hOf z1 z2
    have AF := hidP (KpSt.ab HSe z1 z2)
    refine hK.out _ _ CF (fun hHeld => ?_)
    clear hK K
    try simp only [Act.put]
    refine wpAnyH_ready (rs := [8]) (by kernel_rfl) (by simp) (AllReadyH.cons (o := ⟨_, _, _, _, _, _⟩) rfl (fun K hK => ?_) AllReadyH.nil)
    rewrite [if_pos (wanted_free rfl)]
    go_simp
    refine hK.out _ _ hHeld (fun _ => ?_)
    clear hK K
    try simp only [Act.put, List.setIfInBounds_toArray, List.set_cons_zero, List.set_cons_succ]
    refine wpAnyH_done (by kernel_rfl) ?_ _
    go_wp2
    exact bodyPost_ret (results_VB (t := 44) rfl _ w.heap.size (rtv x y a n c) rfl hAf Try.undTs 3 Try.sizeTs rfl _ rfl) rfl ⟨x, y, l, a, n, c, false, rfl, HNn.out, SF, AF.out, hn16, Or.inr ⟨rfl, HNo.out⟩, BF⟩
  | true =>
    as_aux_lemma =>
    have hEE := HE.out.2 hdn
    have HAn : Hid ((targetsB x y l = true ∧ TargetsOk t x y l) ∨ (targetsB x y l = false ∧ ¬ ∃ v e l, TargetsOk t v e l)) := hEE.2
    have hSg : ∀ w0, TgsAt w0 a l → Calls Try.prog 93 #[.agg #[.int .i64 x, .int .i64 y, .slice a n c]] w0 fun r w' => r = .returned (.bool (targetsB x y l)) ∧ Below w0.heap.size w0 w' := fun w0 h0 => specTargetsR x y a c n l w0 HNn.out h0 (by unfold maxLen; omega) hEE.1
    rw [hdn] at hD
    obtain ⟨lb, hlb⟩ : ∃ lb, targetsB x y l = lb := ⟨_, rfl⟩
    rw [hlb] at hSg HAn
    clear HE hEE hdn hlb
    go_wp2_with fail
    refine wp_region_held_drew (S := fun w' => w'.cell? ⟨w2.heap.size, 0, none⟩ = some (.int .i64 x) ∧ w'.cell? ⟨w2.heap.size, 1, none⟩ = some (.int .i64 y) ∧ w'.cell? ⟨w2.heap.size, 2, none⟩ = some (.slice a n c)) (by kernel_rfl) (KpSt.cell HSd) (fun hHeld => ?_)
    refine wpAnyH_take (i := 0) (oi := ⟨_, _, _, _, _, _⟩) (v := .agg #[.int .i64 x, .int .i64 y, .slice a n c]) rfl (by kernel_rfl) (by kernel_rfl) (by kernel_rfl) (fun _ _ _ h => h) (Or.inl ⟨wanted_free rfl, fun w' hSw => ?_⟩) hHeld ?_
    · obtain ⟨s0, s1, s2⟩ := hSw
      go_simp
    try simp only [Act.put, List.setIfInBounds_toArray, List.set_cons_zero, List.set_cons_succ]
    refine wpAnyH_take (i := 1) (oi := ⟨_, _, _, _, _, _⟩) (v := .pointer (some ⟨w1.heap.size, 0, none⟩)) rfl (by kernel_rfl) (by kernel_rfl) (by kernel_rfl) (fun _ _ _ h => h) (Or.inl ⟨wanted_free rfl, fun w' hSw => ?_⟩) hHeld ?_
    · go_simp
    try simp only [Act.put, List.setIfInBounds_toArray, List.set_cons_zero, List.set_cons_succ]
    generalize wr.drew = wc at *
    refine wpAnyH_ready (rs := [2]) (by kernel_rfl) (by simp) (AllReadyH.cons (o := ⟨_, _, _, _, _, _⟩) rfl (fun K hK => ?_) AllReadyH.nil)
    rewrite [if_pos (wanted_free rfl)]
    go_simp
    refine (hD wc HSd).mono ?_
    rintro r wd ⟨rfl, hBd⟩
    have HSe := KpSt.call HSd hBd
    have hate := hatd.below hBd
    go_wp2_with fail
    refine hK.out _ _ (KpSt.cell HSe) (fun hHeld => ?_)
    clear hK K
    try simp only [Act.put, List.setIfInBounds_toArray, List.set_cons_zero, List.set_cons_succ]
    refine wpAnyH_take (i := 3) (oi := ⟨_, _, _, _, _, _⟩) (v := .bool true) rfl (by kernel_rfl) (by kernel_rfl) (by kernel_rfl) (fun _ _ _ h => h) (Or.inl ⟨wanted_free rfl, fun w' hSw => ?_⟩) hHeld ?_
    · go_simp
    try simp only [Act.put, List.setIfInBounds_toArray, List.set_cons_zero, List.set_cons_succ]
    refine wpAnyH_take (i := 4) (oi := ⟨_, _, _, _, _, _⟩) (v := .agg #[.int .i64 x, .int .i64 y, .slice a n c]) rfl (by kernel_rfl) (by kernel_rfl) (by kernel_rfl) (fun _ _ _ h => h) (Or.inl ⟨by with_unfolding_all rfl, fun w' hSw => ?_⟩) hHeld ?_
    · obtain ⟨s0, s1, s2⟩ := hSw
      go_simp
    try simp only [Act.put, List.setIfInBounds_toArray, List.set_cons_zero, List.set_cons_succ]
    refine wpAnyH_ready (rs := [5]) (by kernel_rfl) (by simp) (AllReadyH.cons (o := ⟨_, _, _, _, _, _⟩) rfl (fun K hK => ?_) AllReadyH.nil)
    rewrite [if_pos (by with_unfolding_all rfl)]
    go_simp
    refine (hSg wd hate).mono ?_
    rintro r we ⟨rfl, hBe⟩
    have HSf := KpSt.call HSe hBe
    have hatf := hate.below hBe
    go_wp2_with fail
    refine hK.out _ _ (KpSt.cell HSf) (fun hHeld => ?_)
    clear hK K
    try simp only [Act.put, List.setIfInBounds_toArray, List.set_cons_zero, List.set_cons_succ]
    refine wpAnyH_take (i := 6) (oi := ⟨_, _, _, _, _, _⟩) (v := .bool lb) rfl (by kernel_rfl) (by kernel_rfl) (by kernel_rfl) (fun _ _ _ h => h) (Or.inl ⟨wanted_free rfl, fun w' hSw => ?_⟩) hHeld ?_
    · go_simp
    try simp only [Act.put, List.setIfInBounds_toArray, List.set_cons_zero, List.set_cons_succ]
    refine wpAnyH_ready (rs := [7]) (by kernel_rfl) (by simp) (AllReadyH.cons (o := ⟨_, _, _, _, _, _⟩) rfl (fun K hK => ?_) AllReadyH.nil)
    rewrite [if_pos (wanted_free rfl)]
    with_reducible refine wp_storeV 44 (.tmp 2) (.tmp 42) (by with_unfolding_all rfl) w.heap.size (rtv 0 0 none 0 0) (rtv x y a n c) (by with_unfolding_all rfl) (by with_unfolding_all rfl) (KpSt.r2H HSf) 3 Try.sizeTs (by with_unfolding_all rfl) (by with_unfolding_all rfl) (rtv_one _ _ _ _ _) ?_
    intro wf hAf hOf
    have BF : Below w.heap.size w wf := (B04.trans HSf.out.bel).trans (hOf.bel (Nat.le_refl _))
    have SF := KpSt.sgf HSf hatf hOf z1 z2
    have CF := KpSt.cf HSf hOf z1 z2
    have AF := hidP (KpSt.ab HSf z1 z2)
    refine hK.out _ _ CF (fun hHeld => ?_)
    clear hK K
    try simp only [Act.put]
    refine wpAnyH_ready (rs := [8]) (by kernel_rfl) (by simp) (AllReadyH.cons (o := ⟨_, _, _, _, _, _⟩) rfl (fun K hK => ?_) AllReadyH.nil)
    rewrite [if_pos (wanted_free rfl)]
    go_simp
    refine hK.out _ _ hHeld (fun _ => ?_)
    clear hK K
    try simp only [Act.put, List.setIfInBounds_toArray, List.set_cons_zero, List.set_cons_succ]
    refine wpAnyH_done (by kernel_rfl) ?_ _
    go_wp2
    exact bodyPost_ret (results_VB (t := 44) rfl _ w.heap.size (rtv x y a n c) rfl hAf Try.undTs 3 Try.sizeTs rfl _ rfl) rfl ⟨x, y, l, a, n, c, lb, rfl, HNn.out, SF, AF.out, hn16, HAn.out, BF⟩
end Go.Proofs.Ytmahpmjkejnkfaa
