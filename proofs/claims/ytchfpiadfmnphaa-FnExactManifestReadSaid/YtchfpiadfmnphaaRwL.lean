/- readWhole of a link, on the program's side. -/
import Derived.Test.YtchfpiadfmnphaaRwI
namespace Go.Proofs.Ytchfpiadfmnphaa
open Go.RowKit
set_option linter.unusedVariables false

theorem wpList_alloc1 {P : Program} {ops : Array Oper} {rest : List Oper} {o : Oper} {a : Act} {w : World} {Q : Exit → Act → World → Prop} (hg : o.guard = none) (t : TypeId) (ho : o.op = .alloc t) (z : Int)
    (hi : (P.info? t).map (fun i => i.zero) = some (some (.int .i64 z)))
    (h : ∀ w', RowV w' w.heap.size (i1v z) → Below w.heap.size w w' → w'.heap.size = w.heap.size + 1 → wpList P ops Q rest (a.put o.dst (.pointer (some ⟨w.heap.size, 0, none⟩))) w') : wpList P ops Q (o :: rest) a w := by
  refine wpList_plain hg fun K hK => ?_
  cases hq : P.info? t with
  | none => simp [hq] at hi
  | some i =>
    have hz : i.zero = some (.int .i64 z) := by simpa [hq] using hi
    unfold Oper.wp execOp
    simp only [ho, Sem.run_bind, Instr.alloc, zeroValue, run_typeInfo w hq, hz, newVar, newRow, run_newObj_alloc, Sem.run_pure, Result.andThen_ok]
    exact hK _ _ (h _ (RowV.new w (i1v z) t) ((Below.refl _ _).alloc (Nat.le_refl _) _) (Array.size_push _))
theorem Try.zeroI : (Try.prog.info? 2).map (fun i => i.zero) = some (some (.int .i64 0)) := by kernel_rfl
theorem results_V2 {P : Program} {fn : Func} {a b : Tmp} {t t2 : TypeId} {w : World} (h : fn.results = #[.cell a t, .cell b t2]) (tmps : Array Value) (g : Nat) (l : List Value) (hx : tmps.getD a undef = .pointer (some ⟨g, 0, none⟩))
    (hl : RowV w g l) (hu : ∃ d, P.underlying t = some d ∧ d.isRow = true) (n : Nat) (hi : (P.info? t).map (·.size) = some n) (hn : l.length = n) (g2 : Nat) (c : Int) (hx2 : tmps.getD b undef = .pointer (some ⟨g2, 0, none⟩)) (hl2 : RowV w g2 (i1v c)) (ht2 : P.underlying t2 = some (.int .i64)) :
    (results fn tmps).run P w = .ok (.tuple #[.agg l.toArray, .int .i64 c]) w := by
  obtain ⟨d, hd, hr⟩ := hu
  have := run_loadVar_mid (P := P) w g 0 t l d hl.rng hd hr (by rw [hn]; exact hi)
  rw [Array.getD_eq_getD_getElem?] at hx hx2
  have hc : w.cell? ⟨g2, 0, none⟩ = some (.int .i64 c) := hl2.cell (k := 0) rfl
  have h2 : (loadVar t2 ⟨g2, 0, none⟩).run P w = .ok (.int .i64 c) w := by simp [loadVar, isAgg, run_underlying ht2, go_sem, hc]
  simp [results, h, hx, hx2, asAddr, this, h2]
theorem leaves_tmps {P : Program} {fn : Func} {tmps tmps' : Array Value} {R : Ending → World → Prop} (h : results fn tmps = results fn tmps') : ∀ (ds : List Deferred) (u : FrameMode) (w : World), Leaves P fn tmps R ds u w → Leaves P fn tmps' R ds u w
  | [], .returning, w, hL => by
    obtain ⟨v, h1, h2⟩ := hL
    exact ⟨v, by rw [← h]; exact h1, h2⟩
  | [], .panicking chain, w, hL => hL
  | [], .run, w, hL => hL
  | d :: ds, u, w, hL => by
    obtain ⟨h0, fv, cap, f, args, h1, h2, h3⟩ := hL
    refine ⟨h0, fv, cap, f, args, h1, h2, h3.mono (fun e u' w' hh => ?_)⟩
    cases e with
    | returned v => exact leaves_tmps h ds _ _ hh
    | panicked c => exact leaves_tmps h ds _ _ hh
    | outgrown => exact hh
theorem pair_ret {a b : Value} {x y : Value} (h1 : a = x) (h2 : b = y) : Ending.returned (.tuple #[a, b]) = .returned (.tuple #[x, y]) := by rw [h1, h2]
end Go.Proofs.Ytchfpiadfmnphaa
