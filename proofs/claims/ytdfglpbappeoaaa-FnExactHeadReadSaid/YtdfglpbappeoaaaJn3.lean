/- The bytes of a link, on the specification's side. Right versions, times, kinds and links, on the program's side. The program's reader of a link. The program's face that reads a whole text: what its deferred function does; readWhole of a link. readWhole of a link, on the program's side. -/
import Derived.Test.YtdfglpbappeoaaaMet
import Derived.Test.YtdfglpbappeoaaaJn6
import Derived.Test.YtdfglpbappeoaaaSRow
import Derived.Deep.RegionHeld3
import Derived.Test.YtdfglpbappeoaaaJn7
import Derived.Defers
import Derived.Recover
namespace Go.Proofs.Ytdfglpbappeoaaa
open Go.RowKit
set_option linter.unusedVariables false

def kindB (k : Int) : ByteArray := if k = 2 then ⟨#[80]⟩ else if k = 3 then ⟨#[77]⟩ else ⟨#[]⟩
def lkv (v e x : Int) : List Value := [.int .i64 v, .int .i64 e, .int .i64 x]
theorem RowV.lk {w : World} {g : Nat} {v e x : Int} (h : RowV w g (lkv v e x)) : w.cell? ⟨g, 0, none⟩ = some (.int .i64 v) ∧ w.cell? ⟨g, 1, none⟩ = some (.int .i64 e) ∧ w.cell? ⟨g, 2, none⟩ = some (.int .i64 x) := ⟨h.cell (k := 0) rfl, h.cell (k := 1) rfl, h.cell (k := 2) rfl⟩
theorem lkv_ne (v e x : Int) : lkv v e x ≠ [] := by simp [lkv]
def linkB (v e x : Int) : Bool := verB v && (timB e && verB x)
def linkBy (k v e x : Int) : ByteArray := if (k = 2 ∨ k = 3) ∧ linkB v e x = true then ((kindB k ++ putS v) ++ putS e) ++ putS x else ⟨#[]⟩
structure KpLk (w : World) (g : Nat) (v e x : Int) (w' : World) : Prop where
  below : Below w.heap.size w w'
  row : RowV w' g (lkv v e x)
theorem KpLk.start {w w' : World} {g : Nat} {v e x : Int} (h1 : Below w.heap.size w w') (h2 : RowV w' g (lkv v e x)) : Hid (KpLk w g v e x w') := ⟨h1, h2⟩
theorem KpLk.call {w w' w2 : World} {g : Nat} {v e x : Int} (h : Hid (KpLk w g v e x w')) (hb : Below w'.heap.size w' w2) : Hid (KpLk w g v e x w2) := ⟨h.out.below.trans (hb.mono h.out.below.size), h.out.row.below hb (h.out.row.lt (lkv_ne _ _ _))⟩
theorem KpLk.drew {w w' : World} {g : Nat} {v e x : Int} (h : Hid (KpLk w g v e x w')) : Hid (KpLk w g v e x w'.drew) := ⟨h.out.below.drew, h.out.row.drew⟩
theorem KpLk.three {w w' : World} {g : Nat} {v e x : Int} (h : Hid (KpLk w g v e x w')) : w'.cell? ⟨g, 0, none⟩ = some (.int .i64 v) ∧ w'.cell? ⟨g, 1, none⟩ = some (.int .i64 e) ∧ w'.cell? ⟨g, 2, none⟩ = some (.int .i64 x) ∧ Hid (KpLk w g v e x w') := ⟨h.out.row.lk.1, h.out.row.lk.2.1, h.out.row.lk.2.2, h⟩
end Go.Proofs.Ytdfglpbappeoaaa
namespace Go.Proofs.Ytdfglpbappeoaaa
open Go.RowKit
set_option linter.unusedVariables false

theorem implVer (n : Int) (w : World) : Calls Try.prog 63 #[.int .i64 n] w fun e w' => e = .returned (.bool (verB n)) ∧ w = w' := by
  unfold verB
  by_cases h1 : 1 ≤ n
  · have d1 : decide (1 ≤ n) = true := decide_eq_true h1
    by_cases h2 : n ≤ 1000000
    · have d2 : decide (n ≤ 1000000) = true := decide_eq_true h2
      rw [decide_eq_true ⟨h1, h2⟩]
      go_enter Try.func63, Try.ntmps63
      go_wp2
      go_ret
      exact ⟨rfl, rfl⟩
    · have d2 : decide (n ≤ 1000000) = false := decide_eq_false h2
      rw [decide_eq_false (fun h => h2 h.2)]
      go_enter Try.func63, Try.ntmps63
      go_wp2
      go_ret
      exact ⟨rfl, rfl⟩
  · have d1 : decide (1 ≤ n) = false := decide_eq_false h1
    rw [decide_eq_false (fun h => h1 h.1)]
    go_enter Try.func63, Try.ntmps63
    go_wp2
    go_ret
    exact ⟨rfl, rfl⟩
theorem implTim (n : Int) (w : World) : Calls Try.prog 64 #[.int .i64 n] w fun e w' => e = .returned (.bool (timB n)) ∧ w = w' := by
  unfold timB
  by_cases h1 : 0 ≤ n
  · have d1 : decide (0 ≤ n) = true := decide_eq_true h1
    by_cases h2 : n ≤ 1000000000
    · have d2 : decide (n ≤ 1000000000) = true := decide_eq_true h2
      rw [decide_eq_true ⟨h1, h2⟩]
      go_enter Try.func64, Try.ntmps64
      go_wp2
      go_ret
      exact ⟨rfl, rfl⟩
    · have d2 : decide (n ≤ 1000000000) = false := decide_eq_false h2
      rw [decide_eq_false (fun h => h2 h.2)]
      go_enter Try.func64, Try.ntmps64
      go_wp2
      go_ret
      exact ⟨rfl, rfl⟩
  · have d1 : decide (0 ≤ n) = false := decide_eq_false h1
    rw [decide_eq_false (fun h => h1 h.1)]
    go_enter Try.func64, Try.ntmps64
    go_wp2
    go_ret
    exact ⟨rfl, rfl⟩
end Go.Proofs.Ytdfglpbappeoaaa
namespace Go.Proofs.Ytdfglpbappeoaaa
open Go.RowKit
set_option linter.unusedVariables false

theorem i64n {n : Nat} (h : n ≤ 9223372036854775807) : I64 (n : Int) := by
  unfold I64
  simp [Lit.wf, IntKind.min, IntKind.max, IntKind.signed, IntKind.bits]
  omega
def numO (t : ByteArray) (p : Nat) : Option (Int × Nat) := if (getN t p).code = 0 then some ((getN t p).n, (getN t p).behind.toNat) else none
theorem numO_some {t : ByteArray} {p b : Nat} {n : Int} (h : numO t p = some (n, b)) : getN t p = ⟨n, b, 0⟩ ∧ b ≤ t.size ∧ t.size ≤ 20000 := by
  unfold numO at h
  rcases getN_ways t p with ⟨c, hc, hg⟩ | ⟨m, d, hg, h1, h2⟩
  · rw [hg, if_neg hc] at h; cases h
  · rw [hg, if_pos rfl] at h
    have := Option.some.inj h
    injection this with e1 e2
    simp at e1 e2
    subst e1 e2
    exact ⟨hg, h1, h2⟩
theorem numO_none {t : ByteArray} {p : Nat} (h : numO t p = none) : ∃ c, c ≠ 0 ∧ getN t p = ⟨0, 0, c⟩ := by
  unfold numO at h
  rcases getN_ways t p with ⟨c, hc, hg⟩ | ⟨m, d, hg, h1, h2⟩
  · exact ⟨c, hc, hg⟩
  · rw [hg, if_pos rfl] at h; cases h
theorem numYes (g p b : Nat) (t : ByteArray) (n : Int) (w : World) (hs : t.size ≤ maxLen) (hn : numO t p = some (n, b) ∧ p ≤ t.size) (h : RowV w g (cuv t p)) :
    Calls Try.prog 111 #[.pointer (some ⟨g, 0, none⟩)] w fun e w' => e = .returned (.int .i64 n) ∧ RowV w' g (cuv t b) ∧ Only g w w' :=
  numberYes g b t p n w (i64n (by unfold maxLen at hs; omega)) hs (numO_some hn.1).1 h
theorem numNo (g p : Nat) (t : ByteArray) (w : World) (hs : t.size ≤ maxLen) (hn : numO t p = none) (hp : p ≤ t.size) (h : RowV w g (cuv t p)) :
    Calls Try.prog 111 #[.pointer (some ⟨g, 0, none⟩)] w fun e w' => e = .panicked [{ v := faultV, recovered := false }] ∧ Only g w w' := by
  obtain ⟨c, hc, hg⟩ := numO_none hn
  exact numberNo g t p c w (i64n (by unfold maxLen at hs; omega)) hs hc hg h
theorem Try.infoLkz : (Try.prog.info? 30).map (fun i => i.zero) = some (some (.agg (lkv 0 0 0).toArray)) := by kernel_rfl
theorem Try.undLkI : ∃ d, Try.prog.underlying 30 = some d ∧ d.isRow = true := ⟨_, Try.underlying30, rfl⟩
theorem Try.sizeLkI : (Try.prog.info? 30).map (·.size) = some 3 := by kernel_rfl
theorem lkv_one (v e x : Int) : ∀ y ∈ lkv v e x, y.oneCell' = true := by
  intro y hy
  simp [lkv] at hy
  rcases hy with h | h | h <;> (rw [h]; rfl)
theorem KpM.apartN {g b : Nat} {r l : List Value} {w w' : World} (h : Hid (KpM g r [(b, l)] w w')) : b < w'.heap.size := (h.out.own _ (List.mem_cons_self ..)).2.2.lt (h.out.own _ (List.mem_cons_self ..)).2.1
theorem one_apart {b c : Nat} {l : List Value} (h : b < c) : ∀ x ∈ [(b, l)], x.1 ≠ c := fun x hx => by
  obtain rfl := List.mem_singleton.1 hx
  exact Nat.ne_of_lt h
/- The last store goes into the call's own variable: what a caller knows. -/
theorem KpM.putOf {g b : Nat} {r l l' : List Value} {rows : List (Nat × List Value)} {w w' w2 : World} (h : Hid (KpM g r ((b, l) :: rows) w w')) (hr : RowV w2 b l') (hn : l' ≠ []) (ho : Only b w' w2) : RowV w2 g r ∧ Only g w w2 := by
  have h1 := h.out.own (b, l) (List.mem_cons_self ..)
  have hb : w.heap.size ≤ b := h1.1
  have hg := h.out.lt
  refine ⟨ho.row h.out.row h.out.ne (by omega), ⟨h.out.only.below.trans (ho.below.mono (by omega)), fun x hx hl => ?_, Nat.le_trans h.out.only.size ho.size⟩⟩
  have h2 := h.out.only.blk x hx hl
  have h3 := ho.blk x (by omega) (Nat.lt_of_lt_of_le hl h.out.only.size)
  exact h3.trans h2
end Go.Proofs.Ytdfglpbappeoaaa
namespace Go.Proofs.Ytdfglpbappeoaaa
open Go.RowKit
set_option linter.unusedVariables false

def i1v (c : Int) : List Value := [.int .i64 c]
theorem i1v_ne (c : Int) : i1v c ≠ [] := by simp [i1v]
end Go.Proofs.Ytdfglpbappeoaaa
namespace Go.Proofs.Ytdfglpbappeoaaa
open Go.RowKit
set_option linter.unusedVariables false

theorem wpList_alloc1 {P : Program} {ops : Array Oper} {rest : List Oper} {o : Oper} {a : Act} {w : World} {Q : Exit → Act → World → Prop} (hg : o.guard = none) (t : TypeId) (ho : o.op = .alloc t) (z : Int)
    (hi : (P.info? t).map (fun i => i.zero) = some (some (.int .i64 z)))
    (h : ∀ w', RowV w' w.heap.size (i1v z) → Below w.heap.size w w' → w'.heap.size = w.heap.size + 1 → wpList P ops Q rest (a.put o.dst (.pointer (some ⟨w.heap.size, 0, none⟩))) w') : wpList P ops Q (o :: rest) a w := by
  refine wpList_plain hg fun K hK => ?_
  cases hq : P.info? t with
  | none => simp [hq] at hi
  | some i =>
    have hz : i.zero = some (.int .i64 z) := by simpa [hq] using hi
    unfold Oper.wp execOp
    simp only [ho, Sem.run_bind, Instr.alloc, zeroValue, run_typeInfo w hq, hz, newVar, newRow, run_newObj_alloc, Sem.run_pure, Result.andThen_ok]
    exact hK _ _ (h _ (RowV.new w (i1v z) t) ((Below.refl _ _).alloc (Nat.le_refl _) _) (Array.size_push _))
theorem Try.zeroI : (Try.prog.info? 2).map (fun i => i.zero) = some (some (.int .i64 0)) := by kernel_rfl
theorem results_V2 {P : Program} {fn : Func} {a b : Tmp} {t t2 : TypeId} {w : World} (h : fn.results = #[.cell a t, .cell b t2]) (tmps : Array Value) (g : Nat) (l : List Value) (hx : tmps.getD a undef = .pointer (some ⟨g, 0, none⟩))
    (hl : RowV w g l) (hu : ∃ d, P.underlying t = some d ∧ d.isRow = true) (n : Nat) (hi : (P.info? t).map (·.size) = some n) (hn : l.length = n) (g2 : Nat) (c : Int) (hx2 : tmps.getD b undef = .pointer (some ⟨g2, 0, none⟩)) (hl2 : RowV w g2 (i1v c)) (ht2 : P.underlying t2 = some (.int .i64)) :
    (results fn tmps).run P w = .ok (.tuple #[.agg l.toArray, .int .i64 c]) w := by
  obtain ⟨d, hd, hr⟩ := hu
  have := run_loadVar_mid (P := P) w g 0 t l d hl.rng hd hr (by rw [hn]; exact hi)
  rw [Array.getD_eq_getD_getElem?] at hx hx2
  have hc : w.cell? ⟨g2, 0, none⟩ = some (.int .i64 c) := hl2.cell (k := 0) rfl
  have h2 : (loadVar t2 ⟨g2, 0, none⟩).run P w = .ok (.int .i64 c) w := by simp [loadVar, isAgg, run_underlying ht2, go_sem, hc]
  simp [results, h, hx, hx2, asAddr, this, h2]
theorem leaves_tmps {P : Program} {fn : Func} {tmps tmps' : Array Value} {R : Ending → World → Prop} (h : results fn tmps = results fn tmps') : ∀ (ds : List Deferred) (u : FrameMode) (w : World), Leaves P fn tmps R ds u w → Leaves P fn tmps' R ds u w
  | [], .returning, w, hL => by
    obtain ⟨v, h1, h2⟩ := hL
    exact ⟨v, by rw [← h]; exact h1, h2⟩
  | [], .panicking chain, w, hL => hL
  | [], .run, w, hL => hL
  | d :: ds, u, w, hL => by
    obtain ⟨h0, fv, cap, f, args, h1, h2, h3⟩ := hL
    refine ⟨h0, fv, cap, f, args, h1, h2, h3.mono (fun e u' w' hh => ?_)⟩
    cases e with
    | returned v => exact leaves_tmps h ds _ _ hh
    | panicked c => exact leaves_tmps h ds _ _ hh
    | outgrown => exact hh
theorem pair_ret {a b : Value} {x y : Value} (h1 : a = x) (h2 : b = y) : Ending.returned (.tuple #[a, b]) = .returned (.tuple #[x, y]) := by rw [h1, h2]
end Go.Proofs.Ytdfglpbappeoaaa
