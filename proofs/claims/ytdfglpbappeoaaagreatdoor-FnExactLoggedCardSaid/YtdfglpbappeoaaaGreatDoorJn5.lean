/- The bytes of a link, on the specification's side. Right versions, times, kinds and links, on the program's side. putNums of the program: the bytes of numbers, one behind the other; slices that are built of numbers; LinkBytes of the program. The laws' own Link turned to the program's; the law FnExactLinkBytes, walked. -/
import Derived.Test.YtdfglpbappeoaaaGreatDoorJn10
import Derived.Test.YtdfglpbappeoaaaGreatDoorJn3
import Derived.Test.YtdfglpbappeoaaaGreatDoorSRow
import Derived.Deep.RegionHeld3
import Derived.Test.YtdfglpbappeoaaaGreatDoorMetB
import Derived.Great.BuildSlice
import Derived.Great.FillDense
namespace Go.Proofs.YtdfglpbappeoaaaGreatDoor
open Go.RowKit
set_option linter.unusedVariables false

def kindB (k : Int) : ByteArray := if k = 2 then ⟨#[80]⟩ else if k = 3 then ⟨#[77]⟩ else ⟨#[]⟩
def lkv (v e x : Int) : List Value := [.int .i64 v, .int .i64 e, .int .i64 x]
theorem RowV.lk {w : World} {g : Nat} {v e x : Int} (h : RowV w g (lkv v e x)) : w.cell? ⟨g, 0, none⟩ = some (.int .i64 v) ∧ w.cell? ⟨g, 1, none⟩ = some (.int .i64 e) ∧ w.cell? ⟨g, 2, none⟩ = some (.int .i64 x) := ⟨h.cell (k := 0) rfl, h.cell (k := 1) rfl, h.cell (k := 2) rfl⟩
theorem lkv_ne (v e x : Int) : lkv v e x ≠ [] := by simp [lkv]
def linkB (v e x : Int) : Bool := verB v && (timB e && verB x)
set_option maxHeartbeats 1000000 in
theorem specLink (v e x : Int) (w : World) : Calls Tryz.prog 52 #[.agg #[.int .i64 v, .int .i64 e, .int .i64 x]] w fun r w' => r = .returned (.bool (linkB v e x)) ∧ Below w.heap.size w w' := by
  have hV : ∀ w0, Calls Tryz.prog 92 #[.int .i64 v] w0 fun r w' => r = .returned (.bool (verB v)) ∧ w0 = w' := fun w0 => specVer v w0
  have hT : ∀ w0, Calls Tryz.prog 48 #[.int .i64 e] w0 fun r w' => r = .returned (.bool (timB e)) ∧ w0 = w' := fun w0 => specTim e w0
  have hX : ∀ w0, Calls Tryz.prog 92 #[.int .i64 x] w0 fun r w' => r = .returned (.bool (verB x)) ∧ w0 = w' := fun w0 => specVer x w0
  unfold linkB
  generalize verB v = bv at *
  generalize timB e = be at *
  generalize verB x = bx at *
  cases bv <;> cases be <;> cases bx
  all_goals
    go_enter Tryz.func52, Tryz.ntmps52
    go_wp2_with (first
      | (with_reducible refine wpList_boxV (w := w) (by with_unfolding_all rfl) 41 (.tmp 0) (by with_unfolding_all rfl) (lkv v e x) (by with_unfolding_all rfl) ?_; intro w1 hA1 hB1 hS1; obtain ⟨p0, p1, p2⟩ := hA1.lk; clear hS1)
      | (go_at_call 92; with_reducible refine (hV _).mono ?_; rintro r w' ⟨rfl, rfl⟩)
      | (go_at_call 48; with_reducible refine (hT _).mono ?_; rintro r w' ⟨rfl, rfl⟩)
      | (go_at_call 92; with_reducible refine (hX _).mono ?_; rintro r w' ⟨rfl, rfl⟩))
    go_ret
    exact ⟨rfl, hB1⟩
def linkBy (k v e x : Int) : ByteArray := if (k = 2 ∨ k = 3) ∧ linkB v e x = true then ((kindB k ++ putS v) ++ putS e) ++ putS x else ⟨#[]⟩
structure KpLk (w : World) (g : Nat) (v e x : Int) (w' : World) : Prop where
  below : Below w.heap.size w w'
  row : RowV w' g (lkv v e x)
theorem KpLk.start {w w' : World} {g : Nat} {v e x : Int} (h1 : Below w.heap.size w w') (h2 : RowV w' g (lkv v e x)) : Hid (KpLk w g v e x w') := ⟨h1, h2⟩
theorem KpLk.call {w w' w2 : World} {g : Nat} {v e x : Int} (h : Hid (KpLk w g v e x w')) (hb : Below w'.heap.size w' w2) : Hid (KpLk w g v e x w2) := ⟨h.out.below.trans (hb.mono h.out.below.size), h.out.row.below hb (h.out.row.lt (lkv_ne _ _ _))⟩
theorem KpLk.drew {w w' : World} {g : Nat} {v e x : Int} (h : Hid (KpLk w g v e x w')) : Hid (KpLk w g v e x w'.drew) := ⟨h.out.below.drew, h.out.row.drew⟩
theorem KpLk.three {w w' : World} {g : Nat} {v e x : Int} (h : Hid (KpLk w g v e x w')) : w'.cell? ⟨g, 0, none⟩ = some (.int .i64 v) ∧ w'.cell? ⟨g, 1, none⟩ = some (.int .i64 e) ∧ w'.cell? ⟨g, 2, none⟩ = some (.int .i64 x) ∧ Hid (KpLk w g v e x w') := ⟨h.out.row.lk.1, h.out.row.lk.2.1, h.out.row.lk.2.2, h⟩
end Go.Proofs.YtdfglpbappeoaaaGreatDoor
namespace Go.Proofs.YtdfglpbappeoaaaGreatDoor
open Go.RowKit
set_option linter.unusedVariables false

theorem implVer (n : Int) (w : World) : Calls Tryz.prog 101 #[.int .i64 n] w fun e w' => e = .returned (.bool (verB n)) ∧ w = w' := by
  unfold verB
  by_cases h1 : 1 ≤ n
  · have d1 : decide (1 ≤ n) = true := decide_eq_true h1
    by_cases h2 : n ≤ 1000000
    · have d2 : decide (n ≤ 1000000) = true := decide_eq_true h2
      rw [decide_eq_true ⟨h1, h2⟩]
      go_enter Tryz.func101, Tryz.ntmps101
      go_wp2
      go_ret
      exact ⟨rfl, rfl⟩
    · have d2 : decide (n ≤ 1000000) = false := decide_eq_false h2
      rw [decide_eq_false (fun h => h2 h.2)]
      go_enter Tryz.func101, Tryz.ntmps101
      go_wp2
      go_ret
      exact ⟨rfl, rfl⟩
  · have d1 : decide (1 ≤ n) = false := decide_eq_false h1
    rw [decide_eq_false (fun h => h1 h.1)]
    go_enter Tryz.func101, Tryz.ntmps101
    go_wp2
    go_ret
    exact ⟨rfl, rfl⟩
theorem implTim (n : Int) (w : World) : Calls Tryz.prog 89 #[.int .i64 n] w fun e w' => e = .returned (.bool (timB n)) ∧ w = w' := by
  unfold timB
  by_cases h1 : 0 ≤ n
  · have d1 : decide (0 ≤ n) = true := decide_eq_true h1
    by_cases h2 : n ≤ 1000000000
    · have d2 : decide (n ≤ 1000000000) = true := decide_eq_true h2
      rw [decide_eq_true ⟨h1, h2⟩]
      go_enter Tryz.func89, Tryz.ntmps89
      go_wp2
      go_ret
      exact ⟨rfl, rfl⟩
    · have d2 : decide (n ≤ 1000000000) = false := decide_eq_false h2
      rw [decide_eq_false (fun h => h2 h.2)]
      go_enter Tryz.func89, Tryz.ntmps89
      go_wp2
      go_ret
      exact ⟨rfl, rfl⟩
  · have d1 : decide (0 ≤ n) = false := decide_eq_false h1
    rw [decide_eq_false (fun h => h1 h.1)]
    go_enter Tryz.func89, Tryz.ntmps89
    go_wp2
    go_ret
    exact ⟨rfl, rfl⟩
set_option maxHeartbeats 1000000 in
theorem implLink (v e x : Int) (w : World) : Calls Tryz.prog 68 #[.agg #[.int .i64 v, .int .i64 e, .int .i64 x]] w fun r w' => r = .returned (.bool (linkB v e x)) ∧ Below w.heap.size w w' := by
  have hV : ∀ w0, Calls Tryz.prog 101 #[.int .i64 v] w0 fun r w' => r = .returned (.bool (verB v)) ∧ w0 = w' := fun w0 => implVer v w0
  have hT : ∀ w0, Calls Tryz.prog 89 #[.int .i64 e] w0 fun r w' => r = .returned (.bool (timB e)) ∧ w0 = w' := fun w0 => implTim e w0
  have hX : ∀ w0, Calls Tryz.prog 101 #[.int .i64 x] w0 fun r w' => r = .returned (.bool (verB x)) ∧ w0 = w' := fun w0 => implVer x w0
  unfold linkB
  generalize verB v = bv at *
  generalize timB e = be at *
  generalize verB x = bx at *
  cases bv <;> cases be <;> cases bx
  all_goals
    go_enter Tryz.func68, Tryz.ntmps68
    go_wp2_with (first
      | (with_reducible refine wpList_boxV (w := w) (by with_unfolding_all rfl) 41 (.tmp 0) (by with_unfolding_all rfl) (lkv v e x) (by with_unfolding_all rfl) ?_; intro w1 hA1 hB1 hS1; obtain ⟨p0, p1, p2⟩ := hA1.lk; clear hS1)
      | (go_at_call 101; with_reducible refine (hV _).mono ?_; rintro r w' ⟨rfl, rfl⟩)
      | (go_at_call 89; with_reducible refine (hT _).mono ?_; rintro r w' ⟨rfl, rfl⟩)
      | (go_at_call 101; with_reducible refine (hX _).mono ?_; rintro r w' ⟨rfl, rfl⟩))
    go_ret
    exact ⟨rfl, hB1⟩
end Go.Proofs.YtdfglpbappeoaaaGreatDoor
namespace Go.Proofs.YtdfglpbappeoaaaGreatDoor
open Go.RowKit
set_option linter.unusedVariables false

def ivs (l : List Int) : List Value := l.map (Value.int .i64)
theorem RowV.ai {w : World} {g : Nat} {l : List Int} (h : RowV w g (ivs l)) : AI w (some ⟨g, 0, none⟩) l := fun k hk => ⟨g, 0, rfl, by rw [Nat.zero_add]; exact h.cell (by unfold ivs; rw [List.getElem?_map, List.getElem?_eq_getElem hk]; rfl)⟩
theorem wpList_build2 {ops : Array Oper} {rest : List Oper} {o : Oper} {a : Act} {w : World} {Q : Exit → Act → World → Prop} (hg : o.guard = none) (x0 x1 : Operand)
    (ho : o.op = .buildSlice 97 2 #[(0, x0), (1, x1)]) (v0 v1 : Int) (e0 : a.eval x0 = .int .i64 v0) (e1 : a.eval x1 = .int .i64 v1)
    (h : ∀ w', AI w' (some ⟨w.heap.size, 0, none⟩) [v0, v1] → Below w.heap.size w w' → wpList Tryz.prog ops Q rest (a.put o.dst (.slice (some ⟨w.heap.size, 0, none⟩) 2 2)) w') : wpList Tryz.prog ops Q (o :: rest) a w := by
  obtain ⟨i0, hi, hz0, hz1, hz2⟩ := info_parts Tryz.infoNum
  refine wpList_buildSlice hg 97 2 2 _ ho (ivs [v0, v1]).toArray i0 (.int .i64 0) Tryz.underlying97 hi hz0 (by rw [hz1]; omega) (by rw [hz1]; omega) ?_ (h _ (RowV.ai (RowV.new w (ivs [v0, v1]) 2)) ((Below.refl _ _).alloc (Nat.le_refl _) _))
  rw [hz1]
  simp only [List.map_toArray, List.map, e0, e1]
  exact Great.fill_flat (ivs [v0, v1]) _ (fun v hv => by simp [ivs] at hv; rcases hv with h | h <;> (rw [h]; rfl)) (by simp [ivs])
theorem wpList_build3 {ops : Array Oper} {rest : List Oper} {o : Oper} {a : Act} {w : World} {Q : Exit → Act → World → Prop} (hg : o.guard = none) (x0 x1 x2 : Operand)
    (ho : o.op = .buildSlice 97 3 #[(0, x0), (1, x1), (2, x2)]) (v0 v1 v2 : Int) (e0 : a.eval x0 = .int .i64 v0) (e1 : a.eval x1 = .int .i64 v1) (e2 : a.eval x2 = .int .i64 v2)
    (h : ∀ w', AI w' (some ⟨w.heap.size, 0, none⟩) [v0, v1, v2] → Below w.heap.size w w' → wpList Tryz.prog ops Q rest (a.put o.dst (.slice (some ⟨w.heap.size, 0, none⟩) 3 3)) w') : wpList Tryz.prog ops Q (o :: rest) a w := by
  obtain ⟨i0, hi, hz0, hz1, hz2⟩ := info_parts Tryz.infoNum
  refine wpList_buildSlice hg 97 2 3 _ ho (ivs [v0, v1, v2]).toArray i0 (.int .i64 0) Tryz.underlying97 hi hz0 (by rw [hz1]; omega) (by rw [hz1]; omega) ?_ (h _ (RowV.ai (RowV.new w (ivs [v0, v1, v2]) 2)) ((Below.refl _ _).alloc (Nat.le_refl _) _))
  rw [hz1]
  simp only [List.map_toArray, List.map, e0, e1, e2]
  exact Great.fill_flat (ivs [v0, v1, v2]) _ (fun v hv => by simp [ivs] at hv; rcases hv with h | h | h <;> (rw [h]; rfl)) (by simp [ivs])
theorem wpList_build3G {ops : Array Oper} {rest : List Oper} {o : Oper} {a : Act} {w : World} {Q : Exit → Act → World → Prop} (hg : o.guard = none) (x0 x1 x2 : Operand)
    (ho : o.op = .buildSlice 97 3 #[(0, x0), (1, x1), (2, x2)]) (v0 v1 v2 : Int) (e0 : a.eval x0 = .int .i64 v0) (e1 : a.eval x1 = .int .i64 v1) (e2 : a.eval x2 = .int .i64 v2) (G : Nat) (hG : w.heap.size = G)
    (h : ∀ w', AI w' (some ⟨G, 0, none⟩) [v0, v1, v2] → Below w.heap.size w w' → wpList Tryz.prog ops Q rest (a.put o.dst (.slice (some ⟨G, 0, none⟩) 3 3)) w') : wpList Tryz.prog ops Q (o :: rest) a w := by
  subst hG
  exact wpList_build3 hg x0 x1 x2 ho v0 v1 v2 e0 e1 e2 h
theorem wpList_build2G {ops : Array Oper} {rest : List Oper} {o : Oper} {a : Act} {w : World} {Q : Exit → Act → World → Prop} (hg : o.guard = none) (x0 x1 : Operand)
    (ho : o.op = .buildSlice 97 2 #[(0, x0), (1, x1)]) (v0 v1 : Int) (e0 : a.eval x0 = .int .i64 v0) (e1 : a.eval x1 = .int .i64 v1) (G : Nat) (hG : w.heap.size = G)
    (h : ∀ w', AI w' (some ⟨G, 0, none⟩) [v0, v1] → Below w.heap.size w w' → wpList Tryz.prog ops Q rest (a.put o.dst (.slice (some ⟨G, 0, none⟩) 2 2)) w') : wpList Tryz.prog ops Q (o :: rest) a w := by
  subst hG
  exact wpList_build2 hg x0 x1 ho v0 v1 e0 e1 h
theorem putKs_app (t u : ByteArray) (ks : List Int) : t ++ putKs u ks = putKs (t ++ u) ks := by
  induction ks generalizing u with
  | nil => rfl
  | cons k ks ih => show t ++ putKs (u ++ putS k) ks = putKs ((t ++ u) ++ putS k) ks; rw [ih, ByteArray.append_assoc]
theorem putKs_cons (t : ByteArray) (k : Int) (ks : List Int) : putKs t (k :: ks) = putKs (t ++ putS k) ks := rfl
theorem putKs_nil (t : ByteArray) : putKs t [] = t := rfl
theorem putKs_size (t : ByteArray) (ks : List Int) : (putKs t ks).size ≤ t.size + 10 * ks.length := by
  induction ks generalizing t with
  | nil => exact Nat.le_refl _
  | cons k ks ih =>
    rw [putKs_cons]
    have := ih (t ++ putS k)
    rw [ByteArray.size_append] at this
    have := putS_size k
    rw [List.length_cons]
    omega
theorem bytes_nil_app (t : ByteArray) : (⟨#[]⟩ : ByteArray) ++ t = t := ByteArray.empty_append
theorem app_nil (t : ByteArray) : t ++ (⟨#[]⟩ : ByteArray) = t := ByteArray.append_empty
structure KpAI (w : World) (a : Option Addr) (ks : List Int) (w' : World) : Prop where
  below : Below w.heap.size w w'
  ai : AI w' a ks
theorem KpAI.call {w w' w2 : World} {a : Option Addr} {ks : List Int} (h : Hid (KpAI w a ks w')) (hb : Below w'.heap.size w' w2) : Hid (KpAI w a ks w2) := ⟨h.out.below.trans (hb.mono h.out.below.size), h.out.ai.below hb⟩
end Go.Proofs.YtdfglpbappeoaaaGreatDoor
namespace Go.Proofs.YtdfglpbappeoaaaGreatDoor
open Go.RowKit
set_option linter.unusedVariables false
theorem szA2 (w : World) (o : Obj) : (w.alloc o).heap.size = w.heap.size + 1 := Array.size_push _
theorem Tryz.undLk : ∃ d, Tryz.prog.underlying 26 = some d ∧ d.isRow = true := ⟨_, Tryz.underlying26, rfl⟩
theorem Tryz.sizeLk : (Tryz.prog.info? 26).map (·.size) = some 3 := by kernel_rfl

set_option maxRecDepth 100000 in
set_option maxHeartbeats 1000000 in
theorem toLk_any (v e x : Int) (w : World) :
    Calls Tryz.prog 27 #[.agg #[.int .i64 v, .int .i64 e, .int .i64 x]] w fun r w' => r = .returned (.agg #[.int .i64 v, .int .i64 e, .int .i64 x]) ∧ Below w.heap.size w w' := by
  go_enter Tryz.func27, Tryz.ntmps27
  go_wp2
  refine bodyPost_ret (v := .agg (lkv v e x).toArray) (by simp [results, Tryz.results27, go_sem, lkv]) rfl ⟨rfl, ?_⟩
  exact (((Below.refl _ _).alloc (Nat.le_refl _) _).alloc (by rw [szA2]; omega) _).alloc (by rw [szA2, szA2]; omega) _

end Go.Proofs.YtdfglpbappeoaaaGreatDoor
