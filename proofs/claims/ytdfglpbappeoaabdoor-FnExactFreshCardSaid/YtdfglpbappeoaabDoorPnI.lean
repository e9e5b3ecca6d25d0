/- putNums of the program: the bytes of numbers, one behind the other; slices that are built of numbers; LinkBytes of the program. -/
import Derived.Test.YtdfglpbappeoaabDoorMetB
import Derived.Test.YtdfglpbappeoaabDoorMetI
import Derived.Great.BuildSlice
import Derived.Great.FillDense
namespace Go.Proofs.YtdfglpbappeoaabDoor
open Go.RowKit
set_option linter.unusedVariables false

def ivs (l : List Int) : List Value := l.map (Value.int .i64)
theorem RowV.ai {w : World} {g : Nat} {l : List Int} (h : RowV w g (ivs l)) : AI w (some ⟨g, 0, none⟩) l := fun k hk => ⟨g, 0, rfl, by rw [Nat.zero_add]; exact h.cell (by unfold ivs; rw [List.getElem?_map, List.getElem?_eq_getElem hk]; rfl)⟩
theorem wpList_build2 {ops : Array Oper} {rest : List Oper} {o : Oper} {a : Act} {w : World} {Q : Exit → Act → World → Prop} (hg : o.guard = none) (x0 x1 : Operand)
    (ho : o.op = .buildSlice 72 2 #[(0, x0), (1, x1)]) (v0 v1 : Int) (e0 : a.eval x0 = .int .i64 v0) (e1 : a.eval x1 = .int .i64 v1)
    (h : ∀ w', AI w' (some ⟨w.heap.size, 0, none⟩) [v0, v1] → Below w.heap.size w w' → wpList Tryd.prog ops Q rest (a.put o.dst (.slice (some ⟨w.heap.size, 0, none⟩) 2 2)) w') : wpList Tryd.prog ops Q (o :: rest) a w := by
  obtain ⟨i0, hi, hz0, hz1, hz2⟩ := info_parts Tryd.infoNum
  refine wpList_buildSlice hg 72 2 2 _ ho (ivs [v0, v1]).toArray i0 (.int .i64 0) Tryd.underlying72 hi hz0 (by rw [hz1]; omega) (by rw [hz1]; omega) ?_ (h _ (RowV.ai (RowV.new w (ivs [v0, v1]) 2)) ((Below.refl _ _).alloc (Nat.le_refl _) _))
  rw [hz1]
  simp only [List.map_toArray, List.map, e0, e1]
  exact Great.fill_flat (ivs [v0, v1]) _ (fun v hv => by simp [ivs] at hv; rcases hv with h | h <;> (rw [h]; rfl)) (by simp [ivs])
theorem wpList_build3 {ops : Array Oper} {rest : List Oper} {o : Oper} {a : Act} {w : World} {Q : Exit → Act → World → Prop} (hg : o.guard = none) (x0 x1 x2 : Operand)
    (ho : o.op = .buildSlice 72 3 #[(0, x0), (1, x1), (2, x2)]) (v0 v1 v2 : Int) (e0 : a.eval x0 = .int .i64 v0) (e1 : a.eval x1 = .int .i64 v1) (e2 : a.eval x2 = .int .i64 v2)
    (h : ∀ w', AI w' (some ⟨w.heap.size, 0, none⟩) [v0, v1, v2] → Below w.heap.size w w' → wpList Tryd.prog ops Q rest (a.put o.dst (.slice (some ⟨w.heap.size, 0, none⟩) 3 3)) w') : wpList Tryd.prog ops Q (o :: rest) a w := by
  obtain ⟨i0, hi, hz0, hz1, hz2⟩ := info_parts Tryd.infoNum
  refine wpList_buildSlice hg 72 2 3 _ ho (ivs [v0, v1, v2]).toArray i0 (.int .i64 0) Tryd.underlying72 hi hz0 (by rw [hz1]; omega) (by rw [hz1]; omega) ?_ (h _ (RowV.ai (RowV.new w (ivs [v0, v1, v2]) 2)) ((Below.refl _ _).alloc (Nat.le_refl _) _))
  rw [hz1]
  simp only [List.map_toArray, List.map, e0, e1, e2]
  exact Great.fill_flat (ivs [v0, v1, v2]) _ (fun v hv => by simp [ivs] at hv; rcases hv with h | h | h <;> (rw [h]; rfl)) (by simp [ivs])
theorem wpList_build3G {ops : Array Oper} {rest : List Oper} {o : Oper} {a : Act} {w : World} {Q : Exit → Act → World → Prop} (hg : o.guard = none) (x0 x1 x2 : Operand)
    (ho : o.op = .buildSlice 72 3 #[(0, x0), (1, x1), (2, x2)]) (v0 v1 v2 : Int) (e0 : a.eval x0 = .int .i64 v0) (e1 : a.eval x1 = .int .i64 v1) (e2 : a.eval x2 = .int .i64 v2) (G : Nat) (hG : w.heap.size = G)
    (h : ∀ w', AI w' (some ⟨G, 0, none⟩) [v0, v1, v2] → Below w.heap.size w w' → wpList Tryd.prog ops Q rest (a.put o.dst (.slice (some ⟨G, 0, none⟩) 3 3)) w') : wpList Tryd.prog ops Q (o :: rest) a w := by
  subst hG
  exact wpList_build3 hg x0 x1 x2 ho v0 v1 v2 e0 e1 e2 h
theorem wpList_build2G {ops : Array Oper} {rest : List Oper} {o : Oper} {a : Act} {w : World} {Q : Exit → Act → World → Prop} (hg : o.guard = none) (x0 x1 : Operand)
    (ho : o.op = .buildSlice 72 2 #[(0, x0), (1, x1)]) (v0 v1 : Int) (e0 : a.eval x0 = .int .i64 v0) (e1 : a.eval x1 = .int .i64 v1) (G : Nat) (hG : w.heap.size = G)
    (h : ∀ w', AI w' (some ⟨G, 0, none⟩) [v0, v1] → Below w.heap.size w w' → wpList Tryd.prog ops Q rest (a.put o.dst (.slice (some ⟨G, 0, none⟩) 2 2)) w') : wpList Tryd.prog ops Q (o :: rest) a w := by
  subst hG
  exact wpList_build2 hg x0 x1 ho v0 v1 e0 e1 h
theorem putKs_app (t u : ByteArray) (ks : List Int) : t ++ putKs u ks = putKs (t ++ u) ks := by
  induction ks generalizing u with
  | nil => rfl
  | cons k ks ih => show t ++ putKs (u ++ putS k) ks = putKs ((t ++ u) ++ putS k) ks; rw [ih, ByteArray.append_assoc]
theorem putKs_cons (t : ByteArray) (k : Int) (ks : List Int) : putKs t (k :: ks) = putKs (t ++ putS k) ks := rfl
theorem putKs_nil (t : ByteArray) : putKs t [] = t := rfl
theorem putKs_size (t : ByteArray) (ks : List Int) : (putKs t ks).size ≤ t.size + 10 * ks.length := by
  induction ks generalizing t with
  | nil => exact Nat.le_refl _
  | cons k ks ih =>
    rw [putKs_cons]
    have := ih (t ++ putS k)
    rw [ByteArray.size_append] at this
    have := putS_size k
    rw [List.length_cons]
    omega
theorem bytes_nil_app (t : ByteArray) : (⟨#[]⟩ : ByteArray) ++ t = t := ByteArray.empty_append
theorem app_nil (t : ByteArray) : t ++ (⟨#[]⟩ : ByteArray) = t := ByteArray.append_empty
structure KpAI (w : World) (a : Option Addr) (ks : List Int) (w' : World) : Prop where
  below : Below w.heap.size w w'
  ai : AI w' a ks
theorem KpAI.call {w w' w2 : World} {a : Option Addr} {ks : List Int} (h : Hid (KpAI w a ks w')) (hb : Below w'.heap.size w' w2) : Hid (KpAI w a ks w2) := ⟨h.out.below.trans (hb.mono h.out.below.size), h.out.ai.below hb⟩
end Go.Proofs.YtdfglpbappeoaabDoor
