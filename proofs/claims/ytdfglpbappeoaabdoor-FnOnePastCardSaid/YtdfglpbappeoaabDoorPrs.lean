/- Rows of pairs of texts: what a call of its own gathers in them. -/
import Derived.Test.YtdfglpbappeoaabDoorOwnS
import Derived.Laws.AppendOwnNone
namespace Go.Proofs.YtdfglpbappeoaabDoor
open Go.RowKit
set_option linter.unusedVariables false

abbrev Pair := ByteArray × ByteArray
def prC : List Pair → List Value
  | [] => []
  | x :: l => .string x.1 :: .string x.2 :: prC l
set_option maxRecDepth 100000 in
theorem prC_len : ∀ l : List Pair, (prC l).length = l.length * 2
  | [] => rfl
  | x :: l => by rw [prC, List.length_cons, List.length_cons, prC_len l, List.length_cons]; omega
set_option maxRecDepth 100000 in
theorem prC_app : ∀ a b : List Pair, prC (a ++ b) = prC a ++ prC b
  | [], b => rfl
  | x :: a, b => by rw [List.cons_append, prC, prC_app a b, prC]; rfl
set_option maxRecDepth 100000 in
theorem prC_get : ∀ (l : List Pair) (k : Nat) (h : k < l.length), (prC l)[k * 2]? = some (.string l[k].1) ∧ (prC l)[k * 2 + 1]? = some (.string l[k].2)
  | x :: l, 0, h => ⟨rfl, rfl⟩
  | x :: l, k + 1, h => by
    have := prC_get l k (by simpa using h)
    rw [show (k + 1) * 2 = k * 2 + 1 + 1 by omega]
    exact this
set_option maxRecDepth 100000 in
theorem prC_one : ∀ (l : List Pair) (u : Value), u ∈ prC l → u.oneCell' = true
  | x :: l, u, h => by
    rw [prC] at h
    rcases List.mem_cons.1 h with rfl | h
    · rfl
    rcases List.mem_cons.1 h with rfl | h
    · rfl
    exact prC_one l u h
def PA (w : World) (g p : Nat) (l : List Pair) : Prop := ∀ j u, (prC l)[j]? = some u → w.cell? ⟨g, p + j, none⟩ = some u
set_option maxRecDepth 100000 in
theorem PA.below {w w' : World} {g p : Nat} {l : List Pair} (h : PA w g p l) (hb : Below w.heap.size w w') : PA w' g p l := fun j u hj => by
  have := h j u hj
  exact (hb.cell (p := ⟨g, p + j, none⟩) (cellLt this)).trans this
set_option maxRecDepth 100000 in
theorem Tryd.infoPr : (Tryd.prog.info? 97).map (fun i => (i.zero, i.size, i.bytes)) = some (some (.agg #[.string ⟨#[]⟩, .string ⟨#[]⟩]), 2, 32) := by kernel_rfl
abbrev OwnP (w : World) (base : Nat) (v : Value) (n : Nat) (l : List Pair) : Prop := w.ownsRow base 97 2 v n (prC l)
theorem ownP_len {w : World} {base : Nat} {v : Value} {n : Nat} {l : List Pair} (h : OwnP w base v n l) : l.length = n := by have := h.1; rw [prC_len] at this; omega
set_option maxRecDepth 100000 in
theorem ownP_some {w : World} {base : Nat} {v : Value} {n : Nat} {l : List Pair} (h : OwnP w base v n l) (hv : v ≠ .slice none 0 0) : ∃ g c, v = .slice (some ⟨g, 0, none⟩) n c ∧ base ≤ g ∧ n ≤ c ∧ c ≤ maxLen ∧ PA w g 0 l ∧ g < w.heap.size := by
  have hl := ownP_len h
  rcases h.2 with ⟨rfl, _⟩ | ⟨g, cap, cur, rfl, hbg, hg, h1, h2, h3, h4⟩
  · exact absurd rfl hv
  · refine ⟨g, cap, rfl, hbg, h1, h2, fun j u hj => ?_, (Array.getElem?_eq_some_iff.1 hg).1⟩
    obtain ⟨hj1, _⟩ := List.getElem?_eq_some_iff.1 hj
    rw [prC_len, hl] at hj1
    rw [Nat.zero_add, World.ownsRow.cellAt h j hj1, hj]
set_option maxRecDepth 100000 in
theorem ownP_below {w w' : World} {base : Nat} {v : Value} {n : Nat} {l : List Pair} (h : OwnP w base v n l) (hb : Below w.heap.size w w') : OwnP w' base v n l := own_below h hb
theorem wpList_append_pairs {W : World} {ops : Array Oper} {rest : List Oper} {o : Oper} {a : Act} {Q : Exit → Act → World → Prop} (hgd : o.guard = none) (s x : Operand) (ho : o.op = .call { callee := .builtin .append, args := #[s, x], argTypes := #[37, 37] })
    (base : Nat) (v : Value) (n m : Nat) (l1 l2 : List Pair) (hs : a.eval s = v) (hown : OwnP W base v n l1) (g p c : Nat) (hx : a.eval x = .slice (some ⟨g, p, none⟩) m c) (hl2 : l2.length = m) (hA : PA W g p l2) (hn : n + m ≤ 1000000) (hbase : base ≤ W.heap.size)
    (h : ∀ v' w', OwnP w' base v' (n + m) (l1 ++ l2) → Below base W w' → (v ≠ .slice none 0 0 → v' ≠ .slice none 0 0) → wpList Tryd.prog ops Q rest (a.put o.dst v') w') : wpList Tryd.prog ops Q (o :: rest) a W := by
  obtain ⟨i0, hi, hz0, hz1, hz2⟩ := info_parts Tryd.infoPr
  refine wpList_append_own W hgd s x 37 ho base 97 i0 (.agg #[.string ⟨#[]⟩, .string ⟨#[]⟩]) 2 32 Tryd.underlying37 hi hz0 hz1 hz2 rfl (by decide) v n (prC l1) hs hown ⟨g, p, none⟩ m c (prC l2) hx (by rw [prC_len, hl2]) (fun j u hj => ?_) (fun u hu => prC_one _ u hu) (by unfold maxLen; omega) (by omega) hbase fun v' w' h2 h3 h4 => ?_
  · rw [Addr.add_lit]; exact hA j u hj
  · refine h v' w' ?_ ((Below.refl base W).grown h3 hbase (fun k hk => (hown.lt k hk).1)) (fun hv hv' => hv (h4.1 hv').1)
    show w'.ownsRow _ _ _ _ _ _
    rw [prC_app]
    exact h2
/- One operation alone, as a drawn region takes it. -/
set_option maxRecDepth 100000 in
theorem wp_append_pairs {W : World} {o : Oper} {a : Act} {K : Act → World → Prop} {Q : Exit → Act → World → Prop} (s x : Operand) (ho : o.op = .call { callee := .builtin .append, args := #[s, x], argTypes := #[37, 37] })
    (base : Nat) (v : Value) (n m : Nat) (l1 l2 : List Pair) (hs : a.eval s = v) (hown : OwnP W base v n l1) (g p c : Nat) (hx : a.eval x = .slice (some ⟨g, p, none⟩) m c) (hl2 : l2.length = m) (hA : PA W g p l2) (hn : n + m ≤ 1000000) (hbase : base ≤ W.heap.size)
    (h : ∀ v' w', OwnP w' base v' (n + m) (l1 ++ l2) → Below base W w' → (v ≠ .slice none 0 0 → v' ≠ .slice none 0 0) → K (a.put o.dst v') w') : Oper.wp Tryd.prog o a W K Q := by
  obtain ⟨i0, hi, hz0, hz1, hz2⟩ := info_parts Tryd.infoPr
  obtain ⟨v', w', hr, h2, h3, h4, h5⟩ := run_append_own_at (P := Tryd.prog) W base 37 o.type 97 i0 (.agg #[.string ⟨#[]⟩, .string ⟨#[]⟩]) 2 32 Tryd.underlying37 hi hz0 hz1 hz2 rfl (by decide) v n (prC l1) hown ⟨g, p, none⟩ m c (prC l2) (by rw [prC_len, hl2])
    (fun j u hj => by rw [Addr.add_lit]; exact hA j u hj) (fun u hu => prC_one _ u hu) (by unfold maxLen; omega) (by omega) hbase
  have hB : Below base W w' := (Below.refl base W).grown h3 hbase (fun k hk => (hown.lt k hk).1)
  unfold Oper.wp execOp
  simp only [ho, resolve, invoke, builtin, Sem.run_bind, Sem.run_pure, Result.andThen_ok, List.map_toArray, List.map_cons, List.map_nil, hs, hx, hr]
  exact h v' w' (by show w'.ownsRow _ _ _ _ _ _; rw [prC_app]; exact h2) hB (fun hv hv' => hv (h4.1 hv').1)
set_option maxRecDepth 100000 in
theorem lit_pa (w : World) (x : Pair) (t : TypeId) : PA (w.alloc (.cells #[.string x.1, .string x.2] t)) w.heap.size 0 [x] := fun j u hj => by
  match j, hj with
  | 0, hj => simp [prC] at hj; subst hj; simp
  | 1, hj => simp [prC] at hj; subst hj; simp
end Go.Proofs.YtdfglpbappeoaabDoor
