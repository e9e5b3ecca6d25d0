/- Rows of roles of the call's own, each with a row of keys of the call's own. -/
import Derived.Test.YtdfglpbappeoaaaJn6
import Derived.Test.YtdfglpbappeoaaaTrO
namespace Go.Proofs.Ytdfglpbappeoaaa
open Go.RowKit
set_option linter.unusedVariables false

def OwnRw (w : World) (base : Nat) (v : Value) (l : List RoleV) : Prop := w.ownsRow base 95 2 v l.length (rlL l).flatten
theorem flR_app (a b : List RoleV) : (rlL (a ++ b)).flatten = (rlL a).flatten ++ (rlL b).flatten := by unfold rlL; rw [List.map_append, List.flatten_append]
theorem ownRw_nil {w : World} {base : Nat} : OwnRw w base (.slice none 0 0) [] := ⟨rfl, .inl ⟨rfl, rfl⟩⟩
theorem OwnRw.form {w : World} {base : Nat} {v : Value} {l : List RoleV} (h : OwnRw w base v l) : ∃ a c, v = .slice a l.length c ∧ (l ≠ [] → ∃ g, a = some ⟨g, 0, none⟩ ∧ RowV w g (rlL l).flatten ∧ base ≤ g ∧ v.ownBlock = some g) := by
  rcases h.2 with ⟨h0, hn⟩ | ⟨g, cap, cur, hv, hbg, hg, h1, h2, h3, h4⟩
  · refine ⟨none, 0, by rw [h0, hn], fun hl => ?_⟩
    cases l with
    | nil => exact absurd rfl hl
    | cons x xs => simp at hn
  · subst hv
    refine ⟨some ⟨g, 0, none⟩, cap, rfl, fun hl => ⟨g, rfl, ⟨fun j v hv => ?_, fun j hj => ?_⟩, hbg, rfl⟩⟩
    · have h' : w.ownsRow base 95 2 (.slice (some ⟨g, 0, none⟩) l.length cap) l.length (rlL l).flatten := h
      have hj : j < (rlL l).flatten.length := by
        rcases Nat.lt_or_ge j (rlL l).flatten.length with h1 | h1
        · exact h1
        · rw [List.getElem?_eq_none h1] at hv; cases hv
      rw [flR_len] at hj
      rw [Nat.zero_add, World.ownsRow.cellAt h' j hj, hv]
    · rw [flR_len] at hj
      have hcs : j < cur.size := by
        have : l.length * 2 ≤ cap * 2 := Nat.mul_le_mul_right 2 h1
        omega
      rw [Nat.zero_add]
      exact ⟨by simp [World.cell?, hg, hcs], by simp [World.frozen?, hg]⟩
theorem wp_buildRl {o : Oper} {a : Act} {w : World} {K : Act → World → Prop} {Q : Exit → Act → World → Prop} (x0 : Operand) (ho : o.op = .buildSlice 26 1 #[(0, x0)]) (nd : Int) (ka : Option Addr) (n c : Nat) (e0 : a.eval x0 = .agg #[.int .i64 nd, .slice ka n c])
    (h : ∀ w', RowV w' w.heap.size (rlv nd ka n c) → Below w.heap.size w w' → K (a.put o.dst (.slice (some ⟨w.heap.size, 0, none⟩) 1 1)) w') : o.wp Try.prog a w K Q := by
  obtain ⟨i0, hi, hz0, hz1, hz2⟩ := info_parts Try.infoRl
  refine wp_buildSlice 26 95 1 _ ho (rlv nd ka n c).toArray i0 _ Try.underlying26 hi hz0 (by rw [hz1]; omega) (by rw [hz1]; omega) ?_ (h _ (RowV.new w (rlv nd ka n c) 95) (below_alloc _ _))
  rw [hz1]
  simp only [List.map_toArray, List.map, e0]
  kernel_rfl
theorem wp_appendRl {W : World} {o : Oper} {a : Act} {K : Act → World → Prop} {Q : Exit → Act → World → Prop} (s x : Operand) (ho : o.op = .call { callee := .builtin .append, args := #[s, x], argTypes := #[26, 26] })
    (base : Nat) (v : Value) (l : List RoleV) (y : RoleV) (hs : a.eval s = v) (hown : OwnRw W base v l) (B : Nat) (hx : a.eval x = .slice (some ⟨B, 0, none⟩) 1 1) (hB : RowV W B (rlv y.need y.ka y.ks.length y.kc)) (hn : l.length ≤ 1000) (hbase : base ≤ W.heap.size)
    (h : ∀ v' w', OwnRw w' base v' (l ++ [y]) → W.grownBy w' v.ownBlock → (v'.ownBlock = v.ownBlock ∨ v'.ownBlock = some W.heap.size) → K (a.put o.dst v') w') : Oper.wp Try.prog o a W K Q := by
  obtain ⟨i0, hi, hz0, hz1, hz2⟩ := info_parts Try.infoRl
  obtain ⟨v', w', hr, h2, h3, h4, h5⟩ := run_append_own_at (P := Try.prog) W base 26 o.type 95 i0 _ 2 32 Try.underlying26 hi hz0 hz1 hz2 rfl (by decide) v l.length (rlL l).flatten hown ⟨B, 0, none⟩ 1 1 (rlv y.need y.ka y.ks.length y.kc) rfl
    (fun j u hj => by rw [Addr.add_lit]; have := hB.rng j u hj; exact this) (rlv_one _ _ _ _) (by unfold maxLen; omega) (by omega) hbase
  unfold Oper.wp execOp
  simp only [ho, resolve, invoke, builtin, Sem.run_bind, Sem.run_pure, Result.andThen_ok, List.map_toArray, List.map_cons, List.map_nil, hs, hx, hr]
  refine h v' w' ?_ h3 h5
  unfold OwnRw
  rw [flR_app, List.length_append]
  have e : (rlL [y]).flatten = rlv y.need y.ka y.ks.length y.kc := by unfold rlL; simp
  rw [e]
  exact h2
theorem wpList_buildRl {ops : Array Oper} {rest : List Oper} {o : Oper} {a : Act} {w : World} {Q : Exit → Act → World → Prop} (hg : o.guard = none) (x0 : Operand) (ho : o.op = .buildSlice 26 1 #[(0, x0)]) (nd : Int) (ka : Option Addr) (n c : Nat) (e0 : a.eval x0 = .agg #[.int .i64 nd, .slice ka n c])
    (h : ∀ w', RowV w' w.heap.size (rlv nd ka n c) → Below w.heap.size w w' → wpList Try.prog ops Q rest (a.put o.dst (.slice (some ⟨w.heap.size, 0, none⟩) 1 1)) w') : wpList Try.prog ops Q (o :: rest) a w :=
  wpList_plain hg fun _ hK => wp_buildRl x0 ho nd ka n c e0 (fun w' h1 h2 => hK _ _ (h w' h1 h2))
theorem wpList_appendRl {ops : Array Oper} {rest : List Oper} {W : World} {o : Oper} {a : Act} {Q : Exit → Act → World → Prop} (hg : o.guard = none) (s x : Operand) (ho : o.op = .call { callee := .builtin .append, args := #[s, x], argTypes := #[26, 26] })
    (base : Nat) (v : Value) (l : List RoleV) (y : RoleV) (hs : a.eval s = v) (hown : OwnRw W base v l) (B : Nat) (hx : a.eval x = .slice (some ⟨B, 0, none⟩) 1 1) (hB : RowV W B (rlv y.need y.ka y.ks.length y.kc)) (hn : l.length ≤ 1000) (hbase : base ≤ W.heap.size)
    (h : ∀ v' w', OwnRw w' base v' (l ++ [y]) → W.grownBy w' v.ownBlock → (v'.ownBlock = v.ownBlock ∨ v'.ownBlock = some W.heap.size) → wpList Try.prog ops Q rest (a.put o.dst v') w') : wpList Try.prog ops Q (o :: rest) a W :=
  wpList_plain hg fun _ hK => wp_appendRl s x ho base v l y hs hown B hx hB hn hbase (fun v' w' h1 h2 h3 => hK _ _ (h v' w' h1 h2 h3))
/- The roles, their keys' rows, each in a block of its own; none below the base. -/
structure OwR (w : World) (base : Nat) (v : Value) (l : List RoleV) : Prop where
  own : OwnRw w base v l
  ks : ∀ i (h : i < l.length), OwnI w base (.slice l[i].ka l[i].ks.length l[i].kc) l[i].ks
  off : ∀ i (h : i < l.length) g, v.ownBlock = some g → (Value.slice l[i].ka l[i].ks.length l[i].kc).ownBlock ≠ some g
  dis : ∀ i j (hi : i < l.length) (hj : j < l.length) b, i ≠ j → (Value.slice l[i].ka l[i].ks.length l[i].kc).ownBlock = some b → (Value.slice l[j].ka l[j].ks.length l[j].kc).ownBlock ≠ some b
theorem OwR.nil {w : World} {base : Nat} : OwR w base (.slice none 0 0) [] := ⟨ownRw_nil, fun i hi => absurd hi (Nat.not_lt_zero _), fun i hi => absurd hi (Nat.not_lt_zero _), fun i j hi => absurd hi (Nat.not_lt_zero _)⟩
theorem OwR.below {w w' : World} {base : Nat} {v : Value} {l : List RoleV} (h : OwR w base v l) (hb : Below w.heap.size w w') : OwR w' base v l :=
  ⟨own_same h.own (fun k _ hl => hb.block k hl), fun i hi => (h.ks i hi).below hb, h.off, h.dis⟩
/- One role more, whose keys' row is newer than all. -/
theorem OwR.snoc {w w1 w2 : World} {base : Nat} {v v' : Value} {l : List RoleV} {y : RoleV} (h : OwR w base v l) (hb : Below w.heap.size w w1) (hk : OwnI w1 w.heap.size (.slice y.ka y.ks.length y.kc) y.ks) (hbase : base ≤ w.heap.size)
    (ho : OwnRw w2 base v' (l ++ [y])) (hg : w1.grownBy w2 v.ownBlock) (hv : v'.ownBlock = v.ownBlock ∨ v'.ownBlock = some w1.heap.size) : OwR w2 base v' (l ++ [y]) := by
  have hold : ∀ g, v.ownBlock = some g → base ≤ g ∧ g < w.heap.size := fun g hg0 => own_ge h.own hg0
  have hkb : ∀ i (hi : i < l.length) b, (Value.slice l[i].ka l[i].ks.length l[i].kc).ownBlock = some b → base ≤ b ∧ b < w.heap.size := fun i hi b hb0 => ownI_ge (h.ks i hi) hb0
  have hyb : ∀ b, (Value.slice y.ka y.ks.length y.kc).ownBlock = some b → w.heap.size ≤ b ∧ b < w1.heap.size := fun b hb0 => ownI_ge hk hb0
  have keep : ∀ {B : Nat} {u : Value} {m : List Int}, OwnI w1 B u m → (∀ b, u.ownBlock = some b → v.ownBlock ≠ some b) → OwnI w2 B u m := fun hu hne => ownI_same hu fun k hk1 hl => hg.block k hl (fun e => hne k hk1 e.symm)
  refine ⟨ho, fun i hi => ?_, fun i hi g hg1 hg2 => ?_, fun i j hi hj b hij h1 h2 => ?_⟩
  · rw [List.length_append, List.length_singleton] at hi
    by_cases hi2 : i < l.length
    · rw [List.getElem_append_left hi2]
      exact keep ((h.ks i hi2).below hb) (fun b hb0 e => h.off i hi2 b e hb0)
    · rw [List.getElem_append_right (by omega)]
      simp only [List.getElem_singleton]
      refine ownI_mono (keep hk (fun b hb0 e => ?_)) hbase
      have := hold b e
      have := hyb b hb0
      omega
  · rw [List.length_append, List.length_singleton] at hi
    by_cases hi2 : i < l.length
    · rw [List.getElem_append_left hi2] at hg2
      rcases hv with hv | hv
      · exact h.off i hi2 g (hv ▸ hg1) hg2
      · have := hkb i hi2 g hg2
        rw [hg1] at hv
        injection hv with hv
        have := hb.size
        omega
    · rw [List.getElem_append_right (by omega)] at hg2
      simp only [List.getElem_singleton] at hg2
      have h3 := hyb g hg2
      rcases hv with hv | hv
      · have := hold g (hv ▸ hg1)
        omega
      · rw [hg1] at hv
        injection hv with hv
        omega
  · rw [List.length_append, List.length_singleton] at hi hj
    by_cases hi2 : i < l.length
    · rw [List.getElem_append_left hi2] at h1
      by_cases hj2 : j < l.length
      · rw [List.getElem_append_left hj2] at h2
        exact h.dis i j hi2 hj2 b hij h1 h2
      · rw [List.getElem_append_right (by omega)] at h2
        simp only [List.getElem_singleton] at h2
        have := hkb i hi2 b h1
        have := hyb b h2
        omega
    · have hj2 : j < l.length := by omega
      rw [List.getElem_append_right (by omega)] at h1
      simp only [List.getElem_singleton] at h1
      rw [List.getElem_append_left hj2] at h2
      have := hkb j hj2 b h2
      have := hyb b h1
      omega
end Go.Proofs.Ytdfglpbappeoaaa
