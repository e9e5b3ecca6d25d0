/- The program's cursor: text, count. What a text says of targets, and targets gathered while they are read: rows of the call's own. -/
import Derived.Test.YtdfglpbappeoaaaJn3
import Derived.Test.YtdfglpbappeoaaaJn5
import Derived.Test.YtdfglpbappeoaaaTgL
import Derived.Test.YtdfglpbappeoaaaJn7
import Derived.Maps.AppendAt
import Derived.Great.BuildSlice
import Derived.Great.FillDense
namespace Go.Proofs.Ytdfglpbappeoaaa
open Go.RowKit
set_option linter.unusedVariables false

def textO (t : ByteArray) (p : Nat) : Option (ByteArray × Nat) := if (getT t p).code = 0 then some ((getT t p).text, (getT t p).behind.toNat) else none
theorem textO_some {t x : ByteArray} {p b : Nat} (h : textO t p = some (x, b)) : getT t p = ⟨x, b, 0⟩ ∧ b ≤ t.size ∧ x.size ≤ t.size ∧ t.size ≤ 20000 := by
  unfold textO at h
  rcases getT_ways t p with ⟨c, hc, _, ht⟩ | ⟨n, b', _, _, _, _, ht⟩ | ⟨m, b', _, _, _, _, _, ht⟩ | ⟨m, b', _, _, h1, h2, h3, ht⟩
  · rw [ht, if_neg hc] at h; cases h
  · rw [ht, if_neg (by decide)] at h; cases h
  · rw [ht, if_neg (by decide)] at h; cases h
  · rw [ht, if_pos rfl] at h
    have := Option.some.inj h
    injection this with e1 e2
    simp at e1 e2
    subst e1
    have e3 : b = b' + m := by omega
    subst e3
    exact ⟨ht, by omega, by rw [ByteArray.size_extract]; omega, h2⟩
theorem textO_none {t : ByteArray} {p : Nat} (h : textO t p = none) : ∃ c, c ≠ 0 ∧ getT t p = ⟨noText, 0, c⟩ := by
  unfold textO at h
  rcases getT_ways t p with ⟨c, hc, _, ht⟩ | ⟨n, b', _, _, _, _, ht⟩ | ⟨m, b', _, _, _, _, _, ht⟩ | ⟨m, b', _, _, _, _, _, ht⟩
  · exact ⟨c, hc, ht⟩
  · exact ⟨3, by decide, ht⟩
  · exact ⟨4, by decide, ht⟩
  · rw [ht, if_pos rfl] at h; cases h
set_option maxRecDepth 100000 in
set_option maxHeartbeats 1000000 in
theorem textYes (g p b : Nat) (t x : ByteArray) (w : World) (hs : t.size ≤ maxLen) (hn : textO t p = some (x, b) ∧ p ≤ t.size) (h : RowV w g (cuv t p)) :
    Calls Try.prog 131 #[.pointer (some ⟨g, 0, none⟩)] w fun e w' => e = .returned (.string x) ∧ RowV w' g (cuv t b) ∧ Only g w w' := by
  obtain ⟨hg, -, -⟩ := textO_some hn.1
  have hN : ∀ w0, Calls Try.prog 153 #[.string t, .int .i64 (p : Int)] w0 fun e w' => e = .returned (.tuple #[.string x, .int .i64 (b : Int), .nilIface]) ∧ Below w0.heap.size w0 w' := fun w0 => by
    have := readText_any t p w0 hs (i64n (by unfold maxLen at hs; have := hn.2; omega))
    rw [hg] at this
    exact this
  have hM : ∀ w0, Calls Try.prog 110 #[.pointer (some ⟨g, 0, none⟩), .bool true] w0 fun e w' => e = .returned (.tuple #[]) ∧ w0 = w' := fun w0 => mustYes _ w0
  have HK0 := KpCu.drew (KpCu.start (Only.refl g w) h)
  obtain ⟨c0, c1⟩ := h.cu
  clear hg hn h
  go_enter Try.func131, Try.ntmps131
  go_wp2_with fail
  clear c0 c1
  go_region_held3 (fun w' => w'.cell? ⟨g, 0, none⟩ = some (.string t) ∧ w'.cell? ⟨g, 1, none⟩ = some (.int .i64 (p : Int)) ∧ Hid (KpCu g (cuv t p) w w'))
    (first | exact KpCu.two HK0 | exact KpCu.two (KpCu.call HK0 (cuv_ne _ _) h8))
    (first
      | (go_at_call 153; with_reducible refine (hN _).mono ?_; rintro r w8 ⟨rfl, h8⟩))
  all_goals
    have HK8 := KpCu.call HK0 (cuv_ne _ _) h8
    go_wp2_with (first
      | (go_at_call 110; with_reducible refine (hM _).mono ?_; rintro e w' ⟨rfl, rfl⟩)
      | (with_reducible refine wpList_cellH (w := w8) (by with_unfolding_all rfl) 2 (.tmp 26) (.tmp 24) (by with_unfolding_all rfl) g 1 (cuv t p) (cuv t b) (.int .i64 (b : Int)) (by with_unfolding_all rfl) (by with_unfolding_all rfl) rfl Try.siz1I HK8.out.row (by simp [cuv]) (by with_unfolding_all rfl) ?_; intro w2 hA2 hB2 hF2 hS2))
    go_ret
    exact ⟨rfl, hA2, HK8.out.only.trans (Only.set hB2 hF2 hS2)⟩
set_option maxRecDepth 100000 in
set_option maxHeartbeats 1000000 in
theorem textNo (g p : Nat) (t : ByteArray) (w : World) (hs : t.size ≤ maxLen) (hn : textO t p = none) (hp : p ≤ t.size) (h : RowV w g (cuv t p)) :
    Calls Try.prog 131 #[.pointer (some ⟨g, 0, none⟩)] w fun e w' => e = .panicked [{ v := faultV, recovered := false }] ∧ Only g w w' := by
  obtain ⟨c, hc, hg⟩ := textO_none hn
  have hN : ∀ w0, Calls Try.prog 153 #[.string t, .int .i64 (p : Int)] w0 fun e w' => e = .returned (.tuple #[.string noText, .int .i64 0, .iface 164 (.agg #[.int .i64 c])]) ∧ Below w0.heap.size w0 w' := fun w0 => by
    have := readText_any t p w0 hs (i64n (by unfold maxLen at hs; omega))
    rw [hg] at this
    unfold tr errV at this
    rw [if_neg hc] at this
    exact this
  have hM : ∀ w0, Calls Try.prog 110 #[.pointer (some ⟨g, 0, none⟩), .bool false] w0 fun e w' => e = .panicked [{ v := faultV, recovered := false }] ∧ w0 = w' := fun w0 => mustNo _ w0
  have HK0 := KpCu.drew (KpCu.start (Only.refl g w) h)
  obtain ⟨c0, c1⟩ := h.cu
  clear hg hn h hc
  go_enter Try.func131, Try.ntmps131
  go_wp2_with fail
  clear c0 c1
  go_region_held3 (fun w' => w'.cell? ⟨g, 0, none⟩ = some (.string t) ∧ w'.cell? ⟨g, 1, none⟩ = some (.int .i64 (p : Int)) ∧ Hid (KpCu g (cuv t p) w w'))
    (first | exact KpCu.two HK0 | exact KpCu.two (KpCu.call HK0 (cuv_ne _ _) h8))
    (first
      | (go_at_call 153; with_reducible refine (hN _).mono ?_; rintro r w8 ⟨rfl, h8⟩))
  all_goals
    have HK8 := KpCu.call HK0 (cuv_ne _ _) h8
    go_wp2_with (first
      | (go_at_call 110; with_reducible refine (hM _).mono ?_; rintro e w' ⟨rfl, rfl⟩))
    exact ⟨rfl, rfl, HK8.out.only⟩
def countO (t : ByteArray) (p : Nat) (most : Nat) : Option (Nat × Nat) := match numO t p with
  | some (n, b) => if 0 ≤ n ∧ n ≤ (most : Int) then some (n.toNat, b) else none
  | none => none
set_option maxRecDepth 100000 in
set_option maxHeartbeats 1000000 in
theorem countYes (g p b m k : Nat) (t : ByteArray) (w : World) (hs : t.size ≤ maxLen) (hn : countO t p m = some (k, b) ∧ p ≤ t.size) (h : RowV w g (cuv t p)) :
    Calls Try.prog 132 #[.pointer (some ⟨g, 0, none⟩), .int .i64 (m : Int)] w fun e w' => e = .returned (.int .i64 (k : Int)) ∧ RowV w' g (cuv t b) ∧ Only g w w' := by
  obtain ⟨n, hno, h1, h2⟩ : ∃ n : Int, numO t p = some (n, b) ∧ (0 ≤ n ∧ n ≤ (m : Int)) ∧ n = (k : Int) := by
    have := hn.1
    unfold countO at this
    cases ho : numO t p with
    | none => rw [ho] at this; cases this
    | some x =>
      obtain ⟨n, b'⟩ := x
      rw [ho] at this
      simp only at this
      split at this
      · rename_i hh
        have := Option.some.inj this
        injection this with e1 e2
        subst e2
        exact ⟨n, rfl, hh, by omega⟩
      · cases this
  subst h2
  have hN : Hid (Calls Try.prog 111 #[.pointer (some ⟨g, 0, none⟩)] w fun e w' => e = .returned (.int .i64 (k : Int)) ∧ RowV w' g (cuv t b) ∧ Only g w w') := numYes g p b t k w hs ⟨hno, hn.2⟩ h
  have hM : ∀ w0, Calls Try.prog 110 #[.pointer (some ⟨g, 0, none⟩), .bool true] w0 fun e w' => e = .returned (.tuple #[]) ∧ w0 = w' := fun w0 => mustYes _ w0
  have d1 : decide ((0 : Int) ≤ (k : Int)) = true := decide_eq_true h1.1
  have d2 : decide ((k : Int) ≤ (m : Int)) = true := decide_eq_true h1.2
  have d3 : decide (k ≤ m) = true := decide_eq_true (by omega)
  clear h hn hno h1
  go_enter Try.func132, Try.ntmps132
  go_wp2_with (first
    | (go_at_call 111; refine Calls.mono hN.out ?_; rintro e w1 ⟨rfl, hR1, hO1⟩)
    | (go_at_call 110; with_reducible refine (hM _).mono ?_; rintro e w' ⟨rfl, rfl⟩))
  go_ret
  exact ⟨rfl, hR1, hO1⟩
set_option maxRecDepth 100000 in
set_option maxHeartbeats 1000000 in
theorem countNo (g p m : Nat) (t : ByteArray) (w : World) (hs : t.size ≤ maxLen) (hn : countO t p m = none) (hp : p ≤ t.size) (h : RowV w g (cuv t p)) :
    Calls Try.prog 132 #[.pointer (some ⟨g, 0, none⟩), .int .i64 (m : Int)] w fun e w' => e = .panicked [{ v := faultV, recovered := false }] ∧ Only g w w' := by
  have hM : ∀ w0, Calls Try.prog 110 #[.pointer (some ⟨g, 0, none⟩), .bool false] w0 fun e w' => e = .panicked [{ v := faultV, recovered := false }] ∧ w0 = w' := fun w0 => mustNo _ w0
  cases ho : numO t p with
  | none =>
    have hN : Hid (Calls Try.prog 111 #[.pointer (some ⟨g, 0, none⟩)] w fun e w' => e = .panicked [{ v := faultV, recovered := false }] ∧ Only g w w') := numNo g p t w hs ho hp h
    clear h hn ho
    go_enter Try.func132, Try.ntmps132
    go_wp2_with (first
      | (go_at_call 111; refine Calls.mono hN.out ?_; rintro e w1 ⟨rfl, hO1⟩))
    exact ⟨rfl, rfl, hO1⟩
  | some x =>
    obtain ⟨n, b⟩ := x
    have hnn : ¬ (0 ≤ n ∧ n ≤ (m : Int)) := fun hh => by
      unfold countO at hn
      rw [ho] at hn
      simp only at hn
      rw [if_pos hh] at hn
      cases hn
    have hN : Hid (Calls Try.prog 111 #[.pointer (some ⟨g, 0, none⟩)] w fun e w' => e = .returned (.int .i64 n) ∧ RowV w' g (cuv t b) ∧ Only g w w') := numYes g p b t n w hs ⟨ho, hp⟩ h
    clear h hn ho
    by_cases h0 : 0 ≤ n
    · have d1 : decide ((0 : Int) ≤ n) = true := decide_eq_true h0
      have d2 : decide (n ≤ (m : Int)) = false := decide_eq_false (fun h => hnn ⟨h0, h⟩)
      clear hnn
      go_enter Try.func132, Try.ntmps132
      go_wp2_with (first
        | (go_at_call 111; refine Calls.mono hN.out ?_; rintro e w1 ⟨rfl, hR1, hO1⟩)
        | (go_at_call 110; with_reducible refine (hM _).mono ?_; rintro e w' ⟨rfl, rfl⟩))
      exact ⟨rfl, rfl, hO1⟩
    · have d1 : decide ((0 : Int) ≤ n) = false := decide_eq_false h0
      clear hnn
      go_enter Try.func132, Try.ntmps132
      go_wp2_with (first
        | (go_at_call 111; refine Calls.mono hN.out ?_; rintro e w1 ⟨rfl, hR1, hO1⟩)
        | (go_at_call 110; with_reducible refine (hM _).mono ?_; rintro e w' ⟨rfl, rfl⟩))
      exact ⟨rfl, rfl, hO1⟩
end Go.Proofs.Ytdfglpbappeoaaa
namespace Go.Proofs.Ytdfglpbappeoaaa
open Go.RowKit
set_option linter.unusedVariables false

def bytesO (t : ByteArray) (p n : Nat) : Option (ByteArray × Nat) := if p + n ≤ t.size then some (t.extract p (p + n), p + n) else none
def tgsO (t : ByteArray) : Nat → Nat → Option (List TarV × Nat)
  | 0, p => some ([], p)
  | m + 1, p => match textO t p with
    | none => none
    | some (a, b1) => match bytesO t b1 32 with
      | none => none
      | some (b, b2) => match numO t b2 with
        | none => none
        | some (c, b3) => match tgsO t m b3 with
          | none => none
          | some (l, q) => some (⟨a, b, c⟩ :: l, q)
def restT (t : ByteArray) (v e : Int) (l1 : List TarV) (m p : Nat) : Option (Int × Int × List TarV × Nat) := match tgsO t m p with
  | none => none
  | some (l2, q) => if targetsB v e (l1 ++ l2) then some (v, e, l1 ++ l2, q) else none
def targetsO (t : ByteArray) (p : Nat) : Option (Int × Int × List TarV × Nat) := match numO t p with
  | none => none
  | some (v, b1) => match numO t b1 with
    | none => none
    | some (e, b2) => match countO t b2 20 with
      | none => none
      | some (k, b3) => restT t v e [] k b3
theorem restT_end {t : ByteArray} {v e : Int} {l1 : List TarV} {p : Nat} : restT t v e l1 0 p = if targetsB v e l1 then some (v, e, l1, p) else none := by
  unfold restT tgsO
  simp
theorem restT_step {t : ByteArray} {v e : Int} {l1 : List TarV} {m p b1 b2 b3 : Nat} {a b : ByteArray} {c : Int} (h1 : textO t p = some (a, b1)) (h2 : bytesO t b1 32 = some (b, b2)) (h3 : numO t b2 = some (c, b3)) : restT t v e l1 (m + 1) p = restT t v e (l1 ++ [⟨a, b, c⟩]) m b3 := by
  unfold restT
  rw [tgsO, h1]
  simp only
  rw [h2]
  simp only
  rw [h3]
  simp only
  cases tgsO t m b3 with
  | none => rfl
  | some y => simp
theorem restT_no1 {t : ByteArray} {v e : Int} {l1 : List TarV} {m p : Nat} (h1 : textO t p = none) : restT t v e l1 (m + 1) p = none := by
  unfold restT
  rw [tgsO, h1]
theorem restT_no2 {t : ByteArray} {v e : Int} {l1 : List TarV} {m p b1 : Nat} {a : ByteArray} (h1 : textO t p = some (a, b1)) (h2 : bytesO t b1 32 = none) : restT t v e l1 (m + 1) p = none := by
  unfold restT
  rw [tgsO, h1]
  simp only
  rw [h2]
theorem restT_no3 {t : ByteArray} {v e : Int} {l1 : List TarV} {m p b1 b2 : Nat} {a b : ByteArray} (h1 : textO t p = some (a, b1)) (h2 : bytesO t b1 32 = some (b, b2)) (h3 : numO t b2 = none) : restT t v e l1 (m + 1) p = none := by
  unfold restT
  rw [tgsO, h1]
  simp only
  rw [h2]
  simp only
  rw [h3]
/- Rows of targets of the call's own. -/
def OwnTg (w : World) (base : Nat) (v : Value) (l : List TarV) : Prop := w.ownsRow base 156 3 v l.length (tgL l).flatten
theorem flatT_len (l : List TarV) : (tgL l).flatten.length = l.length * 3 := by
  induction l with
  | nil => rfl
  | cons x l ih => show (tgv x.nm x.im x.sz ++ (tgL l).flatten).length = _; rw [List.length_append, ih, List.length_cons]; show 3 + _ = _; omega
theorem flatT_app (a b : List TarV) : (tgL (a ++ b)).flatten = (tgL a).flatten ++ (tgL b).flatten := by unfold tgL; rw [List.map_append, List.flatten_append]
theorem flatT_get : ∀ (l : List TarV) (i : Nat) (h : i < l.length), (tgL l).flatten[i * 3]? = some (.string l[i].nm) ∧ (tgL l).flatten[i * 3 + 1]? = some (.string l[i].im) ∧ (tgL l).flatten[i * 3 + 2]? = some (.int .i64 l[i].sz)
  | x :: l, 0, h => ⟨rfl, rfl, rfl⟩
  | x :: l, i + 1, h => by
    have := flatT_get l i (by simpa using h)
    rw [show (i + 1) * 3 = i * 3 + 3 by omega]
    exact this
theorem OwnTg.form {w : World} {base : Nat} {v : Value} {l : List TarV} (h : OwnTg w base v l) : ∃ a c, v = .slice a l.length c ∧ TgsAt w a l := by
  rcases h.2 with ⟨h0, hn⟩ | ⟨g, cap, cur, hv, hbg, hg, h1, h2, h3, h4⟩
  · exact ⟨none, 0, by rw [h0, hn], fun i hi => by omega⟩
  · subst hv
    refine ⟨some ⟨g, 0, none⟩, cap, rfl, fun i hi => ?_⟩
    have h' : w.ownsRow base 156 3 (.slice (some ⟨g, 0, none⟩) l.length cap) l.length (tgL l).flatten := h
    obtain ⟨e0, e1, e2⟩ := flatT_get l i hi
    have hc : ∀ j u, j < l.length * 3 → (tgL l).flatten[j]? = some u → w.cell? ⟨g, 0 + j, none⟩ = some u := fun j u hj hu => by
      rw [Nat.zero_add, World.ownsRow.cellAt h' j hj, hu]
    exact ⟨g, 0, rfl, hc _ _ (by omega) e0, by have := hc _ _ (by omega) e1; rw [← Nat.add_assoc] at this; exact this, by have := hc _ _ (by omega) e2; rw [← Nat.add_assoc] at this; exact this⟩
theorem wp_buildTg {o : Oper} {a : Act} {w : World} {K : Act → World → Prop} {Q : Exit → Act → World → Prop} (x0 : Operand) (ho : o.op = .buildSlice 31 1 #[(0, x0)]) (k e : ByteArray) (s : Int) (e0 : a.eval x0 = .agg #[.string k, .string e, .int .i64 s])
    (h : ∀ w', RowV w' w.heap.size (tgv k e s) → Below w.heap.size w w' → K (a.put o.dst (.slice (some ⟨w.heap.size, 0, none⟩) 1 1)) w') : o.wp Try.prog a w K Q := by
  obtain ⟨i0, hi, hz0, hz1, hz2⟩ := info_parts Try.infoTg3
  refine wp_buildSlice 31 156 1 _ ho (tgv k e s).toArray i0 _ Try.underlying31 hi hz0 (by rw [hz1]; omega) (by rw [hz1]; omega) ?_ (h _ (RowV.new w (tgv k e s) 156) (below_alloc _ _))
  rw [hz1]
  simp only [List.map_toArray, List.map, e0]
  kernel_rfl
theorem wp_appendTg {W : World} {o : Oper} {a : Act} {K : Act → World → Prop} {Q : Exit → Act → World → Prop} (s x : Operand) (ho : o.op = .call { callee := .builtin .append, args := #[s, x], argTypes := #[31, 31] })
    (base : Nat) (v : Value) (l : List TarV) (y : TarV) (hs : a.eval s = v) (hown : OwnTg W base v l) (B : Nat) (hx : a.eval x = .slice (some ⟨B, 0, none⟩) 1 1) (hB : RowV W B (tgv y.nm y.im y.sz)) (hn : l.length ≤ 1000) (hbase : base ≤ W.heap.size)
    (h : ∀ v' w', OwnTg w' base v' (l ++ [y]) → W.grownBy w' v.ownBlock → (v'.ownBlock = v.ownBlock ∨ v'.ownBlock = some W.heap.size) → K (a.put o.dst v') w') : Oper.wp Try.prog o a W K Q := by
  obtain ⟨i0, hi, hz0, hz1, hz2⟩ := info_parts Try.infoTg3
  obtain ⟨v', w', hr, h2, h3, h4, h5⟩ := run_append_own_at (P := Try.prog) W base 31 o.type 156 i0 _ 3 40 Try.underlying31 hi hz0 hz1 hz2 rfl (by decide) v l.length (tgL l).flatten hown ⟨B, 0, none⟩ 1 1 (tgv y.nm y.im y.sz) rfl
    (fun j u hj => by rw [Addr.add_lit]; have := hB.rng j u hj; exact this) (tgv_one _ _ _) (by unfold maxLen; omega) (by omega) hbase
  unfold Oper.wp execOp
  simp only [ho, resolve, invoke, builtin, Sem.run_bind, Sem.run_pure, Result.andThen_ok, List.map_toArray, List.map_cons, List.map_nil, hs, hx, hr]
  refine h v' w' ?_ h3 h5
  unfold OwnTg
  rw [flatT_app, List.length_append]
  have e : (tgL [y]).flatten = tgv y.nm y.im y.sz := by unfold tgL; simp
  rw [e]
  exact h2
theorem wpList_buildTg {ops : Array Oper} {rest : List Oper} {o : Oper} {a : Act} {w : World} {Q : Exit → Act → World → Prop} (hg : o.guard = none) (x0 : Operand) (ho : o.op = .buildSlice 31 1 #[(0, x0)]) (k e : ByteArray) (s : Int) (e0 : a.eval x0 = .agg #[.string k, .string e, .int .i64 s])
    (h : ∀ w', RowV w' w.heap.size (tgv k e s) → Below w.heap.size w w' → wpList Try.prog ops Q rest (a.put o.dst (.slice (some ⟨w.heap.size, 0, none⟩) 1 1)) w') : wpList Try.prog ops Q (o :: rest) a w :=
  wpList_plain hg fun _ hK => wp_buildTg x0 ho k e s e0 (fun w' h1 h2 => hK _ _ (h w' h1 h2))
theorem wpList_appendTg {ops : Array Oper} {rest : List Oper} {W : World} {o : Oper} {a : Act} {Q : Exit → Act → World → Prop} (hg : o.guard = none) (s x : Operand) (ho : o.op = .call { callee := .builtin .append, args := #[s, x], argTypes := #[31, 31] })
    (base : Nat) (v : Value) (l : List TarV) (y : TarV) (hs : a.eval s = v) (hown : OwnTg W base v l) (B : Nat) (hx : a.eval x = .slice (some ⟨B, 0, none⟩) 1 1) (hB : RowV W B (tgv y.nm y.im y.sz)) (hn : l.length ≤ 1000) (hbase : base ≤ W.heap.size)
    (h : ∀ v' w', OwnTg w' base v' (l ++ [y]) → W.grownBy w' v.ownBlock → wpList Try.prog ops Q rest (a.put o.dst v') w') : wpList Try.prog ops Q (o :: rest) a W :=
  wpList_plain hg fun _ hK => wp_appendTg s x ho base v l y hs hown B hx hB hn hbase (fun v' w' h1 h2 _ => hK _ _ (h v' w' h1 h2))
/- The reader's row, rows of the call's own, and the row of targets that grows. -/
structure KpT (g : Nat) (r : List Value) (rows : List (Nat × List Value)) (v : Value) (l : List TarV) (w w' : World) : Prop where
  km : KpM g r rows w w'
  own : OwnTg w' w.heap.size v l
  off : ∀ x ∈ rows, v.ownBlock ≠ some x.1
section
variable {g : Nat} {r r' : List Value} {rows : List (Nat × List Value)} {v v' : Value} {l l' : List TarV} {w w' w2 : World}
theorem KpT.start (h : Hid (KpM g r rows w w')) : Hid (KpT g r rows (.slice none 0 0) [] w w') := ⟨h.out, ⟨rfl, .inl ⟨rfl, rfl⟩⟩, fun x _ => by simp [Value.ownBlock]⟩
theorem KpT.call (h : Hid (KpT g r rows v l w w')) (hb : Below w'.heap.size w' w2) : Hid (KpT g r rows v l w w2) := ⟨(KpM.call h.out.km hb).out, own_same h.out.own (fun k _ hl => hb.block k hl), h.out.off⟩
theorem KpT.drew (h : Hid (KpT g r rows v l w w')) : Hid (KpT g r rows v l w w'.drew) := ⟨(KpM.drew h.out.km).out, h.out.own, h.out.off⟩
theorem KpT.read (h : Hid (KpT g r rows v l w w')) (hr : RowV w2 g r') (hn : r' ≠ []) (ho : Only g w' w2) : Hid (KpT g r' rows v l w w2) :=
  ⟨(KpM.read h.out.km hr hn ho).out, own_same h.out.own (fun k hk hl => ho.blk k (by have := (own_ge h.out.own hk).1; have := h.out.km.lt; omega) hl), h.out.off⟩
theorem KpT.new {q : List Value} (h : Hid (KpT g r rows v l w w')) (hr : RowV w2 w'.heap.size q) (hn : q ≠ []) (hb : Below w'.heap.size w' w2) : Hid (KpT g r ((w'.heap.size, q) :: rows) v l w w2) :=
  ⟨(KpM.new h.out.km hr hn hb).out, own_same h.out.own (fun k _ hl => hb.block k hl), fun x hx => by
    rcases List.mem_cons.1 hx with rfl | hx
    · intro e
      have := (own_ge h.out.own e).2
      simp only at this
      omega
    · exact h.out.off x hx⟩
theorem KpT.put {b : Nat} {q q' : List Value} (h : Hid (KpT g r ((b, q) :: rows) v l w w')) (hd : ∀ x ∈ rows, x.1 ≠ b) (hr : RowV w2 b q') (hn : q' ≠ []) (ho : Only b w' w2) : Hid (KpT g r ((b, q') :: rows) v l w w2) :=
  ⟨(KpM.put h.out.km hd hr hn ho).out, own_same h.out.own (fun k hk hl => ho.blk k (fun e => h.out.off (b, q) (List.mem_cons_self ..) (by rw [hk, e])) hl), fun x hx => by
    rcases List.mem_cons.1 hx with rfl | hx
    · exact h.out.off (b, q) (List.mem_cons_self ..)
    · exact h.out.off x (List.mem_cons_of_mem _ hx)⟩
theorem KpT.get {b : Nat} {q : List Value} (h : Hid (KpT g r rows v l w w')) (hx : (b, q) ∈ rows) : RowV w' b q := (h.out.km.own _ hx).2.2
theorem KpT.rowH (h : Hid (KpT g r rows v l w w')) : RowV w' g r := h.out.km.row
theorem KpT.tail {x : Nat × List Value} (h : Hid (KpT g r (x :: rows) v l w w')) : Hid (KpT g r rows v l w w') := ⟨⟨h.out.km.only, h.out.km.row, h.out.km.ne, h.out.km.lt, fun y hy => h.out.km.own y (List.mem_cons_of_mem _ hy)⟩, h.out.own, fun y hy => h.out.off y (List.mem_cons_of_mem _ hy)⟩
theorem KpT.app (h : Hid (KpT g r rows v l w w')) (ho : OwnTg w2 w.heap.size v' l') (hg : w'.grownBy w2 v.ownBlock) (hb : v'.ownBlock = v.ownBlock ∨ v'.ownBlock = some w'.heap.size) : Hid (KpT g r rows v' l' w w2) := by
  have e := h.out.km.lt
  have el := h.out.km.only.size
  have old : ∀ k, k < w.heap.size → w2.heap[k]? = w'.heap[k]? := fun k hk => hg.block k (by omega) (fun e => by have := (own_ge h.out.own e.symm).1; omega)
  refine ⟨⟨⟨h.out.km.only.below.trans ⟨hg.os, hg.tape, hg.output, hg.size, fun k hk => old k (by omega)⟩, fun k hk hl => (old k hl).trans (h.out.km.only.blk k hk hl), Nat.le_trans el hg.size⟩, row_blk h.out.km.row (old g e), h.out.km.ne, e, fun x hx => ?_⟩, ho, fun x hx => ?_⟩
  · obtain ⟨x1, x2, x3⟩ := h.out.km.own x hx
    exact ⟨x1, x2, row_blk x3 (hg.block x.1 (x3.lt x2) (fun e => h.out.off x hx e.symm))⟩
  · obtain ⟨x1, x2, x3⟩ := h.out.km.own x hx
    have := x3.lt x2
    rcases hb with hb | hb
    · rw [hb]; exact h.out.off x hx
    · rw [hb]; intro e; injection e with e; omega
theorem KpT.szH (h : Hid (KpT g r rows v l w w')) : w.heap.size ≤ w'.heap.size := h.out.km.only.size
end
def rtw (v e : Int) (x : Value) : List Value := [.int .i64 v, .int .i64 e, x]
theorem rtw_ne (v e : Int) (x : Value) : rtw v e x ≠ [] := by simp [rtw]
end Go.Proofs.Ytdfglpbappeoaaa
