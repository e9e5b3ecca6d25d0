/- Policies put together: appends of whole lists, what they come to, what is told of them. -/
import Derived.Test.YtaalegjhhpfhbaaDpD
import Derived.Test.YtaalegjhhpfhbaaNdK
namespace Go.Proofs.Ytaalegjhhpfhbaa
open Go.RowKit
set_option linter.unusedVariables false

theorem InsO.formS {w : World} {base : Nat} {v : Value} {l : List InsV} (h : InsO w base v l) (hn : l ≠ []) : ∃ g n c, l.length = n ∧ v = .slice (some ⟨g, 0, none⟩) n c := by
  rcases InsO.forms h with ⟨_, h0⟩ | ⟨g, c, n, h1, h2, _⟩
  · exact absurd h0 hn
  · exact ⟨g, n, c, h1, h2⟩
set_option maxRecDepth 100000 in
theorem wp_appendInsM {W : World} {o : Oper} {a : Act} {K : Act → World → Prop} {Q : Exit → Act → World → Prop} (s x : Operand) (ho : o.op = .call { callee := .builtin .append, args := #[s, x], argTypes := #[25, 25] })
    (base : Nat) (v : Value) (l : List InsV) (b of n c : Nat) (m : List InsV) (hs : a.eval s = v) (hown : InsO W base v l) (hx : a.eval x = .slice (some ⟨b, of, none⟩) n c) (hm : m.length = n) (hA : InsAt W (some ⟨b, of, none⟩) m) (hn : l.length + n ≤ 1000) (hbase : base ≤ W.heap.size)
    (h : ∀ v' w', InsO w' base v' (l ++ m) → W.grownBy w' v.ownBlock → (v'.ownBlock = v.ownBlock ∨ v'.ownBlock = some W.heap.size) → K (a.put o.dst v') w') : Oper.wp Try.prog o a W K Q := by
  obtain ⟨i0, hi, hz0, hz1, hz2⟩ := info_parts Try.infIns
  subst hm
  obtain ⟨v', w', hr, h2, h3, h4, h5⟩ := run_append_own_at (P := Try.prog) W base 25 o.type 41 i0 _ 3 40 Try.underlying25 hi hz0 hz1 hz2 rfl (by decide) v l.length (insL l).flatten hown ⟨b, of, none⟩ m.length c (insL m).flatten (by rw [flatS_len (insL m) (insL_all m), insL_len])
    (fun j u hj => by
      obtain ⟨hj1, hj2⟩ := List.getElem?_eq_some_iff.1 hj
      have hlen : (insL m).flatten.length = m.length * 3 := by rw [flatS_len (insL m) (insL_all m), insL_len]
      rw [hlen] at hj1
      obtain ⟨q, r, rfl, hr⟩ : ∃ q r, j = q * 3 + r ∧ r < 3 := ⟨j / 3, j % 3, by omega, by omega⟩
      have hq : q < m.length := by omega
      obtain ⟨b', o', e, c0, c1, c2⟩ := hA q hq
      injection e with e
      injection e with e1 e2
      subst e1 e2
      have hg := flatS_get (insL m) (insL_all m) q r (by rw [insL_len]; exact hq) hr
      rw [insL_get hq] at hg
      rw [hg] at hj
      have he : (⟨b, of, none⟩ : Addr).add (q * 3 + r) = ⟨b, of + (q * 3 + r), none⟩ := by unfold Addr.add; split <;> simp_all
      rw [he]
      match r, hr, hj with
      | 0, _, hj => injection hj with hj; subst hj; exact c0
      | 1, _, hj => injection hj with hj; subst hj; exact c1
      | 2, _, hj => injection hj with hj; subst hj; exact c2)
    (fun u hu => by
      obtain ⟨L, hL, hu⟩ := List.mem_flatten.1 hu
      unfold insL at hL
      obtain ⟨y, _, rfl⟩ := List.mem_map.1 hL
      exact insv_one _ _ _ u hu) (by unfold maxLen; omega) (by omega) hbase
  unfold Oper.wp execOp
  simp only [ho, resolve, invoke, builtin, Sem.run_bind, Sem.run_pure, Result.andThen_ok, List.map_toArray, List.map_cons, List.map_nil, hs, hx, hr]
  refine h v' w' ?_ h3 h5
  unfold InsO
  have ea : (insL (l ++ m)).flatten = (insL l).flatten ++ (insL m).flatten := by unfold insL; rw [List.map_append, List.flatten_append]
  rw [ea, List.length_append]
  exact h2
theorem wpList_appendInsM {ops : Array Oper} {rest : List Oper} {W : World} {o : Oper} {a : Act} {Q : Exit → Act → World → Prop} (hg : o.guard = none) (s x : Operand) (ho : o.op = .call { callee := .builtin .append, args := #[s, x], argTypes := #[25, 25] })
    (base : Nat) (v : Value) (l : List InsV) (b of n c : Nat) (m : List InsV) (hs : a.eval s = v) (hown : InsO W base v l) (hx : a.eval x = .slice (some ⟨b, of, none⟩) n c) (hm : m.length = n) (hA : InsAt W (some ⟨b, of, none⟩) m) (hn : l.length + n ≤ 1000) (hbase : base ≤ W.heap.size)
    (h : ∀ v' w', InsO w' base v' (l ++ m) → W.grownBy w' v.ownBlock → (v'.ownBlock = v.ownBlock ∨ v'.ownBlock = some W.heap.size) → wpList Try.prog ops Q rest (a.put o.dst v') w') : wpList Try.prog ops Q (o :: rest) a W :=
  wpList_plain hg fun _ hK => wp_appendInsM s x ho base v l b of n c m hs hown hx hm hA hn hbase (fun v' w' h1 h2 h3 => hK _ _ (h v' w' h1 h2 h3))
theorem wp_buildIns0 {o : Oper} {a : Act} {w : World} {K : Act → World → Prop} {Q : Exit → Act → World → Prop} (ho : o.op = .buildSlice 25 0 #[]) (base : Nat) (hb : base ≤ w.heap.size)
    (h : ∀ w', InsO w' base (.slice (some ⟨w.heap.size, 0, none⟩) 0 0) [] → w.grownBy w' (Value.slice none 0 0).ownBlock → K (a.put o.dst (.slice (some ⟨w.heap.size, 0, none⟩) 0 0)) w') : o.wp Try.prog a w K Q := by
  obtain ⟨i0, hi, hz0, hz1, hz2⟩ := info_parts Try.infIns
  have hh := h _ (World.ownsRow_made w #[] 0 hb (by decide) (by simp)) (World.grownBy_alloc w _ _)
  simp only [Oper.wp, execOp, ho]
  simp [go_sem, Instr.buildSlice, run_underlying Try.underlying25, sizeOf, typeInfo, hi, Instr.fill]
  exact hh
theorem wp_buildIns2 {o : Oper} {a : Act} {w : World} {K : Act → World → Prop} {Q : Exit → Act → World → Prop} (x y : Operand) (ho : o.op = .buildSlice 25 2 #[(0, x), (1, y)]) (x0 : Int) (x1 x2 : ByteArray) (y0 : Int) (y1 y2 : ByteArray) (e0 : a.eval x = .agg #[.int .i64 x0, .string x1, .string x2]) (e1 : a.eval y = .agg #[.int .i64 y0, .string y1, .string y2])
    (h : ∀ w', RowV w' w.heap.size [.int .i64 x0, .string x1, .string x2, .int .i64 y0, .string y1, .string y2] → Below w.heap.size w w' → K (a.put o.dst (.slice (some ⟨w.heap.size, 0, none⟩) 2 2)) w') : o.wp Try.prog a w K Q := by
  obtain ⟨i0, hi, hz0, hz1, hz2⟩ := info_parts Try.infIns
  refine wp_buildSlice 25 41 2 _ ho [.int .i64 x0, .string x1, .string x2, .int .i64 y0, .string y1, .string y2].toArray i0 _ Try.underlying25 hi hz0 (by rw [hz1]; omega) (by rw [hz1]; omega) ?_ (h _ (RowV.new w [.int .i64 x0, .string x1, .string x2, .int .i64 y0, .string y1, .string y2] 41) (below_alloc _ _))
  rw [hz1]
  simp only [List.map_toArray, List.map, e0, e1]
  kernel_rfl
/- What policies put together come to. -/
theorem step_on {s s1 : List Nd} {op : Int} {k v : ByteArray} (st : List Nd) (h : stepN s op k v = some s1) : stepN (s ++ st) op k v = some (s1 ++ st) := by
  unfold stepN at *
  by_cases ok : InsOk op k v
  · rw [if_pos ok] at *
    by_cases h1 : op = 1
    · rw [if_pos h1] at *
      injection h with h
      subst h
      rfl
    · rw [if_neg h1] at *
      by_cases h2 : op = 2
      · rw [if_pos h2] at *
        injection h with h
        subst h
        rfl
      · rw [if_neg h2] at *
        by_cases h3 : op = 3
        · rw [if_pos h3] at *
          rcases s with _ | ⟨n, r⟩
          · cases h
          · injection h with h
            subst h
            rfl
        · rw [if_neg h3] at *
          rcases s with _ | ⟨b, _ | ⟨a, r⟩⟩
          · cases h
          · cases h
          · injection h with h
            subst h
            rfl
  · rw [if_neg ok] at h
    cases h
theorem run_on : ∀ (l : List InsV) (s s1 st : List Nd), l.foldl (fun o x => o.bind fun st => stepN st x.op x.key x.val) (some s) = some s1 → l.foldl (fun o x => o.bind fun st => stepN st x.op x.key x.val) (some (s ++ st)) = some (s1 ++ st)
  | [], s, s1, st, h => by injection h with h; subst h; rfl
  | x :: l, s, s1, st, h => by
    rcases hx : stepN s x.op x.key x.val with _ | s2
    · have h' : l.foldl (fun o x => o.bind fun st => stepN st x.op x.key x.val) (stepN s x.op x.key x.val) = some s1 := h
      rw [hx, fold_none] at h'
      cases h'
    · have h' : l.foldl (fun o x => o.bind fun st => stepN st x.op x.key x.val) (stepN s x.op x.key x.val) = some s1 := h
      rw [hx] at h'
      show l.foldl _ (stepN (s ++ st) x.op x.key x.val) = _
      rw [step_on st hx]
      exact run_on l s2 s1 st h'
theorem run_app {l m : List InsV} {s s1 : List Nd} (h : runN l = some s) (hm : runN m = some s1) : runN (l ++ m) = some (s1 ++ s) := by
  unfold runN
  rw [List.foldl_append]
  change m.foldl _ (runN l) = _
  rw [h]
  exact run_on m [] s1 s hm
theorem run_one {l : List InsV} {s : List Nd} (x : InsV) (h : runN l = some s) : runN (l ++ [x]) = stepN s x.op x.key x.val := by
  unfold runN
  rw [List.foldl_append]
  change [x].foldl _ (runN l) = _
  rw [h]
  rfl
theorem step_not (n : Nd) (r : List Nd) : stepN (n :: r) 3 ⟨#[]⟩ ⟨#[]⟩ = some (.neg n :: r) := by
  unfold stepN
  rw [if_pos (show InsOk 3 ⟨#[]⟩ ⟨#[]⟩ from Or.inr (Or.inr ⟨Or.inl rfl, rfl, rfl⟩))]
  rfl
theorem step_and (a b : Nd) (r : List Nd) : stepN (b :: a :: r) 4 ⟨#[]⟩ ⟨#[]⟩ = some (.par 4 a b :: r) := by
  unfold stepN
  rw [if_pos (show InsOk 4 ⟨#[]⟩ ⟨#[]⟩ from Or.inr (Or.inr ⟨Or.inr (Or.inl rfl), rfl, rfl⟩))]
  rfl
theorem step_or (a b : Nd) (r : List Nd) : stepN (b :: a :: r) 5 ⟨#[]⟩ ⟨#[]⟩ = some (.par 5 a b :: r) := by
  unfold stepN
  rw [if_pos (show InsOk 5 ⟨#[]⟩ ⟨#[]⟩ from Or.inr (Or.inr ⟨Or.inr (Or.inr rfl), rfl, rfl⟩))]
  rfl
theorem app_two (l : List InsV) (x y : InsV) : l ++ [x, y] = (l ++ [x]) ++ [y] := by rw [List.append_assoc]; rfl
structure Morg (l1 l2 : List InsV) (ls : List LabV) (y1 y2 : Nd) (A B : Bool) : Prop where
  r1 : nodeN l1 = some y1
  r2 : nodeN l2 = some y2
  len : l1.length + l2.length + 3 ≤ 60
  lab : ls.length ≤ 400
  h1 : holdN ls y1 = A
  h2 : holdN ls y2 = B
theorem ev_of {l : List InsV} {ls : List LabV} {y : Nd} {X : Bool} (hl : ls.length ≤ 400) (hr : runN l = some [y]) (h6 : l.length ≤ 60) (hX : holdN ls y = X) : evalN l ls = X := by
  rw [eval_ok (ls := ls) (node_one (l := l) rfl (by omega) (by rw [List.take_length]; exact hr)) hl]
  exact hX
section
variable {l1 l2 : List InsV} {ls : List LabV} {y1 y2 : Nd} {A B : Bool}
theorem Morg.run1 (h : Morg l1 l2 ls y1 y2 A B) : runN l1 = some [y1] := (node_some h.r1).2.2
theorem Morg.run2 (h : Morg l1 l2 ls y1 y2 A B) : runN l2 = some [y2] := (node_some h.r2).2.2
theorem Morg.both (h : Morg l1 l2 ls y1 y2 A B) : runN (l1 ++ l2) = some [y2, y1] := run_app h.run1 h.run2
theorem Morg.nots (h : Morg l1 l2 ls y1 y2 A B) : runN (((l1 ++ [⟨3, ⟨#[]⟩, ⟨#[]⟩⟩]) ++ l2) ++ [⟨3, ⟨#[]⟩, ⟨#[]⟩⟩]) = some [.neg y2, .neg y1] := by
  have e1 : runN (l1 ++ [⟨3, ⟨#[]⟩, ⟨#[]⟩⟩]) = some [.neg y1] := (run_one _ h.run1).trans (step_not _ _)
  exact (run_one _ (run_app e1 h.run2)).trans (step_not _ _)
theorem Morg.one (h : Morg l1 l2 ls y1 y2 A B) : evalN l1 ls = A := by rw [eval_ok h.r1 h.lab]; exact h.h1
theorem Morg.two (h : Morg l1 l2 ls y1 y2 A B) : evalN l2 ls = B := by rw [eval_ok h.r2 h.lab]; exact h.h2
theorem Morg.x (h : Morg l1 l2 ls y1 y2 A B) : evalN ((l1 ++ l2) ++ [⟨4, ⟨#[]⟩, ⟨#[]⟩⟩, ⟨3, ⟨#[]⟩, ⟨#[]⟩⟩]) ls = !(A && B) := by
  refine ev_of h.lab (y := .neg (.par 4 y1 y2)) ?_ (by have := h.len; simp; omega) ?_
  · rw [app_two]
    exact (run_one _ ((run_one _ h.both).trans (step_and _ _ _))).trans (step_not _ _)
  · show (!(if (4 : Int) = 4 then holdN ls y1 && holdN ls y2 else _)) = _
    rw [if_pos rfl, h.h1, h.h2]
theorem Morg.y (h : Morg l1 l2 ls y1 y2 A B) : evalN ((l1 ++ l2) ++ [⟨5, ⟨#[]⟩, ⟨#[]⟩⟩, ⟨3, ⟨#[]⟩, ⟨#[]⟩⟩]) ls = !(A || B) := by
  refine ev_of h.lab (y := .neg (.par 5 y1 y2)) ?_ (by have := h.len; simp; omega) ?_
  · rw [app_two]
    exact (run_one _ ((run_one _ h.both).trans (step_or _ _ _))).trans (step_not _ _)
  · show (!(if (5 : Int) = 4 then _ else holdN ls y1 || holdN ls y2)) = _
    rw [if_neg (by decide), h.h1, h.h2]
theorem Morg.u (h : Morg l1 l2 ls y1 y2 A B) : evalN ((((l1 ++ [⟨3, ⟨#[]⟩, ⟨#[]⟩⟩]) ++ l2) ++ [⟨3, ⟨#[]⟩, ⟨#[]⟩⟩]) ++ [⟨5, ⟨#[]⟩, ⟨#[]⟩⟩]) ls = (!A || !B) := by
  refine ev_of h.lab (y := .par 5 (.neg y1) (.neg y2)) ((run_one _ h.nots).trans (step_or _ _ _)) (by have := h.len; simp; omega) ?_
  show (if (5 : Int) = 4 then _ else (!holdN ls y1) || !holdN ls y2) = _
  rw [if_neg (by decide), h.h1, h.h2]
theorem Morg.v (h : Morg l1 l2 ls y1 y2 A B) : evalN ((((l1 ++ [⟨3, ⟨#[]⟩, ⟨#[]⟩⟩]) ++ l2) ++ [⟨3, ⟨#[]⟩, ⟨#[]⟩⟩]) ++ [⟨4, ⟨#[]⟩, ⟨#[]⟩⟩]) ls = (!A && !B) := by
  refine ev_of h.lab (y := .par 4 (.neg y1) (.neg y2)) ((run_one _ h.nots).trans (step_and _ _ _)) (by have := h.len; simp; omega) ?_
  show (if (4 : Int) = 4 then (!holdN ls y1) && !holdN ls y2 else _) = _
  rw [if_pos rfl, h.h1, h.h2]
theorem Morg.w (h : Morg l1 l2 ls y1 y2 A B) : evalN (l1 ++ [⟨3, ⟨#[]⟩, ⟨#[]⟩⟩, ⟨3, ⟨#[]⟩, ⟨#[]⟩⟩]) ls = !!A := by
  refine ev_of h.lab (y := .neg (.neg y1)) ?_ (by have := h.len; simp; omega) ?_
  · rw [app_two]
    exact (run_one _ ((run_one _ h.run1).trans (step_not _ _))).trans (step_not _ _)
  · show (!(!holdN ls y1)) = _
    rw [h.h1]
end
theorem morg_cases (l1 l2 : List InsV) (ls : List LabV) (hl : ls.length ≤ 400) : (nodeN l1 = none) ∨ (∃ y1, nodeN l1 = some y1 ∧ nodeN l2 = none) ∨ (∃ y1 y2, nodeN l1 = some y1 ∧ nodeN l2 = some y2 ∧ 57 < l1.length + l2.length) ∨
    (∃ y1 y2, Morg l1 l2 ls y1 y2 false false) ∨ (∃ y1 y2, Morg l1 l2 ls y1 y2 false true) ∨ (∃ y1 y2, Morg l1 l2 ls y1 y2 true false) ∨ (∃ y1 y2, Morg l1 l2 ls y1 y2 true true) := by
  rcases h1 : nodeN l1 with _ | y1
  · exact Or.inl rfl
  · rcases h2 : nodeN l2 with _ | y2
    · exact Or.inr (Or.inl ⟨y1, rfl, rfl⟩)
    · by_cases hn : 57 < l1.length + l2.length
      · exact Or.inr (Or.inr (Or.inl ⟨y1, y2, rfl, rfl, hn⟩))
      · rcases ha : holdN ls y1 with _ | _
        · rcases hb : holdN ls y2 with _ | _
          · exact Or.inr (Or.inr (Or.inr (Or.inl ⟨y1, y2, h1, h2, by omega, hl, ha, hb⟩)))
          · exact Or.inr (Or.inr (Or.inr (Or.inr (Or.inl ⟨y1, y2, h1, h2, by omega, hl, ha, hb⟩))))
        · rcases hb : holdN ls y2 with _ | _
          · exact Or.inr (Or.inr (Or.inr (Or.inr (Or.inr (Or.inl ⟨y1, y2, h1, h2, by omega, hl, ha, hb⟩)))))
          · exact Or.inr (Or.inr (Or.inr (Or.inr (Or.inr (Or.inr ⟨y1, y2, h1, h2, by omega, hl, ha, hb⟩)))))
end Go.Proofs.Ytaalegjhhpfhbaa
