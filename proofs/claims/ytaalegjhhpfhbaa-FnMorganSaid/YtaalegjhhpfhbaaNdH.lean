/- Whether a label is among labels; what a node's holds must tell. -/
import Derived.Test.YtaalegjhhpfhbaaNdI
import Derived.Deep.RegionHeld3
namespace Go.Proofs.Ytaalegjhhpfhbaa
open Go.RowKit
set_option linter.unusedVariables false

/- Is there a label of that Key, and of that Value unless any does? -/
noncomputable def isB (ls : List LabV) (k v : ByteArray) (any : Bool) : Bool := boolP (∃ (j : Nat) (h : j < ls.length), ls[j].ky = k ∧ (any = true ∨ ls[j].vl = v))
theorem isB_hit {ls : List LabV} {j : Nat} {k v x y : ByteArray} {any : Bool} (hj : j < ls.length) (hx : ls[j].ky = x) (hy : ls[j].vl = y) (h : x = k) (h2 : any = true ∨ y = v) : isB ls k v any = true := boolP_yes ⟨j, hj, hx.trans h, h2.imp id (fun e => hy.trans e)⟩
theorem isB_step {ls : List LabV} {j : Nat} {k v x y : ByteArray} {any : Bool} (h : ∀ i (hi : i < ls.length), i < j → ¬ (ls[i].ky = k ∧ (any = true ∨ ls[i].vl = v))) (hj : j < ls.length) (hx : ls[j].ky = x) (hy : ls[j].vl = y) (hn : ¬ (x = k ∧ (any = true ∨ y = v))) :
    ∀ i (hi : i < ls.length), i < j + 1 → ¬ (ls[i].ky = k ∧ (any = true ∨ ls[i].vl = v)) := fun i hi hij => by
  by_cases e : i < j
  · exact h i hi e
  · obtain rfl : i = j := by omega
    rw [hx, hy]
    exact hn
theorem isB_all {ls : List LabV} {n : Nat} {k v : ByteArray} {any : Bool} (h : ∀ i (hi : i < ls.length), i < n → ¬ (ls[i].ky = k ∧ (any = true ∨ ls[i].vl = v))) (hn : ls.length = n) : isB ls k v any = false := boolP_no fun ⟨j, hj, hh⟩ => h j hj (by omega) hh
noncomputable def holdN (ls : List LabV) : Nd → Bool
  | .is k v => isB ls k v false
  | .has k => isB ls k ⟨#[]⟩ true
  | .neg n => !holdN ls n
  | .par op a b => if op = 4 then holdN ls a && holdN ls b else holdN ls a || holdN ls b
def fnH : Nd → FuncId
  | .is _ _ => 214
  | .has _ => 218
  | .neg _ => 223
  | .par _ _ _ => 226
noncomputable def rcvN : Nd → Value
  | .is k v => .agg #[.string k, .string v]
  | .has k => .agg #[.string k]
  | .neg n => .agg #[ndV n]
  | .par op a b => .agg #[.int .i64 op, ndV a, ndV b]
set_option maxRecDepth 100000 in
theorem Try.callH (n : Nd) (V : Value) (w : World) : (callMethod (ndV n) "loop.example/g00279/impl.holds" #[V]).run Try.prog w = .ok (.enter (fnH n) #[rcvN n, V]) w := by
  cases n <;> kernel_rfl
set_option maxRecDepth 100000 in
theorem wp_holds {o : Oper} {a : Act} {w : World} {K : Act → World → Prop} {Q : Exit → Act → World → Prop} (x y : Operand) {T : TypeId} (ho : o.op = .call { callee := .invoke x "loop.example/g00279/impl.holds", args := #[y], argTypes := #[T] }) (n : Nd) (e : a.eval x = ndV n) {V : Value} (ey : a.eval y = V) {b : Bool}
    (hC : Calls Try.prog (fnH n) #[rcvN n, V] w fun r w' => r = .returned (.bool b) ∧ Below w.heap.size w w') (h : ∀ w', Below w.heap.size w w' → K (a.put o.dst (.bool b)) w') : o.wp Try.prog a w K Q := by
  have hr : (execOp a.eval o).run Try.prog w = .ok (.enter (fnH n) #[rcvN n, V]) w := by
    rw [← Try.callH n V w]
    unfold execOp
    simp only [ho, resolve, invoke, Sem.run_bind, Sem.run_pure, Result.andThen_ok, List.map_toArray, List.map_cons, List.map_nil, e, ey]
    rfl
  unfold Oper.wp
  rw [hr, Oper.upon_enter]
  refine hC.mono ?_
  rintro r w' ⟨rfl, hb⟩
  exact h w' hb
theorem wpList_holds {ops : Array Oper} {rest : List Oper} {o : Oper} {a : Act} {w : World} {Q : Exit → Act → World → Prop} (hw : Region.wanted o (yielded ops a.tmps) = true) (x y : Operand) {T : TypeId} (ho : o.op = .call { callee := .invoke x "loop.example/g00279/impl.holds", args := #[y], argTypes := #[T] }) (n : Nd) (e : a.eval x = ndV n) {V : Value} (ey : a.eval y = V) {b : Bool}
    (hC : Calls Try.prog (fnH n) #[rcvN n, V] w fun r w' => r = .returned (.bool b) ∧ Below w.heap.size w w') (h : ∀ w', Below w.heap.size w w' → wpList Try.prog ops Q rest (a.put o.dst (.bool b)) w') : wpList Try.prog ops Q (o :: rest) a w :=
  wpList_step fun K hK => by
    rw [if_pos hw]
    exact wp_holds x y ho n e ey hC (fun w' h1 => hK _ _ (h w' h1))
/- What a node's holds must tell. -/
def HoldC (nd : Nd) (ls : List LabV) (a : Option Addr) (n c : Nat) : Prop := ∀ w, LabAt w a ls → Calls Try.prog (fnH nd) #[rcvN nd, .slice a n c] w fun r w' => r = .returned (.bool (holdN ls nd)) ∧ Below w.heap.size w w'
set_option maxRecDepth 100000 in
set_option maxHeartbeats 4000000 in
theorem labIndex (a : Option Addr) (c n : Nat) (l : List LabV) (t u : ByteArray) (w : World) (hn : l.length = n) (h : LabAt w a l) (hm : n ≤ maxLen) :
    Calls Try.prog 217 #[.slice a n c, .agg #[.string t, .string u]] w fun r w' => (∃ q : Int, r = .returned (.int .i64 q) ∧ decide (0 ≤ q) = isB l t u false) ∧ Below w.heap.size w w' := by
  unfold maxLen at hm
  have HN := hidP hn
  have HS0 : Hid (Sta [] w [] [⟨fun k => k < w.heap.size, fun w' => LabAt w' a l⟩] w) := Sta.arg (fun w' => LabAt w' a l) (fun w' hb => h.below hb)
  clear hn h
  go_enter Try.func217, Try.ntmps217
  go_wp2_with (first
    | ((with_reducible refine wpList_boxV (w := w) (by with_unfolding_all rfl) 88 (.tmp 1) (by with_unfolding_all rfl) [.string t, .string u] (by with_unfolding_all rfl) ?_); intro w1 hA1 hB1 hS1; clear hS1; have HS1 := Sta.new HS0 hA1 hB1 (by simp); clear hA1 hB1))
  go_loopw [8] (fun v0 wr => ∃ (k : Nat), v0 = .int .i64 (k : Int) ∧ k ≤ n ∧ Hid (∀ i (hi : i < l.length), i < k → ¬ (l[i].ky = t ∧ (false = true ∨ l[i].vl = u))) ∧ Hid (Sta [] w [(w.heap.size, [.string t, .string u])] [⟨fun k => k < w.heap.size, fun w' => LabAt w' a l⟩] wr)) (fun v0 _ => n - (intOf v0).toNat)
  case atStart => exact ⟨0, rfl, Nat.zero_le _, fun i hi hj => absurd hj (Nat.not_lt_zero _), HS1⟩
  case round =>
    rename Go.World => wl2
    clear HS1
    obtain ⟨k, rfl, hk2, HT, HS2⟩ := hrel
    by_cases hlt2 : k < n
    case neg =>
      obtain rfl : n = k := by omega
      have HF := hidP (isB_all HT.out HN.out)
      go_wp2_with fail
      go_ret
      exact ⟨⟨_, rfl, by rw [HF.out]; exact decide_eq_false (by omega)⟩, Sta.fin HS2⟩
    have lk2 : (k : Int) < n := by omega
    have l02 : (0 : Int) ≤ k := by omega
    have hkl : k < l.length := by have := HN.out; omega
    obtain ⟨b, o, rfl, hz3⟩ := (Sta.t (i := 0) HS2 rfl :) k hkl
    clear hz3
    obtain ⟨x0, hx0⟩ : ∃ y, l[k].ky = y := ⟨_, rfl⟩
    obtain ⟨x1, hx1⟩ : ∃ y, l[k].vl = y := ⟨_, rfl⟩
    have HS4 := Sta.imp 0 (fun w' => (LabAt w' (some ⟨b, o, none⟩) l) ∧ w'.cell? ⟨b, o + k * 2, none⟩ = some (.string x0) ∧ w'.cell? ⟨b, o + k * 2 + 1, none⟩ = some (.string x1)) HS2 rfl (fun w' h => ⟨h, by rw [← hx0]; exact (LabAt.here h k hkl).1, by rw [← hx1]; exact (LabAt.here h k hkl).2⟩)
    have hb3 : (¬ t = x0) ∨ (t = x0 ∧ ¬ u = x1) ∨ (t = x0 ∧ u = x1) := by by_cases e : t = x0 <;> by_cases e2 : u = x1 <;> simp [e, e2]
    rcases hb3 with g | ⟨g, g2⟩ | ⟨g, g2⟩
    · as_aux_lemma =>
      have HT2 := hidP (isB_step HT.out hkl hx0 hx1 (fun q => g q.1.symm))
      have q1 := txt_ne g
      have q1' := txt_ne (fun e => g e.symm : ¬ x0 = t)
      clear g
      go_wp2_with fail
      have HS5 := Sta.drew HS4
      go_region_held3 (fun w' => w'.cell? ⟨w.heap.size, 0, none⟩ = some (.string t) ∧ w'.cell? ⟨w.heap.size, 1, none⟩ = some (.string u) ∧ w'.cell? ⟨b, o + k * 2, none⟩ = some (.string x0) ∧ w'.cell? ⟨b, o + k * 2 + 1, none⟩ = some (.string x1) ∧ Hid (Sta [] w [(w.heap.size, [.string t, .string u])] [⟨fun k => k < w.heap.size, fun w' => (LabAt w' (some ⟨b, o, none⟩) l) ∧ w'.cell? ⟨b, o + k * 2, none⟩ = some (.string x0) ∧ w'.cell? ⟨b, o + k * 2 + 1, none⟩ = some (.string x1)⟩] w'))
        (first | exact ⟨Sta.c (i := 0) (HS5) rfl rfl, Sta.c (i := 0) (HS5) rfl rfl, (Sta.t (i := 0) (HS5) rfl :).2.1, (Sta.t (i := 0) (HS5) rfl :).2.2, (HS5)⟩)
        (fail)
      all_goals
        have HS6 := HS5
        go_wp2_with fail
        have HS7 := Sta.imp 0 (fun w' => LabAt w' (some ⟨b, o, none⟩) l) HS6 rfl (fun w' h => h.1)
        go_roundw
        case rel => exact ⟨k + 1, by go_num, hlt2, HT2, HS7⟩
        case measure => simp [intOf]; omega
    · as_aux_lemma =>
      have HT2 := hidP (isB_step HT.out hkl hx0 hx1 (fun q => g2 ((q.2.resolve_left (by decide)).symm)))
      subst g
      have q1 := txt_eq t
      have q2 := txt_ne g2
      have q2' := txt_ne (fun e => g2 e.symm : ¬ x1 = u)
      clear g2
      go_wp2_with fail
      have HS8 := Sta.drew HS4
      go_region_held3 (fun w' => w'.cell? ⟨w.heap.size, 0, none⟩ = some (.string t) ∧ w'.cell? ⟨w.heap.size, 1, none⟩ = some (.string u) ∧ w'.cell? ⟨b, o + k * 2, none⟩ = some (.string t) ∧ w'.cell? ⟨b, o + k * 2 + 1, none⟩ = some (.string x1) ∧ Hid (Sta [] w [(w.heap.size, [.string t, .string u])] [⟨fun k => k < w.heap.size, fun w' => (LabAt w' (some ⟨b, o, none⟩) l) ∧ w'.cell? ⟨b, o + k * 2, none⟩ = some (.string t) ∧ w'.cell? ⟨b, o + k * 2 + 1, none⟩ = some (.string x1)⟩] w'))
        (first | exact ⟨Sta.c (i := 0) (HS8) rfl rfl, Sta.c (i := 0) (HS8) rfl rfl, (Sta.t (i := 0) (HS8) rfl :).2.1, (Sta.t (i := 0) (HS8) rfl :).2.2, (HS8)⟩)
        (fail)
      all_goals
        have HS9 := HS8
        go_wp2_with fail
        have HS10 := Sta.imp 0 (fun w' => LabAt w' (some ⟨b, o, none⟩) l) HS9 rfl (fun w' h => h.1)
        go_roundw
        case rel => exact ⟨k + 1, by go_num, hlt2, HT2, HS10⟩
        case measure => simp [intOf]; omega
    · as_aux_lemma =>
      have HF := hidP (isB_hit (any := false) hkl hx0 hx1 g.symm (Or.inr g2.symm))
      subst g g2
      have q1 := txt_eq t
      have q2 := txt_eq u
      go_wp2_with fail
      have HS11 := Sta.drew HS4
      go_region_held3 (fun w' => w'.cell? ⟨w.heap.size, 0, none⟩ = some (.string t) ∧ w'.cell? ⟨w.heap.size, 1, none⟩ = some (.string u) ∧ w'.cell? ⟨b, o + k * 2, none⟩ = some (.string t) ∧ w'.cell? ⟨b, o + k * 2 + 1, none⟩ = some (.string u) ∧ Hid (Sta [] w [(w.heap.size, [.string t, .string u])] [⟨fun k => k < w.heap.size, fun w' => (LabAt w' (some ⟨b, o, none⟩) l) ∧ w'.cell? ⟨b, o + k * 2, none⟩ = some (.string t) ∧ w'.cell? ⟨b, o + k * 2 + 1, none⟩ = some (.string u)⟩] w'))
        (first | exact ⟨Sta.c (i := 0) (HS11) rfl rfl, Sta.c (i := 0) (HS11) rfl rfl, (Sta.t (i := 0) (HS11) rfl :).2.1, (Sta.t (i := 0) (HS11) rfl :).2.2, (HS11)⟩)
        (fail)
      all_goals
        have HS12 := HS11
        go_wp2_with fail
        go_ret
        exact ⟨⟨_, rfl, by rw [HF.out]; exact decide_eq_true (by omega)⟩, Sta.fin HS12⟩
set_option maxRecDepth 100000 in
set_option maxHeartbeats 4000000 in
theorem labContains (a : Option Addr) (c n : Nat) (l : List LabV) (t u : ByteArray) (w : World) (hn : l.length = n) (h : LabAt w a l) (hm : n ≤ maxLen) :
    Calls Try.prog 216 #[.slice a n c, .agg #[.string t, .string u]] w fun r w' => r = .returned (.bool (isB l t u false)) ∧ Below w.heap.size w w' := by
  have hC1 : ∀ w0, (LabAt w0 a l) → Calls Try.prog 217 #[.slice a n c, .agg #[.string t, .string u]] w0 fun r w' => ∃ (q : Int), r = .returned (.int .i64 q) ∧ decide (0 ≤ q) = isB l t u false ∧ Below w0.heap.size w0 w' := fun w0 n0 => (labIndex a c n l t u w0 hn n0 hm).mono fun r w' ⟨⟨q, e1, e2⟩, e3⟩ => ⟨q, e1, e2, e3⟩
  have HS0 : Hid (Sta [] w [] [⟨fun k => k < w.heap.size, fun w' => LabAt w' a l⟩] w) := Sta.arg (fun w' => LabAt w' a l) (fun w' hb => h.below hb)
  clear h
  go_enter Try.func216, Try.ntmps216
  go_wp2_with (first
    | ((with_reducible refine wpList_boxV (w := w) (by with_unfolding_all rfl) 88 (.tmp 1) (by with_unfolding_all rfl) [.string t, .string u] (by with_unfolding_all rfl) ?_); intro w1 hA1 hB1 hS1; clear hS1; have HS1 := Sta.new HS0 hA1 hB1 (by simp); clear hA1 hB1)
    | ((with_reducible refine wpList_loadV (w := w1) (by with_unfolding_all rfl) 88 (.tmp 3) (by with_unfolding_all rfl) w.heap.size [.string t, .string u] (by with_unfolding_all rfl) (Sta.r (i := 0) HS1 (by with_unfolding_all rfl)) Try.uT_implLabel 2 Try.sT_implLabel (by with_unfolding_all rfl) ?_))
    | (go_at_call 217; have n2_0 : LabAt w1 a l := (Sta.t (i := 0) HS1 rfl :); (with_reducible refine (hC1 w1 n2_0).mono ?_); rintro r w2 ⟨q, rfl, qq, hB2⟩; have Hqq := hidP qq; clear qq; have HS2 := Sta.call HS1 hB2; clear hB2))
  go_ret
  exact ⟨by rw [← Hqq.out]; rfl, Sta.fin HS2⟩
set_option maxRecDepth 100000 in
set_option maxHeartbeats 2000000 in
theorem hasFn (x0 x1 t : ByteArray) (B : Nat) (w : World) (h : w.cell? ⟨B, 0, none⟩ = some (.string t)) :
    Calls Try.prog 221 #[.agg #[.string x0, .string x1], .pointer (some ⟨B, 0, none⟩)] w fun r w' => r = .returned (.bool (x0.toList == t.toList)) ∧ Below w.heap.size w w' := by
  have HS0 : Hid (Sta [] w [] [⟨fun k => k < w.heap.size, fun w' => True ∧ w'.cell? ⟨B, 0, none⟩ = some (.string t)⟩] w) := Sta.arg (fun w' => True ∧ w'.cell? ⟨B, 0, none⟩ = some (.string t)) (fun w' hb => ⟨trivial, (hb.cell (p := ⟨B, 0, none⟩) (cellLt h)).trans h⟩)
  clear h
  go_enter Try.func221, Try.ntmps221
  go_wp2_with (first
    | ((with_reducible refine wpList_boxV (w := w) (by with_unfolding_all rfl) 88 (.tmp 0) (by with_unfolding_all rfl) [.string x0, .string x1] (by with_unfolding_all rfl) ?_); intro w1 hA1 hB1 hS1; clear hS1; have HS1 := Sta.new HS0 hA1 hB1 (by simp); clear hA1 hB1; have cHS1_0_0 : w1.cell? ⟨w.heap.size, 0, none⟩ = some (.string x0) := Sta.c (i := 0) HS1 rfl rfl; have tcHS1_0_0 : w1.cell? ⟨B, 0, none⟩ = some (.string t) := (Sta.t (i := 0) HS1 rfl :).2))
  go_ret
  exact ⟨rfl, Sta.fin HS1⟩
set_option maxRecDepth 100000 in
set_option maxHeartbeats 4000000 in
theorem labIndexF (a : Option Addr) (c n : Nat) (l : List LabV) (t : ByteArray) (B : Nat) (w : World) (hn : l.length = n) (h : LabAt w a l) (hm : n ≤ maxLen) (hB : w.cell? ⟨B, 0, none⟩ = some (.string t)) :
    Calls Try.prog 222 #[.slice a n c, .func (.func 221) #[] #[.pointer (some ⟨B, 0, none⟩)]] w fun r w' => (∃ q : Int, r = .returned (.int .i64 q) ∧ decide (0 ≤ q) = isB l t ⟨#[]⟩ true) ∧ Below w.heap.size w w' := by
  unfold maxLen at hm
  have HN := hidP hn
  have hC1 : ∀ w0 (x0 : ByteArray) (x1 : ByteArray), (w0.cell? ⟨B, 0, none⟩ = some (.string t)) → ((x0.toList == t.toList) = true) → Calls Try.prog 221 #[.agg #[.string x0, .string x1], .pointer (some ⟨B, 0, none⟩)] w0 fun r w' => r = .returned (.bool true) ∧ Below w0.heap.size w0 w' := fun w0 x0 x1 n0 n1 => by rw [← n1]; exact hasFn x0 x1 t B w0 n0
  have hC2 : ∀ w0 (x0 : ByteArray) (x1 : ByteArray), (w0.cell? ⟨B, 0, none⟩ = some (.string t)) → ((x0.toList == t.toList) = false) → Calls Try.prog 221 #[.agg #[.string x0, .string x1], .pointer (some ⟨B, 0, none⟩)] w0 fun r w' => r = .returned (.bool false) ∧ Below w0.heap.size w0 w' := fun w0 x0 x1 n0 n1 => by rw [← n1]; exact hasFn x0 x1 t B w0 n0
  have HS0 : Hid (Sta [] w [] [⟨fun k => k < w.heap.size, fun w' => LabAt w' a l ∧ w'.cell? ⟨B, 0, none⟩ = some (.string t)⟩] w) := Sta.arg (fun w' => LabAt w' a l ∧ w'.cell? ⟨B, 0, none⟩ = some (.string t)) (fun w' hb => ⟨h.below hb, (hb.cell (p := ⟨B, 0, none⟩) (cellLt hB)).trans hB⟩)
  clear hn h hB
  go_enter Try.func222, Try.ntmps222
  go_wp2_with fail
  go_loopw [8] (fun v0 wr => ∃ (k : Nat), v0 = .int .i64 (k : Int) ∧ k ≤ n ∧ Hid (∀ i (hi : i < l.length), i < k → ¬ (l[i].ky = t ∧ (true = true ∨ l[i].vl = (⟨#[]⟩ : ByteArray)))) ∧ Hid (Sta [] w [] [⟨fun k => k < w.heap.size, fun w' => LabAt w' a l ∧ w'.cell? ⟨B, 0, none⟩ = some (.string t)⟩] wr)) (fun v0 _ => n - (intOf v0).toNat)
  case atStart => exact ⟨0, rfl, Nat.zero_le _, fun i hi hj => absurd hj (Nat.not_lt_zero _), HS0⟩
  case round =>
    rename Go.World => wl1
    clear HS0
    obtain ⟨k, rfl, hk1, HT, HS1⟩ := hrel
    by_cases hlt1 : k < n
    case neg =>
      obtain rfl : n = k := by omega
      have HF := hidP (isB_all HT.out HN.out)
      go_wp2_with fail
      go_ret
      exact ⟨⟨_, rfl, by rw [HF.out]; exact decide_eq_false (by omega)⟩, Sta.fin HS1⟩
    have lk1 : (k : Int) < n := by omega
    have l01 : (0 : Int) ≤ k := by omega
    have hkl : k < l.length := by have := HN.out; omega
    obtain ⟨b, o, rfl, hz2⟩ := (Sta.t (i := 0) HS1 rfl :).1 k hkl
    clear hz2
    obtain ⟨x0, hx0⟩ : ∃ y, l[k].ky = y := ⟨_, rfl⟩
    obtain ⟨x1, hx1⟩ : ∃ y, l[k].vl = y := ⟨_, rfl⟩
    have HS3 := Sta.imp 0 (fun w' => (LabAt w' (some ⟨b, o, none⟩) l ∧ w'.cell? ⟨B, 0, none⟩ = some (.string t)) ∧ w'.cell? ⟨b, o + k * 2, none⟩ = some (.string x0) ∧ w'.cell? ⟨b, o + k * 2 + 1, none⟩ = some (.string x1)) HS1 rfl (fun w' h => ⟨h, by rw [← hx0]; exact (LabAt.here h.1 k hkl).1, by rw [← hx1]; exact (LabAt.here h.1 k hkl).2⟩)
    by_cases g : x0 = t
    · as_aux_lemma =>
      have HF := hidP (isB_hit (v := ⟨#[]⟩) (any := true) hkl hx0 hx1 g (Or.inl rfl))
      have q1 : (x0.toList == t.toList) = true := by rw [g]; exact txt_eq t
      clear g
      have tcHS3_0_0 : wl1.cell? ⟨b, o + k * 2, none⟩ = some (.string x0) := (Sta.t (i := 0) HS3 rfl :).2.1
      have tcHS3_0_1 : wl1.cell? ⟨b, o + k * 2 + 1, none⟩ = some (.string x1) := (Sta.t (i := 0) HS3 rfl :).2.2
      go_wp2_with (first
        | (go_at_call 221; have n4_0 : wl1.cell? ⟨B, 0, none⟩ = some (.string t) := (Sta.t (i := 0) HS3 rfl :).1.2; (with_reducible refine (hC1 wl1 x0 x1 n4_0 q1).mono ?_); rintro r w4 ⟨rfl, hB4⟩; have HS4 := Sta.call HS3 hB4; clear hB4; clear tcHS3_0_0 tcHS3_0_1))
      go_ret
      exact ⟨⟨_, rfl, by rw [HF.out]; exact decide_eq_true (by omega)⟩, Sta.fin HS4⟩
    · as_aux_lemma =>
      have HT2 := hidP (isB_step HT.out hkl hx0 hx1 (fun q => g q.1))
      have q1 := txt_ne g
      clear g
      have tcHS3_0_0 : wl1.cell? ⟨b, o + k * 2, none⟩ = some (.string x0) := (Sta.t (i := 0) HS3 rfl :).2.1
      have tcHS3_0_1 : wl1.cell? ⟨b, o + k * 2 + 1, none⟩ = some (.string x1) := (Sta.t (i := 0) HS3 rfl :).2.2
      go_wp2_with (first
        | (go_at_call 221; have n5_0 : wl1.cell? ⟨B, 0, none⟩ = some (.string t) := (Sta.t (i := 0) HS3 rfl :).1.2; (with_reducible refine (hC2 wl1 x0 x1 n5_0 q1).mono ?_); rintro r w5 ⟨rfl, hB5⟩; have HS5 := Sta.call HS3 hB5; clear hB5; clear tcHS3_0_0 tcHS3_0_1))
      have HS6 := Sta.imp 0 (fun w' => LabAt w' (some ⟨b, o, none⟩) l ∧ w'.cell? ⟨B, 0, none⟩ = some (.string t)) HS5 rfl (fun w' h => h.1)
      go_roundw
      case rel => exact ⟨k + 1, by go_num, hlt1, HT2, HS6⟩
      case measure => simp [intOf]; omega
set_option maxRecDepth 100000 in
set_option maxHeartbeats 4000000 in
theorem labContainsF (a : Option Addr) (c n : Nat) (l : List LabV) (t : ByteArray) (B : Nat) (w : World) (hn : l.length = n) (h : LabAt w a l) (hm : n ≤ maxLen) (hB : w.cell? ⟨B, 0, none⟩ = some (.string t)) :
    Calls Try.prog 220 #[.slice a n c, .func (.func 221) #[] #[.pointer (some ⟨B, 0, none⟩)]] w fun r w' => r = .returned (.bool (isB l t ⟨#[]⟩ true)) ∧ Below w.heap.size w w' := by
  have hC1 : ∀ w0, (LabAt w0 a l ∧ w0.cell? ⟨B, 0, none⟩ = some (.string t)) → Calls Try.prog 222 #[.slice a n c, .func (.func 221) #[] #[.pointer (some ⟨B, 0, none⟩)]] w0 fun r w' => ∃ (q : Int), r = .returned (.int .i64 q) ∧ decide (0 ≤ q) = isB l t ⟨#[]⟩ true ∧ Below w0.heap.size w0 w' := fun w0 n0 => (labIndexF a c n l t B w0 hn n0.1 hm n0.2).mono fun r w' ⟨⟨q, e1, e2⟩, e3⟩ => ⟨q, e1, e2, e3⟩
  have HS0 : Hid (Sta [] w [] [⟨fun k => k < w.heap.size, fun w' => LabAt w' a l ∧ w'.cell? ⟨B, 0, none⟩ = some (.string t)⟩] w) := Sta.arg (fun w' => LabAt w' a l ∧ w'.cell? ⟨B, 0, none⟩ = some (.string t)) (fun w' hb => ⟨h.below hb, (hb.cell (p := ⟨B, 0, none⟩) (cellLt hB)).trans hB⟩)
  clear h hB
  go_enter Try.func220, Try.ntmps220
  go_wp2_with (first
    | (go_at_call 222; have n1_0 : LabAt w a l ∧ w.cell? ⟨B, 0, none⟩ = some (.string t) := (Sta.t (i := 0) HS0 rfl :); (with_reducible refine (hC1 w n1_0).mono ?_); rintro r w1 ⟨q, rfl, qq, hB1⟩; have Hqq := hidP qq; clear qq; have HS1 := Sta.call HS0 hB1; clear hB1))
  go_ret
  exact ⟨by rw [← Hqq.out]; rfl, Sta.fin HS1⟩
end Go.Proofs.Ytaalegjhhpfhbaa
