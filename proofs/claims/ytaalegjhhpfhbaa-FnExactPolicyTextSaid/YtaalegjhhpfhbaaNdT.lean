/- A node's text. -/
import Derived.Test.YtaalegjhhpfhbaaNdE
import Derived.Test.YtaalegjhhpfhbaaTy
import Derived.Deep.RegionHeld3
namespace Go.Proofs.Ytaalegjhhpfhbaa
open Go.RowKit
set_option linter.unusedVariables false

/- A node's text, and how it stands within another. -/
def opN : Nd → Int
  | .is _ _ => 1
  | .has _ => 2
  | .neg _ => 3
  | .par op _ _ => op
def brkT (b : Bool) (t : ByteArray) : ByteArray := if b then ((⟨#[40, 32]⟩ : ByteArray) ++ t) ++ (⟨#[32, 41]⟩ : ByteArray) else t
def wordN (op : Int) : ByteArray := if op = 5 then ⟨#[32, 111, 114, 32]⟩ else ⟨#[32, 97, 110, 100, 32]⟩
def textN : Nd → ByteArray
  | .is k v => (k ++ (⟨#[32, 61, 32]⟩ : ByteArray)) ++ v
  | .has k => (⟨#[104, 97, 115, 32]⟩ : ByteArray) ++ k
  | .neg n => (⟨#[110, 111, 116, 32]⟩ : ByteArray) ++ brkT (decide (3 < opN n)) (textN n)
  | .par op a b => (brkT (decide (op < opN a)) (textN a) ++ wordN op) ++ brkT (decide (op - 1 < opN b)) (textN b)
theorem brkT_size (b : Bool) (t : ByteArray) : (brkT b t).size ≤ t.size + 4 := by
  unfold brkT
  split
  · rw [ByteArray.size_append, ByteArray.size_append]; show 2 + t.size + 2 ≤ _; omega
  · omega
theorem wordN_size (op : Int) : (wordN op).size ≤ 5 := by unfold wordN; split <;> decide
theorem nameB_size {s : ByteArray} (h : nameB s = true) : s.size ≤ 40 := by
  have : NameP s := by
    by_cases hp : NameP s
    · exact hp
    · rw [nameB_no hp] at h; cases h
  exact this.2.1
theorem textN_size : ∀ (q : Nd), NdW q → (textN q).size + 10 ≤ 100 * cntN q := by
  intro q
  induction q with
  | is k v =>
    intro h
    have h1 := nameB_size h.1
    have h2 := nameB_size h.2
    show (textN (.is k v)).size + 10 ≤ 100 * 1
    unfold textN
    rw [ByteArray.size_append, ByteArray.size_append]
    show k.size + 3 + v.size + 10 ≤ _
    omega
  | has k =>
    intro h
    have h1 := nameB_size h
    show (textN (.has k)).size + 10 ≤ 100 * 1
    unfold textN
    rw [ByteArray.size_append]
    show 4 + k.size + 10 ≤ _
    omega
  | neg n ih =>
    intro h
    have h1 := ih h
    have h2 := brkT_size (decide (3 < opN n)) (textN n)
    show (textN (.neg n)).size + 10 ≤ 100 * (cntN n + 1)
    unfold textN
    rw [ByteArray.size_append]
    show 4 + _ + 10 ≤ _
    omega
  | par op a b iha ihb =>
    intro h
    have h1 := iha h.2.1
    have h2 := ihb h.2.2
    have h3 := brkT_size (decide (op < opN a)) (textN a)
    have h4 := brkT_size (decide (op - 1 < opN b)) (textN b)
    have h5 := wordN_size op
    show (textN (.par op a b)).size + 10 ≤ 100 * (cntN a + cntN b + 1)
    unfold textN
    rw [ByteArray.size_append, ByteArray.size_append]
    omega
def fnT : Nd → FuncId
  | .is _ _ => 215
  | .has _ => 219
  | .neg _ => 224
  | .par _ _ _ => 227
set_option maxRecDepth 100000 in
theorem Try.callT (n : Nd) (w : World) : (callMethod (ndV n) "loop.example/g00279/impl.text" #[]).run Try.prog w = .ok (.enter (fnT n) #[rcvN n]) w := by
  cases n <;> kernel_rfl
set_option maxRecDepth 100000 in
theorem wp_text {o : Oper} {a : Act} {w : World} {K : Act → World → Prop} {Q : Exit → Act → World → Prop} (x : Operand) (ho : o.op = .call { callee := .invoke x "loop.example/g00279/impl.text", args := #[], argTypes := #[] }) (n : Nd) (e : a.eval x = ndV n) {b : ByteArray}
    (hC : Calls Try.prog (fnT n) #[rcvN n] w fun r w' => r = .returned (.string b) ∧ Below w.heap.size w w') (h : ∀ w', Below w.heap.size w w' → K (a.put o.dst (.string b)) w') : o.wp Try.prog a w K Q := by
  have hr : (execOp a.eval o).run Try.prog w = .ok (.enter (fnT n) #[rcvN n]) w := by
    rw [← Try.callT n w]
    unfold execOp
    simp only [ho, resolve, invoke, Sem.run_bind, Sem.run_pure, Result.andThen_ok, List.map_toArray, List.map_nil, e]
    rfl
  unfold Oper.wp
  rw [hr, Oper.upon_enter]
  refine hC.mono ?_
  rintro r w' ⟨rfl, hb⟩
  exact h w' hb
theorem wpList_text {ops : Array Oper} {rest : List Oper} {o : Oper} {a : Act} {w : World} {Q : Exit → Act → World → Prop} (hw : Region.wanted o (yielded ops a.tmps) = true) (x : Operand) (ho : o.op = .call { callee := .invoke x "loop.example/g00279/impl.text", args := #[], argTypes := #[] }) (n : Nd) (e : a.eval x = ndV n) {b : ByteArray}
    (hC : Calls Try.prog (fnT n) #[rcvN n] w fun r w' => r = .returned (.string b) ∧ Below w.heap.size w w') (h : ∀ w', Below w.heap.size w w' → wpList Try.prog ops Q rest (a.put o.dst (.string b)) w') : wpList Try.prog ops Q (o :: rest) a w :=
  wpList_step fun K hK => by
    rw [if_pos hw]
    exact wp_text x ho n e hC (fun w' h1 => hK _ _ (h w' h1))
/- What a node's text must tell; and within another. -/
def TextC (nd : Nd) : Prop := ∀ w, Calls Try.prog (fnT nd) #[rcvN nd] w fun r w' => r = .returned (.string (textN nd)) ∧ Below w.heap.size w w'
def TextW (nd : Nd) : Prop := ∀ (L : Int) w, 3 ≤ L → Calls Try.prog 225 #[ndV nd, .int .i64 L] w fun r w' => r = .returned (.string (brkT (decide (L < opN nd)) (textN nd))) ∧ Below w.heap.size w w'
theorem text_is (t u : ByteArray) : textN (.is t u) = ((t ++ (⟨#[32]⟩ : ByteArray)) ++ (⟨#[61]⟩ : ByteArray)) ++ (⟨#[32]⟩ : ByteArray) ++ u := by
  show (t ++ (⟨#[32, 61, 32]⟩ : ByteArray)) ++ u = _
  have e : (⟨#[32, 61, 32]⟩ : ByteArray) = (⟨#[32]⟩ : ByteArray) ++ ((⟨#[61]⟩ : ByteArray) ++ (⟨#[32]⟩ : ByteArray)) := by decide
  rw [e]
  simp only [ByteArray.append_assoc]
theorem brk_yes (t : ByteArray) : brkT true t = (((⟨#[40, 32]⟩ : ByteArray) ++ t) ++ (⟨#[32]⟩ : ByteArray)) ++ (⟨#[41]⟩ : ByteArray) := by
  show ((⟨#[40, 32]⟩ : ByteArray) ++ t) ++ (⟨#[32, 41]⟩ : ByteArray) = _
  have e : (⟨#[32, 41]⟩ : ByteArray) = (⟨#[32]⟩ : ByteArray) ++ (⟨#[41]⟩ : ByteArray) := by decide
  rw [e]
  simp only [ByteArray.append_assoc]
set_option maxRecDepth 100000 in
set_option maxHeartbeats 4000000 in
theorem textIs (t u : ByteArray) (w : World) (h1 : t.size ≤ 40) (h2 : u.size ≤ 40) :
    Calls Try.prog 215 #[.agg #[.string t, .string u]] w fun r w' => r = .returned (.string (textN (.is t u))) ∧ Below w.heap.size w w' := by
  obtain ⟨X1, hX1⟩ : ∃ y, t ++ (⟨#[32]⟩ : ByteArray) = y := ⟨_, rfl⟩
  obtain ⟨X2, hX2⟩ : ∃ y, X1 ++ (⟨#[61]⟩ : ByteArray) = y := ⟨_, rfl⟩
  obtain ⟨X3, hX3⟩ : ∃ y, X2 ++ (⟨#[32]⟩ : ByteArray) = y := ⟨_, rfl⟩
  obtain ⟨X4, hX4⟩ : ∃ y, X3 ++ u = y := ⟨_, rfl⟩
  have z1 : X1.size = t.size + 1 := by rw [← hX1, ByteArray.size_append]; rfl
  have z2 : X2.size = X1.size + 1 := by rw [← hX2, ByteArray.size_append]; rfl
  have z3 : X3.size = X2.size + 1 := by rw [← hX3, ByteArray.size_append]; rfl
  have y1 : ¬ 9223372036854775807 < t.size + 1 := by omega
  have y2 : ¬ 9223372036854775807 < X1.size + 1 := by omega
  have y3 : ¬ 9223372036854775807 < X2.size + 1 := by omega
  have y4 : ¬ 9223372036854775807 < X3.size + u.size := by omega
  have HR : Hid (textN (.is t u) = X4) := by show _ = _; rw [← hX4, ← hX3, ← hX2, ← hX1]; exact text_is t u
  have HS0 : Hid (Sta [] w [] [] w) := Sta.start w
  clear z1 z2 z3
  go_enter Try.func215, Try.ntmps215
  go_wp2_with (first
    | ((with_reducible refine wpList_boxV (w := w) (by with_unfolding_all rfl) 174 (.tmp 0) (by with_unfolding_all rfl) [.string t, .string u] (by with_unfolding_all rfl) ?_); intro w1 hA1 hB1 hS1; clear hS1; have HS1 := Sta.new HS0 hA1 hB1 (by simp); clear hA1 hB1; have cHS1_0_0 : w1.cell? ⟨w.heap.size, 0, none⟩ = some (.string t) := Sta.c (i := 0) HS1 rfl rfl; have cHS1_0_1 : w1.cell? ⟨w.heap.size, 1, none⟩ = some (.string u) := Sta.c (i := 0) HS1 rfl rfl))
  go_ret
  exact ⟨by rw [HR.out]; rfl, Sta.fin HS1⟩
set_option maxRecDepth 100000 in
set_option maxHeartbeats 4000000 in
theorem textHas (t : ByteArray) (w : World) (h1 : t.size ≤ 40) :
    Calls Try.prog 219 #[.agg #[.string t]] w fun r w' => r = .returned (.string (textN (.has t))) ∧ Below w.heap.size w w' := by
  obtain ⟨X1, hX1⟩ : ∃ y, (⟨#[104, 97, 115, 32]⟩ : ByteArray) ++ t = y := ⟨_, rfl⟩
  have y1 : ¬ 9223372036854775807 < 4 + t.size := by omega
  have HR : Hid (textN (.has t) = X1) := hX1
  have HS0 : Hid (Sta [] w [] [] w) := Sta.start w
  go_enter Try.func219, Try.ntmps219
  go_wp2_with (first
    | ((with_reducible refine wpList_boxV (w := w) (by with_unfolding_all rfl) 176 (.tmp 0) (by with_unfolding_all rfl) [.string t] (by with_unfolding_all rfl) ?_); intro w1 hA1 hB1 hS1; clear hS1; have HS1 := Sta.new HS0 hA1 hB1 (by simp); clear hA1 hB1; have cHS1_0_0 : w1.cell? ⟨w.heap.size, 0, none⟩ = some (.string t) := Sta.c (i := 0) HS1 rfl rfl))
  go_ret
  exact ⟨by rw [HR.out]; rfl, Sta.fin HS1⟩
set_option maxRecDepth 100000 in
set_option maxHeartbeats 4000000 in
theorem withIs (t u : ByteArray) (L : Int) (w : World) (ih : TextC (.is t u)) (hL : 3 ≤ L) (hs : (textN (.is t u)).size ≤ 6000) :
    Calls Try.prog 225 #[.iface 174 (.agg #[.string t, .string u]), .int .i64 L] w fun r w' => r = .returned (.string (brkT (decide (L < opN (.is t u))) (textN (.is t u)))) ∧ Below w.heap.size w w' := by
  obtain ⟨X0, hX0⟩ : ∃ y, textN (.is t u) = y := ⟨_, rfl⟩
  rw [hX0] at hs
  have hta : ∀ w, (Instr.typeAssert (.iface 174 (.agg #[.string t, .string u])) 79 180 true).run Try.prog w = .ok (.tuple #[.agg #[.int .i64 0, .nilIface, .nilIface], .bool false]) w := fun w => by kernel_rfl
  have ih0 := ih
  have ih : ∀ w, Calls Try.prog (fnT (.is t u)) #[rcvN (.is t u)] w fun r w' => r = .returned (.string X0) ∧ Below w.heap.size w w' := by rw [← hX0]; exact ih0
  clear ih0
  have HR : Hid (brkT (decide (L < opN (.is t u))) X0 = X0) := by show _ = _; rw [show decide (L < opN (.is t u)) = false from decide_eq_false (show ¬ L < 1 by omega)]; rfl
  have HS0 : Hid (Sta [] w [] [] w) := Sta.start w
  go_enter Try.func225, Try.ntmps225
  go_wp2_with (first
    | ((with_reducible refine wpList_allocV (w := w) (by with_unfolding_all rfl) 180 (by with_unfolding_all rfl) [.int .i64 0, .nilIface, .nilIface] Try.zT_implpairNode ?_); intro w1 hA1 hB1 hS1; clear hS1; have HS1 := Sta.new HS0 hA1 hB1 (by simp); clear hA1 hB1)
    | ((with_reducible refine wpList_storeS (w := w1) (by with_unfolding_all rfl) 180 (.tmp 5) (.tmp 10) (by with_unfolding_all rfl) w.heap.size [.int .i64 0, .nilIface, .nilIface] [.int .i64 0, .nilIface, .nilIface] (by with_unfolding_all rfl) (by with_unfolding_all rfl) (Sta.r (i := 0) HS1 (by with_unfolding_all rfl)) 3 Try.sT_implpairNode (by with_unfolding_all rfl) (by with_unfolding_all rfl) (by with_unfolding_all rfl) ?_); intro w2 hA2 hO2; have HS2 := Sta.put 0 HS1 rfl hA2 (by simp) hO2; clear hA2 hO2)
    | (have n3_9 := ih w2; (with_reducible refine wpList_text (w := w2) (wanted_free rfl) (.tmp 24) (by with_unfolding_all rfl) (.is t u) (by with_unfolding_all rfl)  n3_9 ?_); intro w3 hB3; have HS3 := Sta.call HS2 hB3; clear hB3))
  go_ret
  exact ⟨by rw [hX0, HR.out]; rfl, Sta.fin HS3⟩
set_option maxRecDepth 100000 in
set_option maxHeartbeats 4000000 in
theorem withHas (t : ByteArray) (L : Int) (w : World) (ih : TextC (.has t)) (hL : 3 ≤ L) (hs : (textN (.has t)).size ≤ 6000) :
    Calls Try.prog 225 #[.iface 176 (.agg #[.string t]), .int .i64 L] w fun r w' => r = .returned (.string (brkT (decide (L < opN (.has t))) (textN (.has t)))) ∧ Below w.heap.size w w' := by
  obtain ⟨X0, hX0⟩ : ∃ y, textN (.has t) = y := ⟨_, rfl⟩
  rw [hX0] at hs
  have hta : ∀ w, (Instr.typeAssert (.iface 176 (.agg #[.string t])) 79 180 true).run Try.prog w = .ok (.tuple #[.agg #[.int .i64 0, .nilIface, .nilIface], .bool false]) w := fun w => by kernel_rfl
  have ih0 := ih
  have ih : ∀ w, Calls Try.prog (fnT (.has t)) #[rcvN (.has t)] w fun r w' => r = .returned (.string X0) ∧ Below w.heap.size w w' := by rw [← hX0]; exact ih0
  clear ih0
  have HR : Hid (brkT (decide (L < opN (.has t))) X0 = X0) := by show _ = _; rw [show decide (L < opN (.has t)) = false from decide_eq_false (show ¬ L < 2 by omega)]; rfl
  have HS0 : Hid (Sta [] w [] [] w) := Sta.start w
  go_enter Try.func225, Try.ntmps225
  go_wp2_with (first
    | ((with_reducible refine wpList_allocV (w := w) (by with_unfolding_all rfl) 180 (by with_unfolding_all rfl) [.int .i64 0, .nilIface, .nilIface] Try.zT_implpairNode ?_); intro w1 hA1 hB1 hS1; clear hS1; have HS1 := Sta.new HS0 hA1 hB1 (by simp); clear hA1 hB1)
    | ((with_reducible refine wpList_storeS (w := w1) (by with_unfolding_all rfl) 180 (.tmp 5) (.tmp 10) (by with_unfolding_all rfl) w.heap.size [.int .i64 0, .nilIface, .nilIface] [.int .i64 0, .nilIface, .nilIface] (by with_unfolding_all rfl) (by with_unfolding_all rfl) (Sta.r (i := 0) HS1 (by with_unfolding_all rfl)) 3 Try.sT_implpairNode (by with_unfolding_all rfl) (by with_unfolding_all rfl) (by with_unfolding_all rfl) ?_); intro w2 hA2 hO2; have HS2 := Sta.put 0 HS1 rfl hA2 (by simp) hO2; clear hA2 hO2)
    | (have n3_9 := ih w2; (with_reducible refine wpList_text (w := w2) (wanted_free rfl) (.tmp 24) (by with_unfolding_all rfl) (.has t) (by with_unfolding_all rfl)  n3_9 ?_); intro w3 hB3; have HS3 := Sta.call HS2 hB3; clear hB3))
  go_ret
  exact ⟨by rw [hX0, HR.out]; rfl, Sta.fin HS3⟩
set_option maxRecDepth 100000 in
set_option maxHeartbeats 4000000 in
theorem withNeg (a : Nd) (L : Int) (w : World) (ih : TextC (.neg a)) (hL : 3 ≤ L) (hs : (textN (.neg a)).size ≤ 6000) :
    Calls Try.prog 225 #[.iface 178 (.agg #[ndV a]), .int .i64 L] w fun r w' => r = .returned (.string (brkT (decide (L < opN (.neg a))) (textN (.neg a)))) ∧ Below w.heap.size w w' := by
  obtain ⟨X0, hX0⟩ : ∃ y, textN (.neg a) = y := ⟨_, rfl⟩
  rw [hX0] at hs
  have hta : ∀ w, (Instr.typeAssert (.iface 178 (.agg #[ndV a])) 79 180 true).run Try.prog w = .ok (.tuple #[.agg #[.int .i64 0, .nilIface, .nilIface], .bool false]) w := fun w => by kernel_rfl
  have ih0 := ih
  have ih : ∀ w, Calls Try.prog (fnT (.neg a)) #[rcvN (.neg a)] w fun r w' => r = .returned (.string X0) ∧ Below w.heap.size w w' := by rw [← hX0]; exact ih0
  clear ih0
  have HR : Hid (brkT (decide (L < opN (.neg a))) X0 = X0) := by show _ = _; rw [show decide (L < opN (.neg a)) = false from decide_eq_false (show ¬ L < 3 by omega)]; rfl
  have HS0 : Hid (Sta [] w [] [] w) := Sta.start w
  go_enter Try.func225, Try.ntmps225
  go_wp2_with (first
    | ((with_reducible refine wpList_allocV (w := w) (by with_unfolding_all rfl) 180 (by with_unfolding_all rfl) [.int .i64 0, .nilIface, .nilIface] Try.zT_implpairNode ?_); intro w1 hA1 hB1 hS1; clear hS1; have HS1 := Sta.new HS0 hA1 hB1 (by simp); clear hA1 hB1)
    | ((with_reducible refine wpList_storeS (w := w1) (by with_unfolding_all rfl) 180 (.tmp 5) (.tmp 10) (by with_unfolding_all rfl) w.heap.size [.int .i64 0, .nilIface, .nilIface] [.int .i64 0, .nilIface, .nilIface] (by with_unfolding_all rfl) (by with_unfolding_all rfl) (Sta.r (i := 0) HS1 (by with_unfolding_all rfl)) 3 Try.sT_implpairNode (by with_unfolding_all rfl) (by with_unfolding_all rfl) (by with_unfolding_all rfl) ?_); intro w2 hA2 hO2; have HS2 := Sta.put 0 HS1 rfl hA2 (by simp) hO2; clear hA2 hO2)
    | (have n3_9 := ih w2; (with_reducible refine wpList_text (w := w2) (wanted_free rfl) (.tmp 24) (by with_unfolding_all rfl) (.neg a) (by with_unfolding_all rfl)  n3_9 ?_); intro w3 hB3; have HS3 := Sta.call HS2 hB3; clear hB3))
  go_ret
  exact ⟨by rw [hX0, HR.out]; rfl, Sta.fin HS3⟩
set_option maxRecDepth 100000 in
set_option maxHeartbeats 4000000 in
theorem withPar (op : Int) (a b : Nd) (L : Int) (w : World) (ih : TextC (.par op a b)) (hL : 3 ≤ L) (hs : (textN (.par op a b)).size ≤ 6000) :
    Calls Try.prog 225 #[.iface 180 (.agg #[.int .i64 op, ndV a, ndV b]), .int .i64 L] w fun r w' => r = .returned (.string (brkT (decide (L < opN (.par op a b))) (textN (.par op a b)))) ∧ Below w.heap.size w w' := by
  obtain ⟨X0, hX0⟩ : ∃ y, textN (.par op a b) = y := ⟨_, rfl⟩
  rw [hX0] at hs
  have hta : ∀ w, (Instr.typeAssert (.iface 180 (.agg #[.int .i64 op, ndV a, ndV b])) 79 180 true).run Try.prog w = .ok (.tuple #[.agg #[.int .i64 op, ndV a, ndV b], .bool true]) w := fun w => by kernel_rfl
  have ih0 := ih
  have ih : ∀ w, Calls Try.prog (fnT (.par op a b)) #[rcvN (.par op a b)] w fun r w' => r = .returned (.string X0) ∧ Below w.heap.size w w' := by rw [← hX0]; exact ih0
  clear ih0
  have hall : ([.int .i64 op, ndV a, ndV b] : List Value).all Value.oneCell' = true := by rw [List.all_eq_true]; intro v hv; simp only [List.mem_cons, List.not_mem_nil, or_false] at hv; rcases hv with rfl | rfl | rfl; rfl; exact ndV_one a; exact ndV_one b
  have HS0 : Hid (Sta [] w [] [] w) := Sta.start w
  go_enter Try.func225, Try.ntmps225
  by_cases g : L < op
  · as_aux_lemma =>
    have dg : decide (L < op) = true := decide_eq_true g
    obtain ⟨X1, hX1⟩ : ∃ y, (⟨#[40, 32]⟩ : ByteArray) ++ X0 = y := ⟨_, rfl⟩
    obtain ⟨X2, hX2⟩ : ∃ y, X1 ++ (⟨#[32]⟩ : ByteArray) = y := ⟨_, rfl⟩
    obtain ⟨X3, hX3⟩ : ∃ y, X2 ++ (⟨#[41]⟩ : ByteArray) = y := ⟨_, rfl⟩
    have z1 : X1.size = 2 + X0.size := by rw [← hX1, ByteArray.size_append]; rfl
    have z2 : X2.size = X1.size + 1 := by rw [← hX2, ByteArray.size_append]; rfl
    have y1 : ¬ 9223372036854775807 < 2 + X0.size := by omega
    have y2 : ¬ 9223372036854775807 < X1.size + 1 := by omega
    have y3 : ¬ 9223372036854775807 < X2.size + 1 := by omega
    have HR : Hid (brkT (decide (L < opN (.par op a b))) X0 = X3) := by show _ = _; rw [show decide (L < opN (.par op a b)) = true from dg, ← hX3, ← hX2, ← hX1]; exact brk_yes X0
    clear z1 z2 g
    go_wp2_with (first
      | ((with_reducible refine wpList_allocV (w := w) (by with_unfolding_all rfl) 180 (by with_unfolding_all rfl) [.int .i64 0, .nilIface, .nilIface] Try.zT_implpairNode ?_); intro w1 hA1 hB1 hS1; clear hS1; have HS1 := Sta.new HS0 hA1 hB1 (by simp); clear hA1 hB1)
      | ((with_reducible refine wpList_storeS (w := w1) (by with_unfolding_all rfl) 180 (.tmp 5) (.tmp 10) (by with_unfolding_all rfl) w.heap.size [.int .i64 0, .nilIface, .nilIface] [.int .i64 op, ndV a, ndV b] (by with_unfolding_all rfl) (by with_unfolding_all rfl) (Sta.r (i := 0) HS1 (by with_unfolding_all rfl)) 3 Try.sT_implpairNode (by first | with_unfolding_all rfl | assumption) (by first | with_unfolding_all rfl | assumption) (by first | with_unfolding_all rfl | assumption) ?_); intro w2 hA2 hO2; have HS2 := Sta.put 0 HS1 rfl hA2 (by simp) hO2; clear hA2 hO2; have cHS2_0_0 : w2.cell? ⟨w.heap.size, 0, none⟩ = some (.int .i64 op) := Sta.c (i := 0) HS2 rfl rfl)
      | (have n3_9 := ih w2; (with_reducible refine wpList_text (w := w2) (wanted_free rfl) (.tmp 19) (by with_unfolding_all rfl) (.par op a b) (by with_unfolding_all rfl)  n3_9 ?_); intro w3 hB3; have HS3 := Sta.call HS2 hB3; clear hB3; clear cHS2_0_0))
    go_ret
    exact ⟨by rw [hX0, HR.out]; rfl, Sta.fin HS3⟩
  · as_aux_lemma =>
    have dg : decide (L < op) = false := decide_eq_false g
    have HR : Hid (brkT (decide (L < opN (.par op a b))) X0 = X0) := by show _ = _; rw [show decide (L < opN (.par op a b)) = false from dg]; rfl
    clear g
    go_wp2_with (first
      | ((with_reducible refine wpList_allocV (w := w) (by with_unfolding_all rfl) 180 (by with_unfolding_all rfl) [.int .i64 0, .nilIface, .nilIface] Try.zT_implpairNode ?_); intro w4 hA4 hB4 hS4; clear hS4; have HS4 := Sta.new HS0 hA4 hB4 (by simp); clear hA4 hB4)
      | ((with_reducible refine wpList_storeS (w := w4) (by with_unfolding_all rfl) 180 (.tmp 5) (.tmp 10) (by with_unfolding_all rfl) w.heap.size [.int .i64 0, .nilIface, .nilIface] [.int .i64 op, ndV a, ndV b] (by with_unfolding_all rfl) (by with_unfolding_all rfl) (Sta.r (i := 0) HS4 (by with_unfolding_all rfl)) 3 Try.sT_implpairNode (by first | with_unfolding_all rfl | assumption) (by first | with_unfolding_all rfl | assumption) (by first | with_unfolding_all rfl | assumption) ?_); intro w5 hA5 hO5; have HS5 := Sta.put 0 HS4 rfl hA5 (by simp) hO5; clear hA5 hO5; have cHS5_0_0 : w5.cell? ⟨w.heap.size, 0, none⟩ = some (.int .i64 op) := Sta.c (i := 0) HS5 rfl rfl)
      | (have n6_9 := ih w5; (with_reducible refine wpList_text (w := w5) (wanted_free rfl) (.tmp 24) (by with_unfolding_all rfl) (.par op a b) (by with_unfolding_all rfl)  n6_9 ?_); intro w6 hB6; have HS6 := Sta.call HS5 hB6; clear hB6; clear cHS5_0_0))
    go_ret
    exact ⟨by rw [hX0, HR.out]; rfl, Sta.fin HS6⟩
end Go.Proofs.Ytaalegjhhpfhbaa
