/- Policies: what an instruction must be, the stack of nodes that it works on, what a node tells. As functions of lists. -/
import Derived.Test.YtaalegjhhpfhbaaNmB
import Derived.Test.YtaalegjhhpfhbaaInsA
import Derived.Test.YtaalegjhhpfhbaaLabA
namespace Go.Proofs.Ytaalegjhhpfhbaa
open Go.RowKit
set_option linter.unusedVariables false

inductive Nd where
  | is (k v : ByteArray)
  | has (k : ByteArray)
  | neg (n : Nd)
  | par (op : Int) (a b : Nd)
noncomputable def ndV : Nd → Value
  | .is k v => .iface 174 (.agg #[.string k, .string v])
  | .has k => .iface 176 (.agg #[.string k])
  | .neg n => .iface 178 (.agg #[ndV n])
  | .par op a b => .iface 180 (.agg #[.int .i64 op, ndV a, ndV b])
theorem ndV_one (n : Nd) : (ndV n).oneCell' = true := by cases n <;> rfl
noncomputable def ndl (l : List Nd) : List Value := l.map ndV
theorem ndl_length (l : List Nd) : (ndl l).length = l.length := List.length_map _
/- An instruction by itself. -/
def InsOk (op : Int) (k v : ByteArray) : Prop :=
  (op = 1 ∧ nameB k = true ∧ k ≠ ⟨#[110, 111, 116]⟩ ∧ k ≠ ⟨#[104, 97, 115]⟩ ∧ nameB v = true) ∨ (op = 2 ∧ nameB k = true ∧ v = ⟨#[]⟩) ∨ ((op = 3 ∨ op = 4 ∨ op = 5) ∧ k = ⟨#[]⟩ ∧ v = ⟨#[]⟩)
/- The stack, its top first. -/
open Classical in
noncomputable def stepN (st : List Nd) (op : Int) (k v : ByteArray) : Option (List Nd) :=
  if InsOk op k v then
    if op = 1 then some (.is k v :: st) else if op = 2 then some (.has k :: st)
    else if op = 3 then (match st with | n :: r => some (.neg n :: r) | [] => none)
    else (match st with | b :: a :: r => some (.par op a b :: r) | _ => none)
  else none
/- What a leaf is. -/
def Leaf (op : Int) (k v : ByteArray) (y : Nd) : Prop := (op = 1 ∧ y = .is k v) ∨ (op = 2 ∧ y = .has k)
theorem step_cases (st : List Nd) (op : Int) (k v : ByteArray) :
    (¬ InsOk op k v ∧ stepN st op k v = none) ∨ (InsOk op k v ∧ ∃ y, Leaf op k v y ∧ stepN st op k v = some (y :: st)) ∨
    (InsOk op k v ∧ op = 3 ∧ st = [] ∧ stepN st op k v = none) ∨ (InsOk op k v ∧ op = 3 ∧ ∃ n r, st = n :: r ∧ stepN st op k v = some (.neg n :: r)) ∨
    (InsOk op k v ∧ (op = 4 ∨ op = 5) ∧ st.length < 2 ∧ stepN st op k v = none) ∨ (InsOk op k v ∧ (op = 4 ∨ op = 5) ∧ ∃ a b r, st = b :: a :: r ∧ stepN st op k v = some (.par op a b :: r)) := by
  by_cases h : InsOk op k v
  · have e : stepN st op k v = (if op = 1 then some (.is k v :: st) else if op = 2 then some (.has k :: st) else if op = 3 then (match st with | n :: r => some (.neg n :: r) | [] => none) else (match st with | b :: a :: r => some (.par op a b :: r) | _ => none)) := by unfold stepN; rw [if_pos h]
    have h0 := h
    rcases h with ⟨rfl, _⟩ | ⟨rfl, _⟩ | ⟨hop, _⟩
    · exact Or.inr (Or.inl ⟨h0, _, Or.inl ⟨rfl, rfl⟩, by rw [e]; rfl⟩)
    · exact Or.inr (Or.inl ⟨h0, _, Or.inr ⟨rfl, rfl⟩, by rw [e]; rfl⟩)
    · rcases hop with rfl | h4
      · rcases st with _ | ⟨n, r⟩
        · exact Or.inr (Or.inr (Or.inl ⟨h0, rfl, rfl, by rw [e]; rfl⟩))
        · exact Or.inr (Or.inr (Or.inr (Or.inl ⟨h0, rfl, n, r, rfl, by rw [e]; rfl⟩)))
      · have e1 : ¬ op = 1 := by omega
        have e2 : ¬ op = 2 := by omega
        have e3 : ¬ op = 3 := by omega
        rw [if_neg e1, if_neg e2, if_neg e3] at e
        rcases st with _ | ⟨b, _ | ⟨a, r⟩⟩
        · exact Or.inr (Or.inr (Or.inr (Or.inr (Or.inl ⟨h0, h4, by simp, e⟩))))
        · exact Or.inr (Or.inr (Or.inr (Or.inr (Or.inl ⟨h0, h4, by simp, e⟩))))
        · exact Or.inr (Or.inr (Or.inr (Or.inr (Or.inr ⟨h0, h4, a, b, r, rfl, e⟩))))
  · exact Or.inl ⟨h, by unfold stepN; rw [if_neg h]⟩
noncomputable def runN (l : List InsV) : Option (List Nd) := l.foldl (fun o x => o.bind fun st => stepN st x.op x.key x.val) (some [])
theorem runN_snoc {l : List InsV} {k : Nat} {x0 : Int} {x1 x2 : ByteArray} {st : List Nd} (hk : k < l.length) (h0 : l[k].op = x0) (h1 : l[k].key = x1) (h2 : l[k].val = x2) (h : runN (l.take k) = some st) : runN (l.take (k + 1)) = stepN st x0 x1 x2 := by
  rw [List.take_succ_eq_append_getElem hk]
  unfold runN
  rw [List.foldl_append]
  change Option.bind (runN (l.take k)) _ = _
  rw [h, ← h0, ← h1, ← h2]
  rfl
theorem fold_none (l : List InsV) : l.foldl (fun o x => o.bind fun st => stepN st x.op x.key x.val) none = none := by
  induction l with
  | nil => rfl
  | cons x l ih => exact ih
theorem runN_none {l : List InsV} (k : Nat) (h : runN (l.take k) = none) : runN l = none := by
  have e : runN l = runN (l.take k ++ l.drop k) := by rw [List.take_append_drop]
  rw [e]
  unfold runN
  rw [List.foldl_append]
  change (l.drop k).foldl _ (runN (l.take k)) = none
  rw [h]
  exact fold_none _
noncomputable def nodeN (l : List InsV) : Option Nd := if l.length ≤ 60 then (match runN l with | some [n] => some n | _ => none) else none
theorem node_long {l : List InsV} {n : Nat} (hn : l.length = n) (h : 60 < n) : nodeN l = none := by unfold nodeN; rw [if_neg (by omega)]
theorem node_none {l : List InsV} (h : runN l = none) : nodeN l = none := by unfold nodeN; rw [h]; split <;> rfl
theorem node_at {l : List InsV} {k : Nat} {x0 : Int} {x1 x2 : ByteArray} {st : List Nd} (hk : k < l.length) (h0 : l[k].op = x0) (h1 : l[k].key = x1) (h2 : l[k].val = x2) (h : runN (l.take k) = some st) (hs : stepN st x0 x1 x2 = none) : nodeN l = none :=
  node_none (runN_none (k + 1) ((runN_snoc hk h0 h1 h2 h).trans hs))
theorem node_many {l : List InsV} {n : Nat} {st : List Nd} (hn : l.length = n) (h : runN (l.take n) = some st) (h1 : st.length ≠ 1) : nodeN l = none := by
  rw [List.take_of_length_le (Nat.le_of_eq hn)] at h
  unfold nodeN
  rw [h]
  split
  · rcases st with _ | ⟨a, _ | ⟨b, r⟩⟩
    · rfl
    · exact absurd rfl h1
    · rfl
  · rfl
theorem node_one {l : List InsV} {n : Nat} {y : Nd} (hn : l.length = n) (h6 : ¬ 60 < n) (h : runN (l.take n) = some [y]) : nodeN l = some y := by
  rw [List.take_of_length_le (Nat.le_of_eq hn)] at h
  unfold nodeN
  rw [if_pos (by omega), h]
theorem node_some {l : List InsV} {y : Nd} (h : nodeN l = some y) : 1 ≤ l.length ∧ l.length ≤ 60 ∧ runN l = some [y] := by
  unfold nodeN at h
  split at h
  case isFalse => cases h
  case isTrue hl =>
    rcases hr : runN l with _ | st
    · rw [hr] at h; cases h
    · rw [hr] at h
      rcases st with _ | ⟨a, _ | ⟨b, r⟩⟩
      · cases h
      · injection h with h
        subst h
        refine ⟨?_, hl, rfl⟩
        rcases l with _ | ⟨x, l⟩
        · unfold runN at hr; cases hr
        · simp
      · cases h
theorem pre_some {l : List InsV} {s : List Nd} (h : runN l = some s) (k : Nat) : ∃ st, runN (l.take k) = some st := by
  rcases hr : runN (l.take k) with _ | st
  · rw [runN_none k hr] at h; cases h
  · exact ⟨st, rfl⟩
/- In a right policy each step can be taken. -/
theorem step_some {l : List InsV} {y : Nd} {k : Nat} {x0 : Int} {x1 x2 : ByteArray} {st : List Nd} (h : nodeN l = some y) (hk : k < l.length) (h0 : l[k].op = x0) (h1 : l[k].key = x1) (h2 : l[k].val = x2) (hr : runN (l.take k) = some st) : stepN st x0 x1 x2 ≠ none := fun hs => by
  rw [node_at hk h0 h1 h2 hr hs] at h
  cases h
/- How large it all is. -/
def cntN : Nd → Nat
  | .is _ _ => 1
  | .has _ => 1
  | .neg n => cntN n + 1
  | .par _ a b => cntN a + cntN b + 1
def NdW : Nd → Prop
  | .is k v => nameB k = true ∧ nameB v = true
  | .has k => nameB k = true
  | .neg n => NdW n
  | .par op a b => (op = 4 ∨ op = 5) ∧ NdW a ∧ NdW b
def sumN (l : List Nd) : Nat := (l.map cntN).sum
theorem cnt_pos (n : Nd) : 1 ≤ cntN n := by cases n <;> simp [cntN]
theorem len_sum (l : List Nd) : l.length ≤ sumN l := by
  induction l with
  | nil => exact Nat.zero_le _
  | cons x l ih =>
    have := cnt_pos x
    show l.length + 1 ≤ cntN x + sumN l
    omega
theorem step_w {st st2 : List Nd} {op : Int} {k v : ByteArray} (h : stepN st op k v = some st2) (hw : ∀ y ∈ st, NdW y) : (∀ y ∈ st2, NdW y) ∧ sumN st2 ≤ sumN st + 1 := by
  rcases step_cases st op k v with ⟨_, e⟩ | ⟨ho, y, hy, e⟩ | ⟨_, _, _, e⟩ | ⟨_, _, n, r, rfl, e⟩ | ⟨_, _, _, e⟩ | ⟨_, h4, a, b, r, rfl, e⟩
  · rw [e] at h; cases h
  · rw [e] at h
    injection h with h
    subst h
    rcases hy with ⟨h1, rfl⟩ | ⟨h1, rfl⟩
    · refine ⟨fun z hz => ?_, ?_⟩
      · rcases List.mem_cons.1 hz with rfl | hz
        · rcases ho with ⟨_, a, _, _, b⟩ | ⟨q, _⟩ | ⟨q, _⟩
          · exact ⟨a, b⟩
          · omega
          · omega
        · exact hw z hz
      · show 1 + sumN st ≤ _
        omega
    · refine ⟨fun z hz => ?_, ?_⟩
      · rcases List.mem_cons.1 hz with rfl | hz
        · rcases ho with ⟨q, _⟩ | ⟨_, a, _⟩ | ⟨q, _⟩
          · omega
          · exact a
          · omega
        · exact hw z hz
      · show 1 + sumN st ≤ _
        omega
  · rw [e] at h; cases h
  · rw [e] at h
    injection h with h
    subst h
    refine ⟨fun z hz => ?_, ?_⟩
    · rcases List.mem_cons.1 hz with rfl | hz
      · exact hw n (List.mem_cons_self ..)
      · exact hw z (List.mem_cons_of_mem _ hz)
    · show cntN n + 1 + sumN r ≤ cntN n + sumN r + 1
      omega
  · rw [e] at h; cases h
  · rw [e] at h
    injection h with h
    subst h
    refine ⟨fun z hz => ?_, ?_⟩
    · rcases List.mem_cons.1 hz with rfl | hz
      · exact ⟨h4, hw a (by simp), hw b (by simp)⟩
      · exact hw z (by simp [hz])
    · show cntN a + cntN b + 1 + sumN r ≤ cntN b + (cntN a + sumN r) + 1
      omega
theorem run_w {l : List InsV} : ∀ {k : Nat} {st : List Nd}, k ≤ l.length → runN (l.take k) = some st → (∀ y ∈ st, NdW y) ∧ sumN st ≤ k := by
  intro k
  induction k with
  | zero =>
    intro st _ h
    rw [List.take_zero] at h
    unfold runN at h
    injection h with h
    subst h
    exact ⟨fun y hy => (by cases hy), Nat.le_refl _⟩
  | succ k ih =>
    intro st hk h
    rcases hr : runN (l.take k) with _ | s0
    · have hk1 : k < l.length := hk
      have : runN (l.take (k + 1)) = none := by
        have e : (l.take (k + 1)).take k = l.take k := by rw [List.take_take, Nat.min_eq_left (by omega)]
        exact runN_none k (by rw [e]; exact hr)
      rw [this] at h
      cases h
    · have h1 := ih (by omega) hr
      rw [runN_snoc (hk : k < l.length) rfl rfl rfl hr] at h
      have h2 := step_w h h1.1
      exact ⟨h2.1, by have := h1.2; omega⟩
end Go.Proofs.Ytaalegjhhpfhbaa
