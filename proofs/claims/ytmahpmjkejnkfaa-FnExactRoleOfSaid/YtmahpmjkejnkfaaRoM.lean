/- Rising lists of numbers: putting one in, sorting and striking repeats: one and the same. -/
import Derived.Test.YtmahpmjkejnkfaaSec
import Derived.Lib.SlicesCompact
namespace Go.Proofs.Ytmahpmjkejnkfaa
set_option linter.unusedVariables false

def putAt (x : Int) : List Int → Nat
  | [] => 0
  | y :: l => if y < x then putAt x l + 1 else 0
def putL (l : List Int) (x : Int) : List Int := if l[putAt x l]? = some x then l else l.take (putAt x l) ++ [x] ++ l.drop (putAt x l)
def Rise (l : List Int) : Prop := l.Pairwise (· < ·)
theorem putAt_le (x : Int) : ∀ l, putAt x l ≤ l.length
  | [] => Nat.le_refl _
  | y :: l => by unfold putAt; split <;> simp [putAt_le x l]
theorem putAt_lt {x : Int} : ∀ {l : List Int} {k : Nat} (h : k < l.length), k < putAt x l → l[k] < x
  | [], k, h, hk => absurd h (Nat.not_lt_zero _)
  | y :: l, k, h, hk => by
    unfold putAt at hk
    split at hk
    · rename_i hy
      cases k with
      | zero => exact hy
      | succ k => exact putAt_lt (l := l) (by simpa using h) (by omega)
    · exact absurd hk (Nat.not_lt_zero _)
theorem putAt_ge {x : Int} : ∀ {l : List Int} (h : putAt x l < l.length), x ≤ l[putAt x l]
  | [], h => absurd h (Nat.not_lt_zero _)
  | y :: l, h => by
    by_cases hy : y < x
    · have e : putAt x (y :: l) = putAt x l + 1 := by show (if y < x then _ else _) = _; rw [if_pos hy]
      have h2 : putAt x l < l.length := by rw [e] at h; simpa using h
      have := putAt_ge (l := l) h2
      simp only [e, List.getElem_cons_succ]
      exact this
    · have e : putAt x (y :: l) = 0 := by show (if y < x then _ else _) = _; rw [if_neg hy]
      simp only [e, List.getElem_cons_zero]
      omega
/- The place is told by what holds ahead of it and at it. -/
theorem putAt_is {x : Int} {l : List Int} {k : Nat} (hk : k ≤ l.length) (h1 : ∀ j (hj : j < l.length), j < k → l[j] < x) (h2 : ∀ h : k < l.length, x ≤ l[k]) : putAt x l = k := by
  have hl := putAt_le x l
  by_cases h3 : putAt x l < k
  · have := putAt_ge (x := x) (l := l) (by omega)
    have := h1 _ (show putAt x l < l.length by omega) h3
    omega
  · by_cases h4 : k < putAt x l
    · have a1 := putAt_lt (x := x) (l := l) (show k < l.length by omega) h4
      have a2 := h2 (by omega)
      omega
    · omega
theorem rise_ext : ∀ (a b : List Int), Rise a → Rise b → (∀ x, x ∈ a ↔ x ∈ b) → a = b
  | [], [], _, _, _ => rfl
  | [], y :: b, _, _, h => by have := (h y).2 (List.mem_cons_self ..); cases this
  | x :: a, [], _, _, h => by have := (h x).1 (List.mem_cons_self ..); cases this
  | x :: a, y :: b, ha, hb, h => by
    obtain ⟨a1, a2⟩ := List.pairwise_cons.1 ha
    obtain ⟨b1, b2⟩ := List.pairwise_cons.1 hb
    have e : x = y := by
      rcases List.mem_cons.1 ((h x).1 (List.mem_cons_self ..)) with h1 | h1
      · exact h1
      · rcases List.mem_cons.1 ((h y).2 (List.mem_cons_self ..)) with h2 | h2
        · exact h2.symm
        · have := b1 x h1
          have := a1 y h2
          omega
    subst e
    refine congrArg _ (rise_ext a b a2 b2 fun z => ⟨fun hz => ?_, fun hz => ?_⟩)
    · rcases List.mem_cons.1 ((h z).1 (List.mem_cons_of_mem _ hz)) with h1 | h1
      · have := a1 z hz
        omega
      · exact h1
    · rcases List.mem_cons.1 ((h z).2 (List.mem_cons_of_mem _ hz)) with h1 | h1
      · have := b1 z hz
        omega
      · exact h1
theorem putL_mem (l : List Int) (x z : Int) : z ∈ putL l x ↔ z ∈ l ∨ z = x := by
  unfold putL
  split
  · rename_i h
    obtain ⟨h1, h2⟩ := List.getElem?_eq_some_iff.1 h
    refine ⟨.inl, fun hz => hz.elim id (fun e => ?_)⟩
    rw [e, ← h2]
    exact List.getElem_mem h1
  · have e : z ∈ l ↔ z ∈ l.take (putAt x l) ∨ z ∈ l.drop (putAt x l) := by rw [← List.mem_append, List.take_append_drop]
    rw [List.mem_append, List.mem_append, List.mem_singleton, e]
    constructor
    · rintro ((h | h) | h)
      · exact .inl (.inl h)
      · exact .inr h
      · exact .inl (.inr h)
    · rintro ((h | h) | h)
      · exact .inl (.inl h)
      · exact .inr h
      · exact .inl (.inr h)
theorem putL_rise {l : List Int} {x : Int} (h : Rise l) : Rise (putL l x) := by
  unfold putL
  split
  · exact h
  · rename_i hne
    have hd : ∀ z ∈ l.take (putAt x l), z < x := fun z hz => by
      obtain ⟨k, hk, rfl⟩ := List.mem_iff_getElem.1 hz
      rw [List.length_take] at hk
      rw [List.getElem_take]
      exact putAt_lt (by omega) (by omega)
    have hg : ∀ z ∈ l.drop (putAt x l), x < z := fun z hz => by
      obtain ⟨k, hk, rfl⟩ := List.mem_iff_getElem.1 hz
      rw [List.length_drop] at hk
      rw [List.getElem_drop]
      have h0 : putAt x l < l.length := by omega
      have h1 := putAt_ge (x := x) h0
      have h2 : l[putAt x l] ≠ x := fun e => hne (by rw [List.getElem?_eq_getElem h0, e])
      by_cases hk0 : k = 0
      · subst hk0
        simp only [Nat.add_zero]
        omega
      · have := (List.pairwise_iff_getElem.1 h) (putAt x l) (putAt x l + k) h0 (by omega) (by omega)
        omega
    have ht : (l.take (putAt x l)).Pairwise (· < ·) := h.sublist (List.take_sublist ..)
    have hdr : (l.drop (putAt x l)).Pairwise (· < ·) := h.sublist (List.drop_sublist ..)
    show (l.take (putAt x l) ++ [x] ++ l.drop (putAt x l)).Pairwise (· < ·)
    rw [List.append_assoc, List.pairwise_append]
    refine ⟨ht, List.pairwise_cons.2 ⟨hg, hdr⟩, fun a ha b hb => ?_⟩
    rcases List.mem_cons.1 hb with e | hb
    · rw [e]; exact hd a ha
    · have := hd a ha
      have := hg b hb
      omega
def putAll (xs : List Int) : List Int := xs.foldl putL []
theorem putAll_gen : ∀ (xs l : List Int), Rise l → Rise (xs.foldl putL l) ∧ ∀ z, z ∈ xs.foldl putL l ↔ z ∈ l ∨ z ∈ xs
  | [], l, h => ⟨h, fun z => ⟨.inl, fun hz => hz.elim id (fun e => by cases e)⟩⟩
  | x :: xs, l, h => by
    obtain ⟨h1, h2⟩ := putAll_gen xs (putL l x) (putL_rise h)
    refine ⟨h1, fun z => ?_⟩
    show z ∈ xs.foldl putL (putL l x) ↔ _
    rw [h2, putL_mem, List.mem_cons, or_assoc]
theorem putAll_next {xs : List Int} {k : Nat} (hk : k < xs.length) : putAll (xs.take (k + 1)) = putL (putAll (xs.take k)) xs[k] := by
  unfold putAll
  rw [List.take_add_one, List.getElem?_eq_getElem hk, List.foldl_append]
  rfl
theorem putL_len (l : List Int) (x : Int) : (putL l x).length ≤ l.length + 1 := by
  unfold putL
  split
  · omega
  · have := putAt_le x l
    simp only [List.length_append, List.length_take, List.length_drop, List.length_singleton]
    omega
theorem putAll_len : ∀ (xs l : List Int), (xs.foldl putL l).length ≤ l.length + xs.length
  | [], l => by simp
  | x :: xs, l => by
    have h1 := putAll_len xs (putL l x)
    have h2 := putL_len l x
    show (xs.foldl putL (putL l x)).length ≤ _
    simp only [List.length_cons]
    omega
/- Repeats struck out of a sorted row. -/
theorem cmp_rise (d : Array Int) (hs : ∀ i j, i < j → j < d.size → d[i]! ≤ d[j]!) : ∀ m, m ≤ d.size → Rise (Lib.compactUpTo d m) ∧ (∀ z, z ∈ Lib.compactUpTo d m ↔ ∃ j, j < m ∧ d[j]! = z)
  | 0, _ => by
    refine ⟨?_, fun z => ?_⟩
    · show (Lib.compactUpTo d 0).Pairwise (· < ·)
      unfold Lib.compactUpTo
      simp
    · unfold Lib.compactUpTo
      simp
  | m + 1, hm => by
    obtain ⟨h1, h2⟩ := cmp_rise d hs m (by omega)
    rw [Lib.compactUpTo_succ]
    by_cases hk : Lib.keeps d m = true
    · rw [if_pos hk]
      have hk2 : m = 0 ∨ d[m]! ≠ d[m - 1]! := of_decide_eq_true hk
      refine ⟨?_, fun z => ?_⟩
      · show (Lib.compactUpTo d m ++ [d[m]!]).Pairwise (· < ·)
        rw [List.pairwise_append]
        refine ⟨h1, List.pairwise_singleton _ _, fun a ha b hb => ?_⟩
        rw [List.mem_singleton] at hb
        subst hb
        obtain ⟨j, hj, rfl⟩ := (h2 a).1 ha
        have a1 : d[j]! ≤ d[m - 1]! := by
          by_cases e : j = m - 1
          · rw [e]; exact Int.le_refl _
          · exact hs j (m - 1) (by omega) (by omega)
        have a2 : d[m - 1]! ≤ d[m]! := hs (m - 1) m (by omega) (by omega)
        rcases hk2 with e | e
        · omega
        · omega
      · rw [List.mem_append, h2, List.mem_singleton]
        constructor
        · rintro (⟨j, hj, e⟩ | e)
          · exact ⟨j, by omega, e⟩
          · exact ⟨m, by omega, e.symm⟩
        · rintro ⟨j, hj, e⟩
          by_cases hjm : j = m
          · right; rw [← e, hjm]
          · exact .inl ⟨j, by omega, e⟩
    · rw [if_neg hk, List.append_nil]
      refine ⟨h1, fun z => ?_⟩
      rw [h2]
      have hk2 : ¬ (m = 0 ∨ d[m]! ≠ d[m - 1]!) := fun h => hk (decide_eq_true h)
      constructor
      · rintro ⟨j, hj, e⟩
        exact ⟨j, by omega, e⟩
      · rintro ⟨j, hj, e⟩
        by_cases hjm : j = m
        · refine ⟨m - 1, by omega, ?_⟩
          rw [← e, hjm]
          by_cases e2 : d[m]! = d[m - 1]!
          · exact e2.symm
          · exact absurd (.inr e2) hk2
        · exact ⟨j, by omega, e⟩
theorem sort_strike (xs : List Int) : Lib.compact (xs.mergeSort fun x y => decide (x ≤ y)) = putAll xs := by
  have hp : (xs.mergeSort fun x y => decide (x ≤ y)).Perm xs := List.mergeSort_perm ..
  have hsrt : (xs.mergeSort fun x y => decide (x ≤ y)).Pairwise (fun a b => decide (a ≤ b) = true) := List.pairwise_mergeSort (fun a b c h1 h2 => by simp at *; omega) (fun a b => by simp; omega) xs
  generalize (xs.mergeSort fun x y => decide (x ≤ y)) = ys at *
  obtain ⟨r1, r2⟩ := cmp_rise ys.toArray (fun i j hij hj => by
    have hj' : j < ys.length := by simpa using hj
    have := (List.pairwise_iff_getElem.1 hsrt) i j (by omega) hj' hij
    simpa [hj', show i < ys.length by omega] using this) ys.length (by simp)
  obtain ⟨p1, p2⟩ := putAll_gen xs [] List.Pairwise.nil
  refine rise_ext _ _ r1 p1 fun z => ?_
  show z ∈ Lib.compactUpTo ys.toArray ys.length ↔ _
  unfold putAll
  rw [r2, p2, ← hp.mem_iff]
  constructor
  · rintro ⟨j, hj, e⟩
    right
    rw [← e]
    simp [hj]
  · rintro (h | h)
    · cases h
    · obtain ⟨j, hj, e⟩ := List.mem_iff_getElem.1 h
      exact ⟨j, hj, by simpa [hj] using e⟩
end Go.Proofs.Ytmahpmjkejnkfaa
