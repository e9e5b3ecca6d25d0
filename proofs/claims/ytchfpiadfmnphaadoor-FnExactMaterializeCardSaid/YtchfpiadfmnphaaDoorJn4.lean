/- szHash and toHash: what they answer of a Hash that came in. HashRight of both sides: one answer. -/
import Derived.Test.YtchfpiadfmnphaaDoorJn18
namespace Go.Proofs.YtchfpiadfmnphaaDoor
open Go.RowKit
set_option linter.unusedVariables false
theorem RowV.far {w : World} {g b k : Nat} {l : List Value} {v : Value} (h : RowV w g l) (hne : g ≠ b) : RowV (w.setCell ⟨b, k, none⟩ v) g l :=
  h.same fun j => ⟨World.cell?_setCell_other w _ _ v (by intro e; injection e with e _ _; exact hne e.symm), World.frozen?_setCell ..⟩
theorem IAt.far {w : World} {g b k : Nat} {l : List Int} {v : Value} (h : IAt w (some ⟨g, 0, none⟩) l) (hne : g ≠ b) : IAt (w.setCell ⟨b, k, none⟩ v) (some ⟨g, 0, none⟩) l := fun hl => by
  obtain ⟨g', hg', hc⟩ := h hl
  injection hg' with hg'
  injection hg' with hg'
  subst hg'
  exact ⟨g, rfl, fun j hj => ⟨(World.cell?_setCell_other w _ _ v (by intro e; injection e with e _ _; exact hne e.symm)).trans (hc j hj).1, by rw [World.frozen?_setCell]; exact (hc j hj).2⟩⟩
def room (n m : Nat) : Int := if n ≤ 1048576 ∧ n + m ≤ 1048576 then 1048576 - n - m else -1
end Go.Proofs.YtchfpiadfmnphaaDoor
namespace Go.Proofs.YtchfpiadfmnphaaDoor
open Go.RowKit
set_option linter.unusedVariables false

def okN (x : Int) : Prop := 0 ≤ x ∧ x ≤ 4294967295
def Right (l : List Int) (s : ByteArray) (z : Int) : Prop := l.length = 8 ∧ 0 ≤ z ∧ z ≤ 1099511627776 ∧ (s.size : Int) = z.tmod 64 ∧ ∀ x ∈ l, okN x
def rightB (l : List Int) (s : ByteArray) (z : Int) : Bool := decide (l.length = 8 ∧ 0 ≤ z ∧ z ≤ 1099511627776 ∧ (s.size : Int) = z.tmod 64 ∧ ∀ x ∈ l, 0 ≤ x ∧ x ≤ 4294967295)
theorem right_yes {l : List Int} {s : ByteArray} {z : Int} (h : Right l s z) : rightB l s z = true := decide_eq_true h
theorem right_no {l : List Int} {s : ByteArray} {z : Int} (h : ¬ Right l s z) : rightB l s z = false := decide_eq_false h
theorem right_of {l : List Int} {s : ByteArray} {z : Int} (h : rightB l s z = true) : Right l s z := by have h2 := of_decide_eq_true (show decide (l.length = 8 ∧ 0 ≤ z ∧ z ≤ 1099511627776 ∧ (s.size : Int) = z.tmod 64 ∧ ∀ x ∈ l, 0 ≤ x ∧ x ≤ 4294967295) = true from h); exact h2
theorem ret_bool {a b : Bool} (h : a = b) : Ending.returned (.bool a) = .returned (.bool b) := by rw [h]
theorem take_all {l : List Int} {k : Nat} (hk : k < l.length) (h : ∀ x ∈ l.take k, okN x) (hx : okN l[k]) : ∀ x ∈ l.take (k + 1), okN x := by
  intro x hx'
  rw [List.take_succ_eq_append_getElem hk] at hx'
  rcases List.mem_append.1 hx' with h1 | h1
  · exact h x h1
  · simp at h1; subst h1; exact hx

set_option maxRecDepth 100000 in
set_option maxHeartbeats 1000000 in
theorem rightI_any (a : Option Addr) (c n : Nat) (l : List Int) (s : ByteArray) (z : Int) (w : World) (hn : l.length = n) (h : IAt w a l) (hb : n ≤ 1000000000) (hs : s.size ≤ maxLen) :
    Calls Tryd.prog 86 #[HVal a n c s z] w fun e w' => e = .returned (.bool (rightB l s z)) ∧ Below w.heap.size w w' := by
  unfold maxLen at hs
  have HI : Hid (IAt w a l) := h
  have HN : Hid (l.length = n) := hn
  have HB : Hid (∀ w1, RowV w1 w.heap.size (hvs a n c s z) → w1.cell? ⟨w.heap.size, 0, none⟩ = some (.slice a n c) ∧ w1.cell? ⟨w.heap.size, 1, none⟩ = some (.string s) ∧ w1.cell? ⟨w.heap.size, 2, none⟩ = some (.int .i64 z)) := fun w1 h => ⟨h.cell (k := 0) rfl, h.cell (k := 1) rfl, h.cell (k := 2) rfl⟩
  clear h hn
  by_cases h8 : n = 8
  · subst h8
    by_cases hz0 : z < 0
    · have HF : Hid (True → rightB l s z = false) := fun _ => right_no (fun e => by have := e.2.1; omega)
      go_enter Tryd.func86, Tryd.ntmps86
      go_wp2_with (first | (with_reducible refine wpList_boxV (w := w) (by with_unfolding_all rfl) 77 (.tmp 0) (by with_unfolding_all rfl) (hvs a 8 c s z) (by with_unfolding_all rfl) ?_; intro w1 hA1 hB1 hS1; obtain ⟨p0, p1, p2⟩ := HB.out w1 hA1))
      go_ret
      exact ⟨ret_bool (HF.out trivial).symm, hB1⟩
    by_cases hz1 : 1099511627776 < z
    · have HF : Hid (True → rightB l s z = false) := fun _ => right_no (fun e => by have := e.2.2.1; omega)
      go_enter Tryd.func86, Tryd.ntmps86
      go_wp2_with (first | (with_reducible refine wpList_boxV (w := w) (by with_unfolding_all rfl) 77 (.tmp 0) (by with_unfolding_all rfl) (hvs a 8 c s z) (by with_unfolding_all rfl) ?_; intro w1 hA1 hB1 hS1; obtain ⟨p0, p1, p2⟩ := HB.out w1 hA1))
      go_ret
      exact ⟨ret_bool (HF.out trivial).symm, hB1⟩
    have HT : Hid ((∀ x ∈ l, okN x) → rightB l s z = decide ((s.size : Int) = z.tmod 64)) := fun hall => by
      by_cases he : (s.size : Int) = z.tmod 64
      · rw [decide_eq_true he]; exact right_yes ⟨HN.out, by omega, by omega, he, hall⟩
      · rw [decide_eq_false he]; exact right_no (fun e => he e.2.2.2.1)
    have HF : Hid (∀ x ∈ l, ¬ okN x → rightB l s z = false) := fun x hx hk => right_no (fun e => hk (e.2.2.2.2 x hx))
    go_enter Tryd.func86, Tryd.ntmps86
    go_wp2_with (first | (with_reducible refine wpList_boxV (w := w) (by with_unfolding_all rfl) 77 (.tmp 0) (by with_unfolding_all rfl) (hvs a 8 c s z) (by with_unfolding_all rfl) ?_; intro w1 hA1 hB1 hS1; obtain ⟨p0, p1, p2⟩ := HB.out w1 hA1))
    have HI1 : Hid (IAt w1 a l) := HI.out.below hB1
    have HB1 : Hid (Below w.heap.size w w1) := hB1
    clear HB HI hA1 hB1 hS1
    go_loopw [22] (fun i wr => ∃ k : Nat, i = .int .i64 (k : Int) ∧ k ≤ 8 ∧ (∀ x ∈ l.take k, okN x) ∧ wr = w1) (fun i _ => 8 - (intOf i).toNat)
    case atStart => exact ⟨0, rfl, Nat.zero_le _, fun x h => by simp at h, rfl⟩
    case round =>
      obtain ⟨k, rfl, hk, hall, rfl⟩ := hrel
      have HA : Hid (∀ x ∈ l.take k, okN x) := hall
      clear hall
      by_cases hlt : k < 8
      · have hkl : k < l.length := by have := HN.out; omega
        obtain ⟨g, rfl, hc⟩ := HI1.out (by intro e; rw [e] at hkl; simp at hkl)
        have d := (hc k hkl).1
        have HX : Hid (l[k] ∈ l) := List.getElem_mem hkl
        have HNx : Hid (okN l[k] → ∀ x ∈ l.take (k + 1), okN x) := fun h => take_all hkl HA.out h
        generalize l[k] = x at *
        have lk : (k : Int) < 8 := by omega
        have l0 : (0 : Int) ≤ k := by omega
        clear hc hkl
        by_cases hx0 : x < 0
        · have HF2 : Hid (True → rightB l s z = false) := fun _ => HF.out x HX.out (fun e => by have := e.1; omega)
          go_wp2
          go_ret
          exact ⟨ret_bool (HF2.out trivial).symm, HB1.out⟩
        by_cases hx1 : 4294967295 < x
        · have HF2 : Hid (True → rightB l s z = false) := fun _ => HF.out x HX.out (fun e => by have := e.2; omega)
          go_wp2
          go_ret
          exact ⟨ret_bool (HF2.out trivial).symm, HB1.out⟩
        have HO : Hid (okN x) := ⟨by omega, by omega⟩
        go_wp2
        go_roundw
        case rel => exact ⟨k + 1, by go_num, hlt, HNx.out HO.out, trivial⟩
        case measure => simp [intOf]; omega
      · obtain rfl : k = 8 := by omega
        have HD : Hid (True → rightB l s z = decide ((s.size : Int) = z.tmod 64)) := fun _ => HT.out (by have := HA.out; rw [List.take_of_length_le (by have := HN.out; omega)] at this; exact this)
        go_wp2
        go_ret
        refine ⟨?_, HB1.out⟩
        refine ret_bool ?_
        rw [HD.out trivial, Int.tmod_eq_emod_of_nonneg (by omega)]
        by_cases he : (s.size : Int) = z % 64 <;> simp [he]
  · have HF : Hid (True → rightB l s z = false) := fun _ => right_no (fun e => h8 (by have := e.1; have := HN.out; omega))
    have h8' : ((n : Int) == 8) = false := by simp; omega
    have h8'' : ((n : Int) != 8) = true := by simp; omega
    go_enter Tryd.func86, Tryd.ntmps86
    go_wp2_with (first | (with_reducible refine wpList_boxV (w := w) (by with_unfolding_all rfl) 77 (.tmp 0) (by with_unfolding_all rfl) (hvs a n c s z) (by with_unfolding_all rfl) ?_; intro w1 hA1 hB1 hS1; obtain ⟨p0, p1, p2⟩ := HB.out w1 hA1))
    go_ret
    exact ⟨ret_bool (HF.out trivial).symm, hB1⟩
end Go.Proofs.YtchfpiadfmnphaaDoor
