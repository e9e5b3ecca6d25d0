/- The laws' helpers szInt64S, toInt64S, szHash, toHash: what they answer of a slice of numbers that came in. szHash and toHash: what they answer of a Hash that came in. HashRight of both sides: one answer. -/
import Derived.Test.YtdfglpbappeoaabDoorHashB
import Derived.OwnWalk
namespace Go.Proofs.YtdfglpbappeoaabDoor
open Go.RowKit
set_option linter.unusedVariables false

def AI (w : World) (a : Option Addr) (l : List Int) : Prop := ∀ k (h : k < l.length), ∃ b o, a = some ⟨b, o, none⟩ ∧ w.cell? ⟨b, o + k, none⟩ = some (.int .i64 l[k])
theorem AI.below {w w' : World} {a : Option Addr} {l : List Int} (h : AI w a l) (hb : Below w.heap.size w w') : AI w' a l := fun k hk => by
  obtain ⟨b, o, ha, hc⟩ := h k hk
  exact ⟨b, o, ha, (hb.cell (p := ⟨b, o + k, none⟩) (cellLt hc)).trans hc⟩
theorem IAt.set {w : World} {g k : Nat} {l l' : List Int} {x : Int} (h : IAt w (some ⟨g, 0, none⟩) l) (hk : k < l.length) (hl : l' = l.set k x) : IAt (w.setCell ⟨g, k, none⟩ (.int .i64 x)) (some ⟨g, 0, none⟩) l' := fun _ => by
  subst hl
  obtain ⟨g', hg', hc⟩ := h (by intro e; rw [e] at hk; simp at hk)
  injection hg' with hg'
  injection hg' with hg'
  subst hg'
  refine ⟨g, rfl, fun j hj => ?_⟩
  have hj' : j < l.length := by simpa using hj
  rw [World.frozen?_setCell]
  refine ⟨?_, (hc j hj').2⟩
  by_cases hjk : j = k
  · subst hjk
    rw [World.cell?_setCell_same w _ _ (hc j hk).1]
    simp
  · rw [World.cell?_setCell_other w _ _ _ (by intro e; injection e with _ e _; exact hjk e.symm), (hc j hj').1]
    rw [List.getElem_set_ne (fun e => hjk e.symm)]
theorem RowV.setAt {w : World} {g k : Nat} {l l' : List Value} {v : Value} (h : RowV w g l) (hk : k < l.length) (hl : l' = l.set k v) : RowV (w.setCell ⟨g, k, none⟩ v) g l' := by
  subst hl
  obtain ⟨u, hu⟩ : ∃ u, w.cell? ⟨g, k, none⟩ = some u := ⟨l[k], h.cell (List.getElem?_eq_getElem hk)⟩
  refine ⟨fun j x hx => ?_, fun j hj => ⟨?_, ?_⟩⟩
  · rw [Nat.zero_add]
    by_cases hjk : j = k
    · subst hjk
      rw [World.cell?_setCell_same w _ _ hu]
      simpa [hk] using hx
    · rw [World.cell?_setCell_other w _ _ _ (by intro e; injection e with _ e _; exact hjk e.symm)]
      exact h.cell (by rw [← hx, List.getElem?_set_ne (fun e => hjk e.symm)])
  · rw [Nat.zero_add]
    by_cases hjk : j = k
    · subst hjk
      rw [World.cell?_setCell_same w _ _ hu]; rfl
    · rw [World.cell?_setCell_other w _ _ _ (by intro e; injection e with _ e _; exact hjk e.symm)]
      have := (h.ths j (by simpa using hj)).1
      rw [Nat.zero_add] at this
      exact this
  · rw [World.frozen?_setCell]
    exact (h.ths j (by simpa using hj)).2
theorem Tryd.infoNum : (Tryd.prog.info? 2).map (fun i => (i.zero, i.size, i.bytes)) = some (some (.int .i64 0), 1, 8) := by kernel_rfl
theorem made_zeroI (n : Nat) : (madeCells #[Value.int .i64 0] n).toList = (List.replicate n (0 : Int)).map (Value.int .i64) := by
  apply List.ext_getElem
  · simp [madeCells]
  · intro i h1 h2
    simp [madeCells, Nat.mod_one]
theorem IAt.made {w : World} {base e g n : Nat} {xs : List Value} (h : w.ownsRow base e 1 (.slice (some ⟨g, 0, none⟩) n n) n xs) (hx : xs = (List.replicate n (0 : Int)).map (Value.int .i64)) : IAt w (some ⟨g, 0, none⟩) (List.replicate n 0) := by
  rcases h.2 with ⟨h1, _⟩ | ⟨g', cap, cur, hv, hbg, hg, hnc, hcm, hcs, htake⟩
  · simp at h1
  · simp at hv
    obtain ⟨rfl, rfl⟩ := hv
    have : cur.toList = xs := by rw [← htake, List.take_of_length_le (by simp [hcs])]
    refine IAt.of_block (t := e) ?_
    rw [hg, ← hx, ← this]
theorem copy_set (l : List Int) {k : Nat} (hk : k < l.length) : l.take (k + 1) ++ List.replicate (l.length - (k + 1)) 0 = (l.take k ++ List.replicate (l.length - k) 0).set k l[k] := by
  rw [List.set_append_right _ _ (by rw [List.length_take]; omega), List.length_take, Nat.min_eq_left (by omega), Nat.sub_self]
  obtain ⟨d, hd⟩ : ∃ d, l.length - k = d + 1 := ⟨l.length - k - 1, by omega⟩
  rw [hd, show l.length - (k + 1) = d by omega, List.replicate_succ, List.set_cons_zero, List.take_succ_eq_append_getElem hk, List.append_assoc]
  rfl

set_option maxRecDepth 100000 in
set_option maxHeartbeats 1000000 in
theorem toI_any (a : Option Addr) (c n : Nat) (l : List Int) (w : World) (hn : l.length = n) (h : AI w a l) (hb : n ≤ 1048576) :
    Calls Tryd.prog 156 #[.slice a n c] w fun e w' => e = .returned (.slice (some ⟨w.heap.size, 0, none⟩) n n) ∧ IAt w' (some ⟨w.heap.size, 0, none⟩) l ∧ Below w.heap.size w w' ∧ w.heap.size < w'.heap.size := by
  have HA : Hid (AI w a l) := h
  have HN : Hid (l.length = n) := hn
  clear h hn
  obtain ⟨i0, hi, hz0, hz1, hz2⟩ := info_parts Tryd.infoNum
  go_enter Tryd.func156, Tryd.ntmps156
  go_wp2_with (first
    | (at_make; refine wpList_make_full _ rfl _ _ 72 rfl w.heap.size 2 i0 (.int .i64 0) 1 Tryd.underlying72 hi hz0 hz1 _ _ _ _ n rfl rfl (by omega) (by omega) (by rw [hz2]; omega) (by unfold maxLen; omega) (Nat.le_refl _) ?_))
  intro w1 hown1 hgr1
  have HI1 : Hid (IAt w1 (some ⟨w.heap.size, 0, none⟩) (l.take 0 ++ List.replicate (l.length - 0) 0)) := by
    rw [HN.out]
    exact IAt.made hown1 (made_zeroI _)
  have HL1 : Hid (w.heap.size < w1.heap.size) := (hown1.lt w.heap.size rfl).2
  have hb1 : Below w.heap.size w w1 := (Below.refl _ _).grown hgr1 (Nat.le_refl _) (fun _ h => by cases h)
  clear hown1 hgr1 hi hz0 hz1 hz2
  go_wp2_with fail
  go_loopw [4] (fun i wr => ∃ k : Nat, i = .int .i64 (k : Int) ∧ k ≤ n ∧ IAt wr (some ⟨w.heap.size, 0, none⟩) (l.take k ++ List.replicate (l.length - k) 0) ∧ Below w.heap.size w wr ∧ w.heap.size < wr.heap.size) (fun i _ => n - (intOf i).toNat)
  case atStart => exact ⟨0, rfl, Nat.zero_le _, HI1.out, hb1, HL1.out⟩
  case round =>
    obtain ⟨k, rfl, hk, hI, hB, hL⟩ := hrel
    have H8 : Hid (IAt wr (some ⟨w.heap.size, 0, none⟩) (l.take k ++ List.replicate (l.length - k) 0) ∧ Below w.heap.size w wr ∧ w.heap.size < wr.heap.size) := ⟨hI, hB, hL⟩
    by_cases hlt : k < n
    · have hkl : k < l.length := by have := HN.out; omega
      have hlen : k < (l.take k ++ List.replicate (l.length - k) 0).length := by simp; omega
      obtain ⟨b, o, rfl, ca⟩ := HA.out.below hB k hkl
      obtain ⟨g', hg', hc⟩ := hI (by intro e; rw [e] at hlen; simp at hlen)
      injection hg' with hg'
      injection hg' with hg'
      subst hg'
      have cg := (hc k hlen).1
      have hfz := (hc k hlen).2
      generalize (l.take k ++ List.replicate (l.length - k) 0)[k] = y at cg
      have HS : Hid (True → l.take (k + 1) ++ List.replicate (l.length - (k + 1)) 0 = (l.take k ++ List.replicate (l.length - k) 0).set k l[k]) := fun _ => copy_set l hkl
      generalize l[k] = x at *
      have H9 : Hid (IAt (wr.setCell ⟨w.heap.size, k, none⟩ (.int .i64 x)) (some ⟨w.heap.size, 0, none⟩) (l.take (k + 1) ++ List.replicate (l.length - (k + 1)) 0) ∧ Below w.heap.size w (wr.setCell ⟨w.heap.size, k, none⟩ (.int .i64 x)) ∧ w.heap.size < (wr.setCell ⟨w.heap.size, k, none⟩ (.int .i64 x)).heap.size) :=
        ⟨H8.out.1.set hlen (HS.out trivial), H8.out.2.1.setCell (Nat.le_refl _) _, by rw [World.size_setCell]; exact hL⟩
      have lk : (k : Int) < n := by omega
      have l0 : (0 : Int) ≤ k := by omega
      clear hI hB hL hc hlen hkl H8 HI1 HA hb1
      go_wp2
      go_roundw
      case rel => exact ⟨k + 1, by go_num, hlt, H9.out.1, H9.out.2.1, H9.out.2.2⟩
      case measure => simp [intOf]; omega
    · obtain rfl : k = n := by omega
      go_wp2
      go_ret
      refine ⟨rfl, ?_, hB, hL⟩
      have := H8.out.1
      rw [List.take_of_length_le (by have := HN.out; omega), show l.length - k = 0 by have := HN.out; omega, List.replicate_zero, List.append_nil] at this
      exact this
end Go.Proofs.YtdfglpbappeoaabDoor
namespace Go.Proofs.YtdfglpbappeoaabDoor
open Go.RowKit
set_option linter.unusedVariables false
theorem RowV.far {w : World} {g b k : Nat} {l : List Value} {v : Value} (h : RowV w g l) (hne : g ≠ b) : RowV (w.setCell ⟨b, k, none⟩ v) g l :=
  h.same fun j => ⟨World.cell?_setCell_other w _ _ v (by intro e; injection e with e _ _; exact hne e.symm), World.frozen?_setCell ..⟩
theorem IAt.far {w : World} {g b k : Nat} {l : List Int} {v : Value} (h : IAt w (some ⟨g, 0, none⟩) l) (hne : g ≠ b) : IAt (w.setCell ⟨b, k, none⟩ v) (some ⟨g, 0, none⟩) l := fun hl => by
  obtain ⟨g', hg', hc⟩ := h hl
  injection hg' with hg'
  injection hg' with hg'
  subst hg'
  exact ⟨g, rfl, fun j hj => ⟨(World.cell?_setCell_other w _ _ v (by intro e; injection e with e _ _; exact hne e.symm)).trans (hc j hj).1, by rw [World.frozen?_setCell]; exact (hc j hj).2⟩⟩
def room (n m : Nat) : Int := if n ≤ 1048576 ∧ n + m ≤ 1048576 then 1048576 - n - m else -1
theorem szI_any (a : Option Addr) (c n : Nat) (w : World) (hn : n ≤ maxLen) :
    Calls Tryd.prog 154 #[.slice a n c, .int .i64 1048576] w fun e w' => e = .returned (.int .i64 (if n ≤ 1048576 then 1048576 - n else -1)) ∧ w' = w := by
  unfold maxLen at hn
  by_cases h : n ≤ 1048576
  · rw [if_pos h]
    go_enter Tryd.func154, Tryd.ntmps154
    go_wp2
    go_ret
    exact ⟨rfl, rfl⟩
  · rw [if_neg h]
    have hlt : (1048576 : Int) - n < 0 := by omega
    go_enter Tryd.func154, Tryd.ntmps154
    go_wp2
    go_ret
    exact ⟨rfl, rfl⟩
end Go.Proofs.YtdfglpbappeoaabDoor
namespace Go.Proofs.YtdfglpbappeoaabDoor
open Go.RowKit
set_option linter.unusedVariables false

def okN (x : Int) : Prop := 0 ≤ x ∧ x ≤ 4294967295
def Right (l : List Int) (s : ByteArray) (z : Int) : Prop := l.length = 8 ∧ 0 ≤ z ∧ z ≤ 1099511627776 ∧ (s.size : Int) = z.tmod 64 ∧ ∀ x ∈ l, okN x
def rightB (l : List Int) (s : ByteArray) (z : Int) : Bool := decide (l.length = 8 ∧ 0 ≤ z ∧ z ≤ 1099511627776 ∧ (s.size : Int) = z.tmod 64 ∧ ∀ x ∈ l, 0 ≤ x ∧ x ≤ 4294967295)
theorem right_yes {l : List Int} {s : ByteArray} {z : Int} (h : Right l s z) : rightB l s z = true := decide_eq_true h
theorem right_no {l : List Int} {s : ByteArray} {z : Int} (h : ¬ Right l s z) : rightB l s z = false := decide_eq_false h
theorem right_of {l : List Int} {s : ByteArray} {z : Int} (h : rightB l s z = true) : Right l s z := by have h2 := of_decide_eq_true (show decide (l.length = 8 ∧ 0 ≤ z ∧ z ≤ 1099511627776 ∧ (s.size : Int) = z.tmod 64 ∧ ∀ x ∈ l, 0 ≤ x ∧ x ≤ 4294967295) = true from h); exact h2
theorem ret_bool {a b : Bool} (h : a = b) : Ending.returned (.bool a) = .returned (.bool b) := by rw [h]
theorem take_all {l : List Int} {k : Nat} (hk : k < l.length) (h : ∀ x ∈ l.take k, okN x) (hx : okN l[k]) : ∀ x ∈ l.take (k + 1), okN x := by
  intro x hx'
  rw [List.take_succ_eq_append_getElem hk] at hx'
  rcases List.mem_append.1 hx' with h1 | h1
  · exact h x h1
  · simp at h1; subst h1; exact hx

set_option maxRecDepth 100000 in
set_option maxHeartbeats 1000000 in
theorem rightI_any (a : Option Addr) (c n : Nat) (l : List Int) (s : ByteArray) (z : Int) (w : World) (hn : l.length = n) (h : IAt w a l) (hb : n ≤ 1000000000) (hs : s.size ≤ maxLen) :
    Calls Tryd.prog 91 #[HVal a n c s z] w fun e w' => e = .returned (.bool (rightB l s z)) ∧ Below w.heap.size w w' := by
  unfold maxLen at hs
  have HI : Hid (IAt w a l) := h
  have HN : Hid (l.length = n) := hn
  have HB : Hid (∀ w1, RowV w1 w.heap.size (hvs a n c s z) → w1.cell? ⟨w.heap.size, 0, none⟩ = some (.slice a n c) ∧ w1.cell? ⟨w.heap.size, 1, none⟩ = some (.string s) ∧ w1.cell? ⟨w.heap.size, 2, none⟩ = some (.int .i64 z)) := fun w1 h => ⟨h.cell (k := 0) rfl, h.cell (k := 1) rfl, h.cell (k := 2) rfl⟩
  clear h hn
  by_cases h8 : n = 8
  · subst h8
    by_cases hz0 : z < 0
    · have HF : Hid (True → rightB l s z = false) := fun _ => right_no (fun e => by have := e.2.1; omega)
      go_enter Tryd.func91, Tryd.ntmps91
      go_wp2_with (first | (with_reducible refine wpList_boxV (w := w) (by with_unfolding_all rfl) 79 (.tmp 0) (by with_unfolding_all rfl) (hvs a 8 c s z) (by with_unfolding_all rfl) ?_; intro w1 hA1 hB1 hS1; obtain ⟨p0, p1, p2⟩ := HB.out w1 hA1))
      go_ret
      exact ⟨ret_bool (HF.out trivial).symm, hB1⟩
    by_cases hz1 : 1099511627776 < z
    · have HF : Hid (True → rightB l s z = false) := fun _ => right_no (fun e => by have := e.2.2.1; omega)
      go_enter Tryd.func91, Tryd.ntmps91
      go_wp2_with (first | (with_reducible refine wpList_boxV (w := w) (by with_unfolding_all rfl) 79 (.tmp 0) (by with_unfolding_all rfl) (hvs a 8 c s z) (by with_unfolding_all rfl) ?_; intro w1 hA1 hB1 hS1; obtain ⟨p0, p1, p2⟩ := HB.out w1 hA1))
      go_ret
      exact ⟨ret_bool (HF.out trivial).symm, hB1⟩
    have HT : Hid ((∀ x ∈ l, okN x) → rightB l s z = decide ((s.size : Int) = z.tmod 64)) := fun hall => by
      by_cases he : (s.size : Int) = z.tmod 64
      · rw [decide_eq_true he]; exact right_yes ⟨HN.out, by omega, by omega, he, hall⟩
      · rw [decide_eq_false he]; exact right_no (fun e => he e.2.2.2.1)
    have HF : Hid (∀ x ∈ l, ¬ okN x → rightB l s z = false) := fun x hx hk => right_no (fun e => hk (e.2.2.2.2 x hx))
    go_enter Tryd.func91, Tryd.ntmps91
    go_wp2_with (first | (with_reducible refine wpList_boxV (w := w) (by with_unfolding_all rfl) 79 (.tmp 0) (by with_unfolding_all rfl) (hvs a 8 c s z) (by with_unfolding_all rfl) ?_; intro w1 hA1 hB1 hS1; obtain ⟨p0, p1, p2⟩ := HB.out w1 hA1))
    have HI1 : Hid (IAt w1 a l) := HI.out.below hB1
    have HB1 : Hid (Below w.heap.size w w1) := hB1
    clear HB HI hA1 hB1 hS1
    go_loopw [22] (fun i wr => ∃ k : Nat, i = .int .i64 (k : Int) ∧ k ≤ 8 ∧ (∀ x ∈ l.take k, okN x) ∧ wr = w1) (fun i _ => 8 - (intOf i).toNat)
    case atStart => exact ⟨0, rfl, Nat.zero_le _, fun x h => by simp at h, rfl⟩
    case round =>
      obtain ⟨k, rfl, hk, hall, rfl⟩ := hrel
      have HA : Hid (∀ x ∈ l.take k, okN x) := hall
      clear hall
      by_cases hlt : k < 8
      · have hkl : k < l.length := by have := HN.out; omega
        obtain ⟨g, rfl, hc⟩ := HI1.out (by intro e; rw [e] at hkl; simp at hkl)
        have d := (hc k hkl).1
        have HX : Hid (l[k] ∈ l) := List.getElem_mem hkl
        have HNx : Hid (okN l[k] → ∀ x ∈ l.take (k + 1), okN x) := fun h => take_all hkl HA.out h
        generalize l[k] = x at *
        have lk : (k : Int) < 8 := by omega
        have l0 : (0 : Int) ≤ k := by omega
        clear hc hkl
        by_cases hx0 : x < 0
        · have HF2 : Hid (True → rightB l s z = false) := fun _ => HF.out x HX.out (fun e => by have := e.1; omega)
          go_wp2
          go_ret
          exact ⟨ret_bool (HF2.out trivial).symm, HB1.out⟩
        by_cases hx1 : 4294967295 < x
        · have HF2 : Hid (True → rightB l s z = false) := fun _ => HF.out x HX.out (fun e => by have := e.2; omega)
          go_wp2
          go_ret
          exact ⟨ret_bool (HF2.out trivial).symm, HB1.out⟩
        have HO : Hid (okN x) := ⟨by omega, by omega⟩
        go_wp2
        go_roundw
        case rel => exact ⟨k + 1, by go_num, hlt, HNx.out HO.out, trivial⟩
        case measure => simp [intOf]; omega
      · obtain rfl : k = 8 := by omega
        have HD : Hid (True → rightB l s z = decide ((s.size : Int) = z.tmod 64)) := fun _ => HT.out (by have := HA.out; rw [List.take_of_length_le (by have := HN.out; omega)] at this; exact this)
        go_wp2
        go_ret
        refine ⟨?_, HB1.out⟩
        refine ret_bool ?_
        rw [HD.out trivial, Int.tmod_eq_emod_of_nonneg (by omega)]
        by_cases he : (s.size : Int) = z % 64 <;> simp [he]
  · have HF : Hid (True → rightB l s z = false) := fun _ => right_no (fun e => h8 (by have := e.1; have := HN.out; omega))
    have h8' : ((n : Int) == 8) = false := by simp; omega
    have h8'' : ((n : Int) != 8) = true := by simp; omega
    go_enter Tryd.func91, Tryd.ntmps91
    go_wp2_with (first | (with_reducible refine wpList_boxV (w := w) (by with_unfolding_all rfl) 79 (.tmp 0) (by with_unfolding_all rfl) (hvs a n c s z) (by with_unfolding_all rfl) ?_; intro w1 hA1 hB1 hS1; obtain ⟨p0, p1, p2⟩ := HB.out w1 hA1))
    go_ret
    exact ⟨ret_bool (HF.out trivial).symm, hB1⟩
end Go.Proofs.YtdfglpbappeoaabDoor
