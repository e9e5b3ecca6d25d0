/- The laws' helpers szInt64S, toInt64S, szHash, toHash: what they answer of a slice of numbers that came in. -/
import Derived.Test.YtdfglpbappeoaabDoorHashB
import Derived.OwnWalk
namespace Go.Proofs.YtdfglpbappeoaabDoor
open Go.RowKit
set_option linter.unusedVariables false

def AI (w : World) (a : Option Addr) (l : List Int) : Prop := ∀ k (h : k < l.length), ∃ b o, a = some ⟨b, o, none⟩ ∧ w.cell? ⟨b, o + k, none⟩ = some (.int .i64 l[k])
theorem AI.below {w w' : World} {a : Option Addr} {l : List Int} (h : AI w a l) (hb : Below w.heap.size w w') : AI w' a l := fun k hk => by
  obtain ⟨b, o, ha, hc⟩ := h k hk
  exact ⟨b, o, ha, (hb.cell (p := ⟨b, o + k, none⟩) (cellLt hc)).trans hc⟩
theorem IAt.set {w : World} {g k : Nat} {l l' : List Int} {x : Int} (h : IAt w (some ⟨g, 0, none⟩) l) (hk : k < l.length) (hl : l' = l.set k x) : IAt (w.setCell ⟨g, k, none⟩ (.int .i64 x)) (some ⟨g, 0, none⟩) l' := fun _ => by
  subst hl
  obtain ⟨g', hg', hc⟩ := h (by intro e; rw [e] at hk; simp at hk)
  injection hg' with hg'
  injection hg' with hg'
  subst hg'
  refine ⟨g, rfl, fun j hj => ?_⟩
  have hj' : j < l.length := by simpa using hj
  rw [World.frozen?_setCell]
  refine ⟨?_, (hc j hj').2⟩
  by_cases hjk : j = k
  · subst hjk
    rw [World.cell?_setCell_same w _ _ (hc j hk).1]
    simp
  · rw [World.cell?_setCell_other w _ _ _ (by intro e; injection e with _ e _; exact hjk e.symm), (hc j hj').1]
    rw [List.getElem_set_ne (fun e => hjk e.symm)]
theorem RowV.setAt {w : World} {g k : Nat} {l l' : List Value} {v : Value} (h : RowV w g l) (hk : k < l.length) (hl : l' = l.set k v) : RowV (w.setCell ⟨g, k, none⟩ v) g l' := by
  subst hl
  obtain ⟨u, hu⟩ : ∃ u, w.cell? ⟨g, k, none⟩ = some u := ⟨l[k], h.cell (List.getElem?_eq_getElem hk)⟩
  refine ⟨fun j x hx => ?_, fun j hj => ⟨?_, ?_⟩⟩
  · rw [Nat.zero_add]
    by_cases hjk : j = k
    · subst hjk
      rw [World.cell?_setCell_same w _ _ hu]
      simpa [hk] using hx
    · rw [World.cell?_setCell_other w _ _ _ (by intro e; injection e with _ e _; exact hjk e.symm)]
      exact h.cell (by rw [← hx, List.getElem?_set_ne (fun e => hjk e.symm)])
  · rw [Nat.zero_add]
    by_cases hjk : j = k
    · subst hjk
      rw [World.cell?_setCell_same w _ _ hu]; rfl
    · rw [World.cell?_setCell_other w _ _ _ (by intro e; injection e with _ e _; exact hjk e.symm)]
      have := (h.ths j (by simpa using hj)).1
      rw [Nat.zero_add] at this
      exact this
  · rw [World.frozen?_setCell]
    exact (h.ths j (by simpa using hj)).2
theorem Tryd.infoNum : (Tryd.prog.info? 2).map (fun i => (i.zero, i.size, i.bytes)) = some (some (.int .i64 0), 1, 8) := by kernel_rfl
theorem made_zeroI (n : Nat) : (madeCells #[Value.int .i64 0] n).toList = (List.replicate n (0 : Int)).map (Value.int .i64) := by
  apply List.ext_getElem
  · simp [madeCells]
  · intro i h1 h2
    simp [madeCells, Nat.mod_one]
theorem IAt.made {w : World} {base e g n : Nat} {xs : List Value} (h : w.ownsRow base e 1 (.slice (some ⟨g, 0, none⟩) n n) n xs) (hx : xs = (List.replicate n (0 : Int)).map (Value.int .i64)) : IAt w (some ⟨g, 0, none⟩) (List.replicate n 0) := by
  rcases h.2 with ⟨h1, _⟩ | ⟨g', cap, cur, hv, hbg, hg, hnc, hcm, hcs, htake⟩
  · simp at h1
  · simp at hv
    obtain ⟨rfl, rfl⟩ := hv
    have : cur.toList = xs := by rw [← htake, List.take_of_length_le (by simp [hcs])]
    refine IAt.of_block (t := e) ?_
    rw [hg, ← hx, ← this]
theorem copy_set (l : List Int) {k : Nat} (hk : k < l.length) : l.take (k + 1) ++ List.replicate (l.length - (k + 1)) 0 = (l.take k ++ List.replicate (l.length - k) 0).set k l[k] := by
  rw [List.set_append_right _ _ (by rw [List.length_take]; omega), List.length_take, Nat.min_eq_left (by omega), Nat.sub_self]
  obtain ⟨d, hd⟩ : ∃ d, l.length - k = d + 1 := ⟨l.length - k - 1, by omega⟩
  rw [hd, show l.length - (k + 1) = d by omega, List.replicate_succ, List.set_cons_zero, List.take_succ_eq_append_getElem hk, List.append_assoc]
  rfl

set_option maxRecDepth 100000 in
set_option maxHeartbeats 1000000 in
theorem toI_any (a : Option Addr) (c n : Nat) (l : List Int) (w : World) (hn : l.length = n) (h : AI w a l) (hb : n ≤ 1048576) :
    Calls Tryd.prog 156 #[.slice a n c] w fun e w' => e = .returned (.slice (some ⟨w.heap.size, 0, none⟩) n n) ∧ IAt w' (some ⟨w.heap.size, 0, none⟩) l ∧ Below w.heap.size w w' ∧ w.heap.size < w'.heap.size := by
  have HA : Hid (AI w a l) := h
  have HN : Hid (l.length = n) := hn
  clear h hn
  obtain ⟨i0, hi, hz0, hz1, hz2⟩ := info_parts Tryd.infoNum
  go_enter Tryd.func156, Tryd.ntmps156
  go_wp2_with (first
    | (at_make; refine wpList_make_full _ rfl _ _ 72 rfl w.heap.size 2 i0 (.int .i64 0) 1 Tryd.underlying72 hi hz0 hz1 _ _ _ _ n rfl rfl (by omega) (by omega) (by rw [hz2]; omega) (by unfold maxLen; omega) (Nat.le_refl _) ?_))
  intro w1 hown1 hgr1
  have HI1 : Hid (IAt w1 (some ⟨w.heap.size, 0, none⟩) (l.take 0 ++ List.replicate (l.length - 0) 0)) := by
    rw [HN.out]
    exact IAt.made hown1 (made_zeroI _)
  have HL1 : Hid (w.heap.size < w1.heap.size) := (hown1.lt w.heap.size rfl).2
  have hb1 : Below w.heap.size w w1 := (Below.refl _ _).grown hgr1 (Nat.le_refl _) (fun _ h => by cases h)
  clear hown1 hgr1 hi hz0 hz1 hz2
  go_wp2_with fail
  go_loopw [4] (fun i wr => ∃ k : Nat, i = .int .i64 (k : Int) ∧ k ≤ n ∧ IAt wr (some ⟨w.heap.size, 0, none⟩) (l.take k ++ List.replicate (l.length - k) 0) ∧ Below w.heap.size w wr ∧ w.heap.size < wr.heap.size) (fun i _ => n - (intOf i).toNat)
  case atStart => exact ⟨0, rfl, Nat.zero_le _, HI1.out, hb1, HL1.out⟩
  case round =>
    obtain ⟨k, rfl, hk, hI, hB, hL⟩ := hrel
    have H8 : Hid (IAt wr (some ⟨w.heap.size, 0, none⟩) (l.take k ++ List.replicate (l.length - k) 0) ∧ Below w.heap.size w wr ∧ w.heap.size < wr.heap.size) := ⟨hI, hB, hL⟩
    by_cases hlt : k < n
    · have hkl : k < l.length := by have := HN.out; omega
      have hlen : k < (l.take k ++ List.replicate (l.length - k) 0).length := by simp; omega
      obtain ⟨b, o, rfl, ca⟩ := HA.out.below hB k hkl
      obtain ⟨g', hg', hc⟩ := hI (by intro e; rw [e] at hlen; simp at hlen)
      injection hg' with hg'
      injection hg' with hg'
      subst hg'
      have cg := (hc k hlen).1
      have hfz := (hc k hlen).2
      generalize (l.take k ++ List.replicate (l.length - k) 0)[k] = y at cg
      have HS : Hid (True → l.take (k + 1) ++ List.replicate (l.length - (k + 1)) 0 = (l.take k ++ List.replicate (l.length - k) 0).set k l[k]) := fun _ => copy_set l hkl
      generalize l[k] = x at *
      have H9 : Hid (IAt (wr.setCell ⟨w.heap.size, k, none⟩ (.int .i64 x)) (some ⟨w.heap.size, 0, none⟩) (l.take (k + 1) ++ List.replicate (l.length - (k + 1)) 0) ∧ Below w.heap.size w (wr.setCell ⟨w.heap.size, k, none⟩ (.int .i64 x)) ∧ w.heap.size < (wr.setCell ⟨w.heap.size, k, none⟩ (.int .i64 x)).heap.size) :=
        ⟨H8.out.1.set hlen (HS.out trivial), H8.out.2.1.setCell (Nat.le_refl _) _, by rw [World.size_setCell]; exact hL⟩
      have lk : (k : Int) < n := by omega
      have l0 : (0 : Int) ≤ k := by omega
      clear hI hB hL hc hlen hkl H8 HI1 HA hb1
      go_wp2
      go_roundw
      case rel => exact ⟨k + 1, by go_num, hlt, H9.out.1, H9.out.2.1, H9.out.2.2⟩
      case measure => simp [intOf]; omega
    · obtain rfl : k = n := by omega
      go_wp2
      go_ret
      refine ⟨rfl, ?_, hB, hL⟩
      have := H8.out.1
      rw [List.take_of_length_le (by have := HN.out; omega), show l.length - k = 0 by have := HN.out; omega, List.replicate_zero, List.append_nil] at this
      exact this
end Go.Proofs.YtdfglpbappeoaabDoor
