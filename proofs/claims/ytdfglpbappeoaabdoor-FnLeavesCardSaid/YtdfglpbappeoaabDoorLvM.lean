/- What is proved of a tree passes its check: the mathematics of the promise on leaves and beginnings. -/
import Derived.Test.YtdfglpbappeoaabDoorPrf
import Derived.Test.YtdfglpbappeoaabDoorCon
namespace Go.Proofs.YtdfglpbappeoaabDoor
open Go.RowKit
set_option linter.unusedVariables false

theorem pthT_hs : ∀ (m : Nat) (l : List ByteArray) (i : Nat), l.length ≤ m → ∀ x ∈ pthT l i, x.size = 32
  | 0, l, i, h, x, hx => by rw [pthT_one (by omega)] at hx; simp at hx
  | m + 1, l, i, h, x, hx => by
    by_cases h2 : 2 ≤ l.length
    · have hlt := Mer.half_lt h2
      have hp := Mer.half_pos l.length
      by_cases hi : i < Mer.half l.length
      · rw [pthT_lo h2 hi] at hx
        rcases List.mem_append.1 hx with hx | hx
        · exact pthT_hs m _ _ (by rw [List.length_take]; omega) x hx
        · rw [List.mem_singleton.1 hx]; exact rtT_size _
      · rw [pthT_hi h2 (by omega)] at hx
        rcases List.mem_append.1 hx with hx | hx
        · exact pthT_hs m _ _ (by rw [List.length_drop]; omega) x hx
        · rw [List.mem_singleton.1 hx]; exact rtT_size _
    · rw [pthT_one (by omega)] at hx; simp at hx
theorem prT_hs : ∀ (m : Nat) (l : List ByteArray) (k : Nat) (kn : Bool), l.length ≤ m → 1 ≤ k → k ≤ l.length → ∀ x ∈ prT l k kn, x.size = 32
  | 0, l, k, kn, h, h1, h2, x, hx => by omega
  | m + 1, l, k, kn, h, h1, h2, x, hx => by
    by_cases hk : k = l.length
    · subst hk
      rw [prT_all h1] at hx
      cases kn
      · rw [if_neg (by decide)] at hx; rw [List.mem_singleton.1 hx]; exact rtT_size _
      · rw [if_pos rfl] at hx; simp at hx
    · have hl2 : 2 ≤ l.length := by omega
      have hlt := Mer.half_lt hl2
      have hp := Mer.half_pos l.length
      by_cases hc : k ≤ Mer.half l.length
      · rw [prT_lo h1 (by omega) hc] at hx
        rcases List.mem_append.1 hx with hx | hx
        · exact prT_hs m _ _ _ (by rw [List.length_take]; omega) h1 (by rw [List.length_take]; omega) x hx
        · rw [List.mem_singleton.1 hx]; exact rtT_size _
      · rw [prT_hi h1 (by omega) (by omega)] at hx
        rcases List.mem_append.1 hx with hx | hx
        · exact prT_hs m _ _ _ (by rw [List.length_drop]; omega) (by omega) (by rw [List.length_drop]; omega) x hx
        · rw [List.mem_singleton.1 hx]; exact rtT_size _
theorem rootA_ok {l : List ByteArray} (h : okLv l = true) : rootA l = rtT l := if_pos h
theorem okLv_take {l : List ByteArray} (h : okLv l = true) (k : Nat) : okLv (l.take k) = true := okLv_yes ⟨by have := (okLv_of h).1; rw [List.length_take]; omega, fun x hx => (okLv_of h).2 x (List.mem_of_mem_take hx)⟩
theorem leafA_ok {l : List ByteArray} (h : okLv l = true) {i : Nat} (hi : i < l.length) : leafA l[i] = leafD l[i] := if_pos ((okLv_of h).2 _ (List.getElem_mem hi))
theorem incL_ok {l : List ByteArray} (h : okLv l = true) {i : Nat} (hi : i < l.length) : prfC l 0 (i : Int) = 0 ∧ incL l (i : Int) = pthT l i := by
  have hc : prfC l 0 (i : Int) = 0 := prfC_ok (by have := (okLv_of h).1; omega) h (by omega)
  exact ⟨hc, by unfold incL; rw [if_pos hc, Int.toNat_natCast]⟩
theorem conL_ok {l : List ByteArray} (h : okLv l = true) {k : Nat} (h1 : 1 ≤ k) (h2 : k ≤ l.length) : prfC l 1 (k : Int) = 0 ∧ conL l (k : Int) = prT l k true := by
  have hc : prfC l 1 (k : Int) = 0 := prfC_ok (by have := (okLv_of h).1; omega) h (by omega)
  exact ⟨hc, by unfold conL; rw [if_pos hc, Int.toNat_natCast]⟩
/- Each leaf is shown to be in its tree. -/
theorem inc_true {l : List ByteArray} (h : okLv l = true) {i : Nat} (hi : i < l.length) : incB (leafA l[i]) (i : Int) (l.length : Int) (incL l (i : Int)) (rootA l) = true := by
  have h64 := (okLv_of h).1
  rw [(incL_ok h hi).2, leafA_ok h hi, rootA_ok h]
  have hn := pthT_len (l := l) (by omega) i
  rw [incB_yes ⟨leafD_size _, rtT_size _, by omega, okHs_yes (pthT_hs l.length l i (Nat.le_refl _)), by omega, by omega, by omega, by omega⟩, chkI_run, Int.toNat_natCast, Int.toNat_natCast]
  have hL := Mer.leaf_in nodeD emptyD (l.map leafD) i (by rw [List.length_map]; exact hi)
  rw [List.length_map, List.getD_eq_getElem?_getD, List.getElem?_map, List.getElem?_eq_getElem hi] at hL
  exact ⟨hL.ok, by have := hL.pos; unfold pthT; rw [this], hL.fin⟩
theorem inc_len {l : List ByteArray} (h : okLv l = true) {i : Nat} (hi : i < l.length) : (incL l (i : Int)).length ≤ 6 := by
  rw [(incL_ok h hi).2]
  exact Mer.pth_len nodeD emptyD 6 _ i (by rw [List.length_map]; exact (okLv_of h).1)
theorem con_len {l : List ByteArray} (h : okLv l = true) {k : Nat} (h1 : 1 ≤ k) (h2 : k ≤ l.length) : (conL l (k : Int)).length ≤ 7 := by
  rw [(conL_ok h h1 h2).2]
  exact Mer.pr_len nodeD emptyD 6 _ k true h1 (by rw [List.length_map]; exact h2) (by rw [List.length_map]; exact (okLv_of h).1)
theorem pwB_64 : ∀ k : Nat, k < 65 → 1 ≤ k → pwB (k : Int) = decide (k = 1 ∨ k = 2 ∨ k = 4 ∨ k = 8 ∨ k = 16 ∨ k = 32 ∨ k = 64) := by decide +kernel
theorem pwB_pow {k : Nat} (h1 : 1 ≤ k) (h2 : k ≤ 64) : pwB (k : Int) = true ↔ Mer.IsPow k := by
  rw [pwB_64 k (by omega) h1, decide_eq_true_eq]
  constructor
  · rintro (rfl | rfl | rfl | rfl | rfl | rfl | rfl)
    · exact ⟨0, rfl⟩
    · exact ⟨1, rfl⟩
    · exact ⟨2, rfl⟩
    · exact ⟨3, rfl⟩
    · exact ⟨4, rfl⟩
    · exact ⟨5, rfl⟩
    · exact ⟨6, rfl⟩
  · rintro ⟨j, rfl⟩
    have hj : j ≤ 6 := by
      have : 2 ^ j ≤ 2 ^ 6 := h2
      exact (Nat.pow_le_pow_iff_right (by omega)).1 this
    match j, hj with
    | 0, _ => decide
    | 1, _ => decide
    | 2, _ => decide
    | 3, _ => decide
    | 4, _ => decide
    | 5, _ => decide
    | 6, _ => decide
/- Any first leaves are shown to be its beginning. -/
theorem con_true {l : List ByteArray} (h : okLv l = true) {k : Nat} (h1 : 1 ≤ k) (h2 : k ≤ l.length) : conB (k : Int) (l.length : Int) (conL l (k : Int)) (rootA (l.take k)) (rootA l) = true := by
  have h64 := (okLv_of h).1
  have hn := con_len h h1 h2
  rw [(conL_ok h h1 h2).2] at hn ⊢
  rw [rootA_ok h, rootA_ok (okLv_take h k)]
  rw [conB_yes ⟨rtT_size _, rtT_size _, by omega, okHs_yes (prT_hs l.length l k true (Nat.le_refl _) h1 h2), by omega, by omega, by omega, by omega⟩]
  unfold conR
  by_cases hk : k = l.length
  · subst hk
    rw [if_pos rfl, prT_all h1, if_pos rfl, List.take_of_length_le (Nat.le_refl _), decide_eq_true rfl, decide_eq_true rfl]
    rfl
  rw [if_neg (by omega)]
  obtain ⟨x, ps, e1, hC⟩ := Mer.first_in nodeD emptyD (l.map leafD) k h1 (by rw [List.length_map]; omega)
  rw [List.length_map] at hC
  have hrt : Mer.rt nodeD emptyD ((l.map leafD).take k) = rtT (l.take k) := by unfold rtT; rw [List.map_take]
  have key : conLs (k : Int) (prT l k true) (rtT (l.take k)) = x :: ps := by
    unfold conLs
    rcases Mer.pr_known nodeD emptyD l.length (l.map leafD) k (by rw [List.length_map]; exact Nat.le_refl _) h1 (by rw [List.length_map]; exact h2) with ⟨e2, e3⟩ | ⟨e2, e3⟩
    · rw [if_pos ((pwB_pow h1 (by omega)).2 (e3.resolve_left (by rw [List.length_map]; exact hk))), ← e1, e2, hrt]
      rfl
    · rw [if_neg (fun hp => e3 ((pwB_pow h1 (by omega)).1 hp)), ← e1, ← e2]
      rfl
  rw [key]
  show chkC _ _ ps _ _ x x = true
  rw [chkC_run, Int.toNat_natCast, Int.toNat_natCast]
  exact ⟨hC.lead.ok, by rw [hC.lead.pos], by rw [hC.ga, hrt], hC.lead.fin⟩
end Go.Proofs.YtdfglpbappeoaabDoor
