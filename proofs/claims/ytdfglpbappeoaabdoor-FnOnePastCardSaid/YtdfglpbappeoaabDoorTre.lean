/- The root of a tree of texts, on the specification's side. -/
import Derived.Test.YtdfglpbappeoaabDoorLf
import Derived.Test.YtdfglpbappeoaabDoorJn5
import Derived.Deep.RegionHeld3
namespace Go.Proofs.YtdfglpbappeoaabDoor
open Go.RowKit
set_option linter.unusedVariables false

def rtT (l : List ByteArray) : ByteArray := Mer.rt nodeD emptyD (l.map leafD)
theorem rtT_nil : rtT [] = emptyD := rfl
theorem rtT_one (x : ByteArray) : rtT [x] = leafD x := rfl
theorem rtT_two {l : List ByteArray} (h : 2 ≤ l.length) : rtT l = nodeD (rtT (l.take (Mer.half l.length))) (rtT (l.drop (Mer.half l.length))) := by
  unfold rtT
  rw [Mer.rt_two nodeD emptyD (by rw [List.length_map]; exact h), List.length_map, List.map_take, List.map_drop]
theorem rtT_size (l : List ByteArray) : (rtT l).size = 32 := by
  by_cases h0 : l.length = 0
  · rw [List.length_eq_zero_iff.1 h0, rtT_nil]; exact emptyD_size
  by_cases h1 : l.length = 1
  · match l, h1 with
    | [x], _ => rw [rtT_one]; exact leafD_size x
  · rw [rtT_two (by omega)]; exact nodeD_size _ _
def okLv (l : List ByteArray) : Bool := decide (l.length ≤ 64 ∧ ∀ x ∈ l, x.size < 20000)
theorem okLv_yes {l : List ByteArray} (h : l.length ≤ 64 ∧ ∀ x ∈ l, x.size < 20000) : okLv l = true := decide_eq_true h
theorem okLv_no {l : List ByteArray} (h : ¬ (l.length ≤ 64 ∧ ∀ x ∈ l, x.size < 20000)) : okLv l = false := decide_eq_false h
theorem okLv_of {l : List ByteArray} (h : okLv l = true) : l.length ≤ 64 ∧ ∀ x ∈ l, x.size < 20000 := of_decide_eq_true h
set_option maxRecDepth 100000 in
set_option maxHeartbeats 1000000 in
theorem specHalf (n : Nat) (w : World) (h2 : 2 ≤ n) (hn : n ≤ 1000000) :
    Calls Tryd.prog 90 #[.int .i64 (n : Int)] w fun e w' => e = .returned (.int .i64 (Mer.half n : Int)) ∧ w' = w := by
  have HF : Hid (∀ k j : Nat, k = 2 ^ j → k < n → n ≤ 2 * k → Mer.half n = k) := fun k j e h1 h2 => by subst e; exact Mer.half_uniq h1 h2
  generalize Mer.half n = H at *
  go_enter Tryd.func90, Tryd.ntmps90
  go_wp2_with fail
  go_loop [3] (fun vk => ∃ k : Nat, vk = .int .i64 (k : Int) ∧ 1 ≤ k ∧ k < n ∧ Hid (∃ j, k = 2 ^ j)) (fun vk => n - (intOf vk).toNat)
  case atStart => exact ⟨1, rfl, Nat.le_refl _, by omega, ⟨0, rfl⟩⟩
  case round =>
    obtain ⟨k, rfl, hk1, hk2, HJ⟩ := hrel
    by_cases hlt : 2 * k < n
    · have hi : (2 : Int) * (k : Int) < n := by omega
      have HJ2 : Hid (∃ j, 2 * k = 2 ^ j) := by
        obtain ⟨j, hj⟩ := HJ.out
        exact ⟨j + 1, by rw [Nat.pow_succ, hj, Nat.mul_comm]⟩
      go_wp2
      exact ⟨⟨2 * k, by go_num, by omega, hlt, HJ2⟩, by simp [intOf]; omega⟩
    · have hi : ¬ (2 : Int) * (k : Int) < n := by omega
      have HR : Hid (H = k) := by
        obtain ⟨j, hj⟩ := HJ.out
        exact HF.out k j hj hk2 (by omega)
      go_wp2
      go_ret
      exact ⟨retZ (by rw [HR.out]), rfl⟩
set_option maxRecDepth 100000 in
set_option maxHeartbeats 1000000 in
theorem specRight (a : Option Addr) (c n : Nat) (l : List ByteArray) (w : World) (hn : l.length = n) (h : SA w a l) (hM : n ≤ 1000000000) (hx : ∀ x ∈ l, x.size ≤ maxLen) :
    Calls Tryd.prog 36 #[.slice a n c] w fun e w' => e = .returned (.bool (okLv l)) ∧ w' = w := by
  have HA : Hid (SA w a l) := h
  have HN : Hid (l.length = n) := hn
  have HX : Hid (∀ x ∈ l, x.size ≤ maxLen) := hx
  clear h hn hx
  by_cases hb : 64 < n
  · have HR : Hid (okLv l = false) := okLv_no (fun e => by have := HN.out; have := e.1; omega)
    have d1 : decide ((64 : Int) < n) = true := decide_eq_true (by omega)
    go_enter Tryd.func36, Tryd.ntmps36
    go_wp2
    go_ret
    exact ⟨retY HR.out.symm, rfl⟩
  · have d1 : decide ((64 : Int) < n) = false := decide_eq_false (by omega)
    go_enter Tryd.func36, Tryd.ntmps36
    go_wp2_with fail
    go_loop [3] (fun vi => ∃ k : Nat, vi = .int .i64 (k : Int) ∧ k ≤ n ∧ Hid (∀ x ∈ l.take k, x.size < 20000)) (fun vi => n - (intOf vi).toNat)
    case atStart => exact ⟨0, rfl, Nat.zero_le _, fun x h => by simp at h⟩
    case round =>
      obtain ⟨k, rfl, hk, HT⟩ := hrel
      by_cases hlt : k < n
      · have hkl : k < l.length := by have := HN.out; omega
        obtain ⟨b, o, rfl, hc⟩ := HA.out k hkl
        have hxs := HX.out l[k] (List.getElem_mem hkl)
        have HM : Hid (l[k] ∈ l) := List.getElem_mem hkl
        have HT2 : Hid (l[k].size < 20000 → ∀ x ∈ l.take (k + 1), x.size < 20000) := fun hz x hx => by
          rw [List.take_succ_eq_append_getElem hkl] at hx
          rcases List.mem_append.1 hx with h1 | h1
          · exact HT.out x h1
          · rw [List.mem_singleton.1 h1]; exact hz
        unfold maxLen at hxs
        generalize l[k] = x at *
        have lk : (k : Int) < n := by omega
        have l0 : (0 : Int) ≤ k := by omega
        clear hkl HT
        by_cases hz : x.size < 20000
        · have HT3 : Hid (∀ x ∈ l.take (k + 1), x.size < 20000) := HT2.out hz
          have d2 : decide ((x.size : Int) < 20000) = true := decide_eq_true (by omega)
          clear HT2
          go_wp2
          exact ⟨⟨k + 1, by go_num, hlt, HT3⟩, by simp [intOf]; omega⟩
        · have d2 : decide ((x.size : Int) < 20000) = false := decide_eq_false (by omega)
          have HR : Hid (okLv l = false) := okLv_no (fun e => hz (e.2 x HM.out))
          clear HT2 HM hz
          go_wp2
          go_ret
          exact ⟨retY HR.out.symm, rfl⟩
      · obtain rfl : k = n := by omega
        have HR : Hid (okLv l = true) := okLv_yes ⟨by have := HN.out; omega, by
          have := HT.out
          rw [List.take_of_length_le (by have := HN.out; omega)] at this
          exact this⟩
        clear HT
        go_wp2
        go_ret
        exact ⟨retY HR.out.symm, rfl⟩
/- What stands while a root is made. -/
structure KpR (w : World) (a : Option Addr) (l : List ByteArray) (w' : World) : Prop where
  below : Below w.heap.size w w'
  sa : SA w' a l
theorem KpR.hid {w w' w2 : World} {a : Option Addr} {l : List ByteArray} (h : Hid (KpR w a l w')) (hb : Below w'.heap.size w' w2) : Hid (KpR w a l w2) := ⟨h.out.below.trans (hb.mono h.out.below.size), h.out.sa.below hb⟩
theorem KpR.drew {w w' : World} {a : Option Addr} {l : List ByteArray} (h : Hid (KpR w a l w')) : Hid (KpR w a l w'.drew) := ⟨h.out.below.drew, h.out.sa.drew⟩
theorem KpR.two {w w' : World} {a : Option Addr} {l : List ByteArray} (h : Hid (KpR w a l w')) : True ∧ Hid (KpR w a l w') := ⟨trivial, h⟩
set_option maxRecDepth 100000 in
set_option maxHeartbeats 1000000 in
theorem specRoot : ∀ (m : Nat) (a : Option Addr) (c n : Nat) (l : List ByteArray) (w : World), l.length ≤ m → l.length = n → n ≤ c → SA w a l → n ≤ 1000 → c ≤ 9223372036854775807 → (∀ x ∈ l, x.size < 20000) →
    Calls Tryd.prog 37 #[.slice a n c] w fun e w' => e = .returned (.string (rtT l)) ∧ Below w.heap.size w w'
  | m, a, c, n, l, w, hm, hn, hc, hA, hM, hcM, hx => by
    have hD : ∀ w0, Calls Tryd.prog 88 #[.string ⟨#[]⟩] w0 fun e w' => e = .returned (.string emptyD) ∧ Below w0.heap.size w0 w' := fun w0 => digestS_any ⟨#[]⟩ w0 (by decide)
    by_cases h0 : n = 0
    · have HR : Hid (rtT l = emptyD) := by show _ = _; rw [List.length_eq_zero_iff.1 (hn.trans h0)]; exact rtT_nil
      subst h0
      clear hA hx
      generalize emptyD = E at *
      go_enter Tryd.func37, Tryd.ntmps37
      go_wp2_with (go_at_call 88; refine (hD _).mono ?_; rintro e w1 ⟨rfl, hB1⟩)
      go_ret
      exact ⟨ret_str' HR.out.symm, hB1⟩
    have d0 : ((n : Int) == 0) = false := beq_eq_false_iff_ne.2 (by omega)
    by_cases h1 : n = 1
    · obtain ⟨x, rfl⟩ := List.length_eq_one_iff.1 (hn.trans h1)
      obtain ⟨b, o, rfl, hcell⟩ := hA 0 (by simp)
      have HR : Hid (rtT [x] = leafD x) := rfl
      have hL : ∀ w0, Calls Tryd.prog 89 #[.string x] w0 fun e w' => e = .returned (.string (leafD x)) ∧ Below w0.heap.size w0 w' := fun w0 => specLeaf _ w0 (by have := hx x (by simp); omega)
      have hcell2 : w.cell? ⟨b, o, none⟩ = some (.string x) := hcell
      generalize leafD x = E at *
      generalize rtT [x] = T at *
      subst h1
      clear hA hx hcell hD
      go_enter Tryd.func37, Tryd.ntmps37
      go_wp2_with (go_at_call 89; refine (hL _).mono ?_; rintro e w1 ⟨rfl, hB1⟩)
      go_ret
      exact ⟨ret_str' HR.out.symm, hB1⟩
    have d1 : ((n : Int) == 1) = false := beq_eq_false_iff_ne.2 (by omega)
    have h2 : 2 ≤ n := by omega
    match m, hm with
    | 0, hm => omega
    | m + 1, hm =>
      have hl := Mer.half_lt h2
      have hp := Mer.half_pos n
      obtain ⟨b, o, rfl⟩ := hA.base (by omega)
      have l1 : (l.take (Mer.half n)).length = Mer.half n := by rw [List.length_take]; omega
      have l2 : (l.drop (Mer.half n)).length = n - Mer.half n := by rw [List.length_drop]; omega
      have hR1 : ∀ w0, Hid (KpR w (some ⟨b, o, none⟩) l w0) → Calls Tryd.prog 37 #[.slice (some ⟨b, o, none⟩) (Mer.half n) c] w0 fun e w' => e = .returned (.string (rtT (l.take (Mer.half n)))) ∧ Below w0.heap.size w0 w' := fun w0 h =>
        specRoot m (some ⟨b, o, none⟩) c (Mer.half n) (l.take (Mer.half n)) w0 (by omega) l1 (by omega) (h.out.sa.take _) (by omega) hcM (fun x hx' => hx x (List.mem_of_mem_take hx'))
      have hR2 : ∀ w0, Hid (KpR w (some ⟨b, o, none⟩) l w0) → Calls Tryd.prog 37 #[.slice (some ⟨b, o + Mer.half n, none⟩) (n - Mer.half n) (c - Mer.half n)] w0 fun e w' => e = .returned (.string (rtT (l.drop (Mer.half n)))) ∧ Below w0.heap.size w0 w' := fun w0 h =>
        specRoot m (some ⟨b, o + Mer.half n, none⟩) (c - Mer.half n) (n - Mer.half n) (l.drop (Mer.half n)) w0 (by omega) l2 (by omega) (h.out.sa.drop _) (by omega) (by omega) (fun x hx' => hx x (List.mem_of_mem_drop hx'))
      have hH : ∀ w0, Calls Tryd.prog 90 #[.int .i64 (n : Int)] w0 fun e w' => e = .returned (.int .i64 (Mer.half n : Int)) ∧ w0 = w' := fun w0 => (specHalf n w0 h2 (by omega)).mono fun e w' h => ⟨h.1, h.2.symm⟩
      have hN : ∀ w0, Calls Tryd.prog 61 #[.string (rtT (l.take (Mer.half n))), .string (rtT (l.drop (Mer.half n)))] w0 fun e w' => e = .returned (.string (rtT l)) ∧ Below w0.heap.size w0 w' := fun w0 => by
        have := specNode (rtT (l.take (Mer.half n))) (rtT (l.drop (Mer.half n))) w0 (by rw [rtT_size]; omega) (by rw [rtT_size]; omega)
        rw [rtT_two (by omega : 2 ≤ l.length), hn]
        exact this
      have HS0 : Hid (KpR w (some ⟨b, o, none⟩) l w) := KpR.mk (Below.refl _ _) hA
      generalize rtT (l.take (Mer.half n)) = T1 at *
      generalize rtT (l.drop (Mer.half n)) = T2 at *
      generalize rtT l = T at *
      generalize Mer.half n = k at *
      have s1 := Tryd.sliceLo b o n c k (by omega)
      have s2 := Tryd.sliceHi b o n c k (by omega) (by omega)
      clear hA hx l1 l2 hD
      go_enter Tryd.func37, Tryd.ntmps37
      go_wp2_with (first
        | (go_at_call 90; refine (hH _).mono ?_; rintro e w' ⟨rfl, rfl⟩))
      have HS : Hid (KpR w (some ⟨b, o, none⟩) l w.drew) := KpR.drew HS0
      clear HS0
      go_region_held3 (fun w' => True ∧ Hid (KpR w (some ⟨b, o, none⟩) l w'))
        (first | exact KpR.two HS | exact KpR.two (KpR.hid HS h6) | exact KpR.two (KpR.hid (KpR.hid HS h6) h7) | exact KpR.two (KpR.hid (KpR.hid (KpR.hid HS h6) h7) h8))
        (first
          | (go_at_call 37; with_reducible refine (hR1 _ HS).mono ?_; rintro e w6 ⟨rfl, h6⟩)
          | (go_at_call 37; with_reducible refine (hR2 _ (KpR.hid HS h6)).mono ?_; rintro e w7 ⟨rfl, h7⟩)
          | (go_at_call 61; refine (hN _).mono ?_; rintro e w8 ⟨rfl, h8⟩))
      all_goals
        have B8 : Below w.heap.size w w8 := (KpR.hid (KpR.hid (KpR.hid HS h6) h7) h8).out.below
        clear HS h6 h7 h8 hR1 hR2 hN
        go_wp2
        go_ret
        exact ⟨rfl, B8⟩
end Go.Proofs.YtdfglpbappeoaabDoor
