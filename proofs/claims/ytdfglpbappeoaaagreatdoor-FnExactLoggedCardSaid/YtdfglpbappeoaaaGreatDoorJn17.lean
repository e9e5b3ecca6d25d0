/- The hash of a leaf and of two hashes, on the specification's side. The root of a tree of texts, on the specification's side. TreeRoot and InclusionCheck on the specification's side. InclusionCheck of the specification, walked. -/
import Derived.Test.YtdfglpbappeoaaaGreatDoorJn13
import Derived.Test.YtdfglpbappeoaaaGreatDoorMerM
import Derived.Test.YtdfglpbappeoaaaGreatDoorSRow
import Derived.Deep.RegionHeld3
namespace Go.Proofs.YtdfglpbappeoaaaGreatDoor
open Go.RowKit
set_option linter.unusedVariables false

def leafD (t : ByteArray) : ByteArray := digN (⟨#[0]⟩ ++ t)
def nodeD (a b : ByteArray) : ByteArray := digN (⟨#[1]⟩ ++ a ++ b)
def emptyD : ByteArray := digN ⟨#[]⟩
theorem digs8_len' (r : R8) : (digs8 r 8).length = 32 := rfl
theorem digN_size' (t : ByteArray) : (digN t).size = 32 := by
  show (digs8 _ 8).toArray.size = 32
  rw [List.size_toArray, digs8_len']
theorem leafD_size (t : ByteArray) : (leafD t).size = 32 := digN_size' _
theorem nodeD_size (a b : ByteArray) : (nodeD a b).size = 32 := digN_size' _
theorem emptyD_size : emptyD.size = 32 := digN_size' _
theorem one_size (b : UInt8) : (⟨#[b]⟩ : ByteArray).size = 1 := rfl

set_option maxRecDepth 100000 in
set_option maxHeartbeats 1000000 in
theorem specLeaf (t : ByteArray) (w : World) (ht : t.size ≤ 1048576) :
    Calls Tryz.prog 25 #[.string t] w fun e w' => e = .returned (.string (leafD t)) ∧ Below w.heap.size w w' := by
  have h1 : ∀ g c w0, IAt w0 (some ⟨g, 0, none⟩) iv → Calls Tryz.prog 63 #[HVal (some ⟨g, 0, none⟩) 8 c ⟨#[]⟩ 0, .string ⟨#[0]⟩] w0 fun e w' => ∃ g2 c2, e = .returned (HVal (some ⟨g2, 0, none⟩) 8 c2 (hrs ⟨#[0]⟩) 1) ∧ w0.heap.size ≤ g2 ∧ g2 < w'.heap.size ∧ IAt w' (some ⟨g2, 0, none⟩) (hst ⟨#[0]⟩).ints ∧ Below w0.heap.size w0 w' := fun g c w0 h =>
    moreS_m g c ivR ⟨#[]⟩ ⟨#[0]⟩ 0 w0 (by rw [ivR_ints]; exact h) (by decide) (by decide) (by decide)
  have h2 : ∀ g c w0, IAt w0 (some ⟨g, 0, none⟩) (hst ⟨#[0]⟩).ints → Calls Tryz.prog 63 #[HVal (some ⟨g, 0, none⟩) 8 c (hrs ⟨#[0]⟩) 1, .string t] w0 fun e w' => ∃ g2 c2, e = .returned (HVal (some ⟨g2, 0, none⟩) 8 c2 (hrs (⟨#[0]⟩ ++ t)) ((1 + t.size : Nat) : Int)) ∧ w0.heap.size ≤ g2 ∧ g2 < w'.heap.size ∧ IAt w' (some ⟨g2, 0, none⟩) (hst (⟨#[0]⟩ ++ t)).ints ∧ Below w0.heap.size w0 w' := fun g c w0 h => by
    have := moreS_m g c (hst ⟨#[0]⟩) (hrs ⟨#[0]⟩) t 1 w0 h (by rw [hrs_size]; decide) ht (by omega)
    rw [hst_more, hrs_more] at this
    exact this
  have h3 : ∀ g c w0, IAt w0 (some ⟨g, 0, none⟩) (hst (⟨#[0]⟩ ++ t)).ints → Calls Tryz.prog 62 #[HVal (some ⟨g, 0, none⟩) 8 c (hrs (⟨#[0]⟩ ++ t)) ((1 + t.size : Nat) : Int)] w0 fun e w' => e = .returned (.string (leafD t)) ∧ Below w0.heap.size w0 w' := fun g c w0 h => by
    have := endS_m g c (hst (⟨#[0]⟩ ++ t)) (hrs (⟨#[0]⟩ ++ t)) (1 + t.size) w0 h (by rw [hrs_size]; omega) (by omega)
    have e : leafD t = endD (hst (⟨#[0]⟩ ++ t)) (hrs (⟨#[0]⟩ ++ t)) (1 + t.size) := by
      unfold leafD
      rw [digN_of, ByteArray.size_append, one_size]
    rw [e]
    exact this
  obtain ⟨z, hz⟩ : ∃ z : Int, ((1 + t.size : Nat) : Int) = z := ⟨_, rfl⟩
  rw [hz] at h2 h3
  generalize leafD t = D at *
  generalize hrs (⟨#[0]⟩ ++ t) = r2 at *
  generalize (hst (⟨#[0]⟩ ++ t)).ints = l2 at *
  generalize hrs ⟨#[0]⟩ = r1 at *
  generalize (hst ⟨#[0]⟩).ints = l1 at *
  clear hz
  go_enter Tryz.func25, Tryz.ntmps25
  go_wp2_with (first
    | (go_at_call 64; refine (beginS_any _).mono ?_; rintro e w1 ⟨g1, rfl, hg1, hl1, hI1, hB1⟩)
    | (go_at_call 63; with_reducible refine (h1 g1 8 _ hI1).mono ?_; rintro e w2 ⟨g2, c2, rfl, hg2, hl2, hI2, hB2⟩)
    | (go_at_call 63; with_reducible refine (h2 g2 c2 _ hI2).mono ?_; rintro e w3 ⟨g3, c3, rfl, hg3, hl3, hI3, hB3⟩)
    | (go_at_call 62; refine (h3 g3 c3 _ hI3).mono ?_; rintro e w4 ⟨rfl, hB4⟩))
  go_ret
  have z1 := hB1.size
  have z2 := hB2.size
  have z3 := hB3.size
  exact ⟨rfl, ((hB1.trans (hB2.mono z1)).trans (hB3.mono (by omega))).trans (hB4.mono (by omega))⟩

set_option maxRecDepth 100000 in
set_option maxHeartbeats 1000000 in
theorem specNode (a b : ByteArray) (w : World) (ha : a.size ≤ 9000) (hb : b.size ≤ 9000) :
    Calls Tryz.prog 61 #[.string a, .string b] w fun e w' => e = .returned (.string (nodeD a b)) ∧ Below w.heap.size w w' := by
  obtain ⟨C, hC⟩ : ∃ C, (⟨#[1]⟩ : ByteArray) ++ a = C := ⟨_, rfl⟩
  have s1 : C.size = 1 + a.size := by rw [← hC, ByteArray.size_append, one_size]
  obtain ⟨T, hT⟩ : ∃ T, C ++ b = T := ⟨_, rfl⟩
  have s2 : T.size = C.size + b.size := by rw [← hT, ByteArray.size_append]
  have hD : ∀ w0, Calls Tryz.prog 90 #[.string T] w0 fun e w' => e = .returned (.string (nodeD a b)) ∧ Below w0.heap.size w0 w' := fun w0 => by
    have := digestS_any T w0 (by unfold maxLen; omega)
    rw [show digA T = nodeD a b by unfold digA nodeD; rw [if_neg (by omega), hC, hT]] at this
    exact this
  generalize nodeD a b = N at *
  go_enter Tryz.func61, Tryz.ntmps61
  go_wp2_with (go_at_call 90; refine (hD _).mono ?_; rintro e w1 ⟨rfl, hB1⟩)
  go_ret
  exact ⟨rfl, hB1⟩

theorem specFits (t : ByteArray) (w : World) (h : t.size < 20000) :
    Calls Tryz.prog 23 #[.string t] w fun e w' => e = .returned (.bool true) ∧ w = w' := by
  have d1 : decide ((t.size : Int) < 20000) = true := decide_eq_true (by omega)
  go_enter Tryz.func23, Tryz.ntmps23
  go_wp2
  go_ret
  exact ⟨rfl, rfl⟩
theorem specH32 (t : ByteArray) (w : World) (h : t.size = 32) :
    Calls Tryz.prog 59 #[.string t] w fun e w' => e = .returned (.bool true) ∧ w = w' := by
  have d1 : ((t.size : Int) == 32) = true := beq_iff_eq.2 (by omega)
  go_enter Tryz.func59, Tryz.ntmps59
  go_wp2
  go_ret
  exact ⟨rfl, rfl⟩
theorem specH32' (t : ByteArray) (w : World) (h : ¬ t.size = 32) (hm : t.size ≤ maxLen) :
    Calls Tryz.prog 59 #[.string t] w fun e w' => e = .returned (.bool false) ∧ w = w' := by
  unfold maxLen at hm
  have d1 : ((t.size : Int) == 32) = false := beq_eq_false_iff_ne.2 (by omega)
  go_enter Tryz.func59, Tryz.ntmps59
  go_wp2
  go_ret
  exact ⟨rfl, rfl⟩
/- The exported ones. -/
def leafA (t : ByteArray) : ByteArray := if t.size < 20000 then leafD t else ⟨#[]⟩
def nodeA (a b : ByteArray) : ByteArray := if a.size = 32 ∧ b.size = 32 then nodeD a b else ⟨#[]⟩
end Go.Proofs.YtdfglpbappeoaaaGreatDoor
namespace Go.Proofs.YtdfglpbappeoaaaGreatDoor
open Go.RowKit
set_option linter.unusedVariables false

def rtT (l : List ByteArray) : ByteArray := Mer.rt nodeD emptyD (l.map leafD)
theorem rtT_nil : rtT [] = emptyD := rfl
theorem rtT_one (x : ByteArray) : rtT [x] = leafD x := rfl
theorem rtT_two {l : List ByteArray} (h : 2 ≤ l.length) : rtT l = nodeD (rtT (l.take (Mer.half l.length))) (rtT (l.drop (Mer.half l.length))) := by
  unfold rtT
  rw [Mer.rt_two nodeD emptyD (by rw [List.length_map]; exact h), List.length_map, List.map_take, List.map_drop]
theorem rtT_size (l : List ByteArray) : (rtT l).size = 32 := by
  by_cases h0 : l.length = 0
  · rw [List.length_eq_zero_iff.1 h0, rtT_nil]; exact emptyD_size
  by_cases h1 : l.length = 1
  · match l, h1 with
    | [x], _ => rw [rtT_one]; exact leafD_size x
  · rw [rtT_two (by omega)]; exact nodeD_size _ _
def okLv (l : List ByteArray) : Bool := decide (l.length ≤ 64 ∧ ∀ x ∈ l, x.size < 20000)
theorem okLv_yes {l : List ByteArray} (h : l.length ≤ 64 ∧ ∀ x ∈ l, x.size < 20000) : okLv l = true := decide_eq_true h
theorem okLv_no {l : List ByteArray} (h : ¬ (l.length ≤ 64 ∧ ∀ x ∈ l, x.size < 20000)) : okLv l = false := decide_eq_false h
theorem okLv_of {l : List ByteArray} (h : okLv l = true) : l.length ≤ 64 ∧ ∀ x ∈ l, x.size < 20000 := of_decide_eq_true h
set_option maxRecDepth 100000 in
set_option maxHeartbeats 1000000 in
theorem specHalf (n : Nat) (w : World) (h2 : 2 ≤ n) (hn : n ≤ 1000000) :
    Calls Tryz.prog 91 #[.int .i64 (n : Int)] w fun e w' => e = .returned (.int .i64 (Mer.half n : Int)) ∧ w' = w := by
  have HF : Hid (∀ k j : Nat, k = 2 ^ j → k < n → n ≤ 2 * k → Mer.half n = k) := fun k j e h1 h2 => by subst e; exact Mer.half_uniq h1 h2
  generalize Mer.half n = H at *
  go_enter Tryz.func91, Tryz.ntmps91
  go_wp2_with fail
  go_loop [3] (fun vk => ∃ k : Nat, vk = .int .i64 (k : Int) ∧ 1 ≤ k ∧ k < n ∧ Hid (∃ j, k = 2 ^ j)) (fun vk => n - (intOf vk).toNat)
  case atStart => exact ⟨1, rfl, Nat.le_refl _, by omega, ⟨0, rfl⟩⟩
  case round =>
    obtain ⟨k, rfl, hk1, hk2, HJ⟩ := hrel
    by_cases hlt : 2 * k < n
    · have hi : (2 : Int) * (k : Int) < n := by omega
      have HJ2 : Hid (∃ j, 2 * k = 2 ^ j) := by
        obtain ⟨j, hj⟩ := HJ.out
        exact ⟨j + 1, by rw [Nat.pow_succ, hj, Nat.mul_comm]⟩
      go_wp2
      exact ⟨⟨2 * k, by go_num, by omega, hlt, HJ2⟩, by simp [intOf]; omega⟩
    · have hi : ¬ (2 : Int) * (k : Int) < n := by omega
      have HR : Hid (H = k) := by
        obtain ⟨j, hj⟩ := HJ.out
        exact HF.out k j hj hk2 (by omega)
      go_wp2
      go_ret
      exact ⟨retZ (by rw [HR.out]), rfl⟩
set_option maxRecDepth 100000 in
set_option maxHeartbeats 1000000 in
theorem specRight (a : Option Addr) (c n : Nat) (l : List ByteArray) (w : World) (hn : l.length = n) (h : SA w a l) (hM : n ≤ 1000000000) (hx : ∀ x ∈ l, x.size ≤ maxLen) :
    Calls Tryz.prog 47 #[.slice a n c] w fun e w' => e = .returned (.bool (okLv l)) ∧ w' = w := by
  have HA : Hid (SA w a l) := h
  have HN : Hid (l.length = n) := hn
  have HX : Hid (∀ x ∈ l, x.size ≤ maxLen) := hx
  clear h hn hx
  by_cases hb : 64 < n
  · have HR : Hid (okLv l = false) := okLv_no (fun e => by have := HN.out; have := e.1; omega)
    have d1 : decide ((64 : Int) < n) = true := decide_eq_true (by omega)
    go_enter Tryz.func47, Tryz.ntmps47
    go_wp2
    go_ret
    exact ⟨retY HR.out.symm, rfl⟩
  · have d1 : decide ((64 : Int) < n) = false := decide_eq_false (by omega)
    go_enter Tryz.func47, Tryz.ntmps47
    go_wp2_with fail
    go_loop [3] (fun vi => ∃ k : Nat, vi = .int .i64 (k : Int) ∧ k ≤ n ∧ Hid (∀ x ∈ l.take k, x.size < 20000)) (fun vi => n - (intOf vi).toNat)
    case atStart => exact ⟨0, rfl, Nat.zero_le _, fun x h => by simp at h⟩
    case round =>
      obtain ⟨k, rfl, hk, HT⟩ := hrel
      by_cases hlt : k < n
      · have hkl : k < l.length := by have := HN.out; omega
        obtain ⟨b, o, rfl, hc⟩ := HA.out k hkl
        have hxs := HX.out l[k] (List.getElem_mem hkl)
        have HM : Hid (l[k] ∈ l) := List.getElem_mem hkl
        have HT2 : Hid (l[k].size < 20000 → ∀ x ∈ l.take (k + 1), x.size < 20000) := fun hz x hx => by
          rw [List.take_succ_eq_append_getElem hkl] at hx
          rcases List.mem_append.1 hx with h1 | h1
          · exact HT.out x h1
          · rw [List.mem_singleton.1 h1]; exact hz
        unfold maxLen at hxs
        generalize l[k] = x at *
        have lk : (k : Int) < n := by omega
        have l0 : (0 : Int) ≤ k := by omega
        clear hkl HT
        by_cases hz : x.size < 20000
        · have HT3 : Hid (∀ x ∈ l.take (k + 1), x.size < 20000) := HT2.out hz
          have d2 : decide ((x.size : Int) < 20000) = true := decide_eq_true (by omega)
          clear HT2
          go_wp2
          exact ⟨⟨k + 1, by go_num, hlt, HT3⟩, by simp [intOf]; omega⟩
        · have d2 : decide ((x.size : Int) < 20000) = false := decide_eq_false (by omega)
          have HR : Hid (okLv l = false) := okLv_no (fun e => hz (e.2 x HM.out))
          clear HT2 HM hz
          go_wp2
          go_ret
          exact ⟨retY HR.out.symm, rfl⟩
      · obtain rfl : k = n := by omega
        have HR : Hid (okLv l = true) := okLv_yes ⟨by have := HN.out; omega, by
          have := HT.out
          rw [List.take_of_length_le (by have := HN.out; omega)] at this
          exact this⟩
        clear HT
        go_wp2
        go_ret
        exact ⟨retY HR.out.symm, rfl⟩
/- What stands while a root is made. -/
structure KpR (w : World) (a : Option Addr) (l : List ByteArray) (w' : World) : Prop where
  below : Below w.heap.size w w'
  sa : SA w' a l
theorem KpR.hid {w w' w2 : World} {a : Option Addr} {l : List ByteArray} (h : Hid (KpR w a l w')) (hb : Below w'.heap.size w' w2) : Hid (KpR w a l w2) := ⟨h.out.below.trans (hb.mono h.out.below.size), h.out.sa.below hb⟩
theorem KpR.drew {w w' : World} {a : Option Addr} {l : List ByteArray} (h : Hid (KpR w a l w')) : Hid (KpR w a l w'.drew) := ⟨h.out.below.drew, h.out.sa.drew⟩
theorem KpR.two {w w' : World} {a : Option Addr} {l : List ByteArray} (h : Hid (KpR w a l w')) : True ∧ Hid (KpR w a l w') := ⟨trivial, h⟩
set_option maxRecDepth 100000 in
set_option maxHeartbeats 1000000 in
theorem specRoot : ∀ (m : Nat) (a : Option Addr) (c n : Nat) (l : List ByteArray) (w : World), l.length ≤ m → l.length = n → n ≤ c → SA w a l → n ≤ 1000 → c ≤ 9223372036854775807 → (∀ x ∈ l, x.size < 20000) →
    Calls Tryz.prog 49 #[.slice a n c] w fun e w' => e = .returned (.string (rtT l)) ∧ Below w.heap.size w w'
  | m, a, c, n, l, w, hm, hn, hc, hA, hM, hcM, hx => by
    have hD : ∀ w0, Calls Tryz.prog 90 #[.string ⟨#[]⟩] w0 fun e w' => e = .returned (.string emptyD) ∧ Below w0.heap.size w0 w' := fun w0 => digestS_any ⟨#[]⟩ w0 (by decide)
    by_cases h0 : n = 0
    · have HR : Hid (rtT l = emptyD) := by show _ = _; rw [List.length_eq_zero_iff.1 (hn.trans h0)]; exact rtT_nil
      subst h0
      clear hA hx
      generalize emptyD = E at *
      go_enter Tryz.func49, Tryz.ntmps49
      go_wp2_with (go_at_call 90; refine (hD _).mono ?_; rintro e w1 ⟨rfl, hB1⟩)
      go_ret
      exact ⟨ret_str' HR.out.symm, hB1⟩
    have d0 : ((n : Int) == 0) = false := beq_eq_false_iff_ne.2 (by omega)
    by_cases h1 : n = 1
    · obtain ⟨x, rfl⟩ := List.length_eq_one_iff.1 (hn.trans h1)
      obtain ⟨b, o, rfl, hcell⟩ := hA 0 (by simp)
      have HR : Hid (rtT [x] = leafD x) := rfl
      have hL : ∀ w0, Calls Tryz.prog 25 #[.string x] w0 fun e w' => e = .returned (.string (leafD x)) ∧ Below w0.heap.size w0 w' := fun w0 => specLeaf _ w0 (by have := hx x (by simp); omega)
      have hcell2 : w.cell? ⟨b, o, none⟩ = some (.string x) := hcell
      generalize leafD x = E at *
      generalize rtT [x] = T at *
      subst h1
      clear hA hx hcell hD
      go_enter Tryz.func49, Tryz.ntmps49
      go_wp2_with (go_at_call 25; refine (hL _).mono ?_; rintro e w1 ⟨rfl, hB1⟩)
      go_ret
      exact ⟨ret_str' HR.out.symm, hB1⟩
    have d1 : ((n : Int) == 1) = false := beq_eq_false_iff_ne.2 (by omega)
    have h2 : 2 ≤ n := by omega
    match m, hm with
    | 0, hm => omega
    | m + 1, hm =>
      have hl := Mer.half_lt h2
      have hp := Mer.half_pos n
      obtain ⟨b, o, rfl⟩ := hA.base (by omega)
      have l1 : (l.take (Mer.half n)).length = Mer.half n := by rw [List.length_take]; omega
      have l2 : (l.drop (Mer.half n)).length = n - Mer.half n := by rw [List.length_drop]; omega
      have hR1 : ∀ w0, Hid (KpR w (some ⟨b, o, none⟩) l w0) → Calls Tryz.prog 49 #[.slice (some ⟨b, o, none⟩) (Mer.half n) c] w0 fun e w' => e = .returned (.string (rtT (l.take (Mer.half n)))) ∧ Below w0.heap.size w0 w' := fun w0 h =>
        specRoot m (some ⟨b, o, none⟩) c (Mer.half n) (l.take (Mer.half n)) w0 (by omega) l1 (by omega) (h.out.sa.take _) (by omega) hcM (fun x hx' => hx x (List.mem_of_mem_take hx'))
      have hR2 : ∀ w0, Hid (KpR w (some ⟨b, o, none⟩) l w0) → Calls Tryz.prog 49 #[.slice (some ⟨b, o + Mer.half n, none⟩) (n - Mer.half n) (c - Mer.half n)] w0 fun e w' => e = .returned (.string (rtT (l.drop (Mer.half n)))) ∧ Below w0.heap.size w0 w' := fun w0 h =>
        specRoot m (some ⟨b, o + Mer.half n, none⟩) (c - Mer.half n) (n - Mer.half n) (l.drop (Mer.half n)) w0 (by omega) l2 (by omega) (h.out.sa.drop _) (by omega) (by omega) (fun x hx' => hx x (List.mem_of_mem_drop hx'))
      have hH : ∀ w0, Calls Tryz.prog 91 #[.int .i64 (n : Int)] w0 fun e w' => e = .returned (.int .i64 (Mer.half n : Int)) ∧ w0 = w' := fun w0 => (specHalf n w0 h2 (by omega)).mono fun e w' h => ⟨h.1, h.2.symm⟩
      have hN : ∀ w0, Calls Tryz.prog 61 #[.string (rtT (l.take (Mer.half n))), .string (rtT (l.drop (Mer.half n)))] w0 fun e w' => e = .returned (.string (rtT l)) ∧ Below w0.heap.size w0 w' := fun w0 => by
        have := specNode (rtT (l.take (Mer.half n))) (rtT (l.drop (Mer.half n))) w0 (by rw [rtT_size]; omega) (by rw [rtT_size]; omega)
        rw [rtT_two (by omega : 2 ≤ l.length), hn]
        exact this
      have HS0 : Hid (KpR w (some ⟨b, o, none⟩) l w) := KpR.mk (Below.refl _ _) hA
      generalize rtT (l.take (Mer.half n)) = T1 at *
      generalize rtT (l.drop (Mer.half n)) = T2 at *
      generalize rtT l = T at *
      generalize Mer.half n = k at *
      have s1 := Tryz.sliceLo b o n c k (by omega)
      have s2 := Tryz.sliceHi b o n c k (by omega) (by omega)
      clear hA hx l1 l2 hD
      go_enter Tryz.func49, Tryz.ntmps49
      go_wp2_with (first
        | (go_at_call 91; refine (hH _).mono ?_; rintro e w' ⟨rfl, rfl⟩))
      have HS : Hid (KpR w (some ⟨b, o, none⟩) l w.drew) := KpR.drew HS0
      clear HS0
      go_region_held3 (fun w' => True ∧ Hid (KpR w (some ⟨b, o, none⟩) l w'))
        (first | exact KpR.two HS | exact KpR.two (KpR.hid HS h6) | exact KpR.two (KpR.hid (KpR.hid HS h6) h7) | exact KpR.two (KpR.hid (KpR.hid (KpR.hid HS h6) h7) h8))
        (first
          | (go_at_call 49; with_reducible refine (hR1 _ HS).mono ?_; rintro e w6 ⟨rfl, h6⟩)
          | (go_at_call 49; with_reducible refine (hR2 _ (KpR.hid HS h6)).mono ?_; rintro e w7 ⟨rfl, h7⟩)
          | (go_at_call 61; refine (hN _).mono ?_; rintro e w8 ⟨rfl, h8⟩))
      all_goals
        have B8 : Below w.heap.size w w8 := (KpR.hid (KpR.hid (KpR.hid HS h6) h7) h8).out.below
        clear HS h6 h7 h8 hR1 hR2 hN
        go_wp2
        go_ret
        exact ⟨rfl, B8⟩
end Go.Proofs.YtdfglpbappeoaaaGreatDoor
namespace Go.Proofs.YtdfglpbappeoaaaGreatDoor
open Go.RowKit
set_option linter.unusedVariables false

def rootA (l : List ByteArray) : ByteArray := if okLv l then rtT l else ⟨#[]⟩
def okHs (l : List ByteArray) : Bool := decide (∀ x ∈ l, x.size = 32)
theorem okHs_yes {l : List ByteArray} (h : ∀ x ∈ l, x.size = 32) : okHs l = true := decide_eq_true h
theorem okHs_no {l : List ByteArray} (h : ¬ ∀ x ∈ l, x.size = 32) : okHs l = false := decide_eq_false h
theorem okHs_of {l : List ByteArray} (h : okHs l = true) : ∀ x ∈ l, x.size = 32 := of_decide_eq_true h
set_option maxRecDepth 100000 in
set_option maxHeartbeats 1000000 in
theorem specHashes (a : Option Addr) (c n : Nat) (l : List ByteArray) (w : World) (hn : l.length = n) (h : SA w a l) (hM : n ≤ 1000000000) (hx : ∀ x ∈ l, x.size ≤ maxLen) :
    Calls Tryz.prog 60 #[.slice a n c] w fun e w' => e = .returned (.bool (okHs l)) ∧ w' = w := by
  have HA : Hid (SA w a l) := h
  have HN : Hid (l.length = n) := hn
  have HX : Hid (∀ x ∈ l, x.size ≤ maxLen) := hx
  clear h hn hx
  go_enter Tryz.func60, Tryz.ntmps60
  go_wp2_with fail
  go_loop [3] (fun vi => ∃ k : Nat, vi = .int .i64 (k : Int) ∧ k ≤ n ∧ Hid (∀ x ∈ l.take k, x.size = 32)) (fun vi => n - (intOf vi).toNat)
  case atStart => exact ⟨0, rfl, Nat.zero_le _, fun x h => by simp at h⟩
  case round =>
    obtain ⟨k, rfl, hk, HT⟩ := hrel
    by_cases hlt : k < n
    · have hkl : k < l.length := by have := HN.out; omega
      obtain ⟨b, o, rfl, hc⟩ := HA.out k hkl
      have hxs := HX.out l[k] (List.getElem_mem hkl)
      have HM : Hid (l[k] ∈ l) := List.getElem_mem hkl
      have HT2 : Hid (l[k].size = 32 → ∀ x ∈ l.take (k + 1), x.size = 32) := fun hz x hx => by
        rw [List.take_succ_eq_append_getElem hkl] at hx
        rcases List.mem_append.1 hx with h1 | h1
        · exact HT.out x h1
        · rw [List.mem_singleton.1 h1]; exact hz
      unfold maxLen at hxs
      generalize l[k] = x at *
      have lk : (k : Int) < n := by omega
      have l0 : (0 : Int) ≤ k := by omega
      clear hkl HT
      by_cases hz : x.size = 32
      · have HT3 : Hid (∀ x ∈ l.take (k + 1), x.size = 32) := HT2.out hz
        have d2 : ((x.size : Int) == 32) = true := beq_iff_eq.2 (by omega)
        clear HT2 hz
        go_wp2
        exact ⟨⟨k + 1, by go_num, hlt, HT3⟩, by simp [intOf]; omega⟩
      · have d2 : ((x.size : Int) == 32) = false := beq_eq_false_iff_ne.2 (by omega)
        have HR : Hid (okHs l = false) := okHs_no (fun e => hz (e x HM.out))
        clear HT2 HM hz
        go_wp2
        go_ret
        exact ⟨retY HR.out.symm, rfl⟩
    · obtain rfl : k = n := by omega
      have HR : Hid (okHs l = true) := okHs_yes (by
        have := HT.out
        rw [List.take_of_length_le (by have := HN.out; omega)] at this
        exact this)
      clear HT
      go_wp2
      go_ret
      exact ⟨retY HR.out.symm, rfl⟩

/- The check, place by place. -/
def chkI (root : ByteArray) : List ByteArray → Nat → Nat → ByteArray → Bool
  | [], f, s, r => s == 0 && decide (r = root)
  | p :: ps, f, s, r => s != 0 && chkI root ps (Mer.nx f s).1 (Mer.nx f s).2 (if Mer.rgt f s then nodeD p r else nodeD r p)
theorem chkI_run (root : ByteArray) : ∀ (ps : List ByteArray) (f s : Nat) (r : ByteArray), chkI root ps f s r = true ↔ Mer.okN ps.length f s = true ∧ (Mer.goP ps.length f s).2 = 0 ∧ Mer.goB nodeD ps f s r = root
  | [], f, s, r => by simp [chkI, Mer.okN, Mer.goP, Mer.goB]
  | p :: ps, f, s, r => by
    rw [chkI, Bool.and_eq_true, chkI_run root ps, List.length_cons, Mer.okN, Bool.and_eq_true, Mer.goP, Mer.goB, and_assoc]
structure IncOk (leaf : ByteArray) (i n : Int) (ps : List ByteArray) (root : ByteArray) : Prop where
  lf : leaf.size = 32
  rt : root.size = 32
  hs : okHs ps = true
  n1 : 1 ≤ n
  n2 : n ≤ 1099511627776
  i0 : 0 ≤ i
  i1 : i < n
def incB (leaf : ByteArray) (i n : Int) (ps : List ByteArray) (root : ByteArray) : Bool := decide (leaf.size = 32 ∧ root.size = 32 ∧ ps.length ≤ 400 ∧ okHs ps = true ∧ 1 ≤ n ∧ n ≤ 1099511627776 ∧ 0 ≤ i ∧ i < n) && chkI root ps i.toNat (n.toNat - 1) leaf
theorem incB_no {leaf root : ByteArray} {i n : Int} {ps : List ByteArray} (h : ¬ (leaf.size = 32 ∧ root.size = 32 ∧ ps.length ≤ 400 ∧ okHs ps = true ∧ 1 ≤ n ∧ n ≤ 1099511627776 ∧ 0 ≤ i ∧ i < n)) : incB leaf i n ps root = false := by
  unfold incB; rw [decide_eq_false h, Bool.false_and]
theorem incB_yes {leaf root : ByteArray} {i n : Int} {ps : List ByteArray} (h : leaf.size = 32 ∧ root.size = 32 ∧ ps.length ≤ 400 ∧ okHs ps = true ∧ 1 ≤ n ∧ n ≤ 1099511627776 ∧ 0 ≤ i ∧ i < n) : incB leaf i n ps root = chkI root ps i.toNat (n.toNat - 1) leaf := by
  unfold incB; rw [decide_eq_true h, Bool.true_and]
/- Halved until odd: one step. -/
theorem down_fuel : ∀ (n m f s : Nat), f ≤ n → f ≤ m → Mer.down n f s = Mer.down m f s
  | 0, m, f, s, h1, h2 => by
    have : f = 0 := by omega
    subst this
    cases m <;> simp [Mer.down]
  | n + 1, 0, f, s, h1, h2 => by
    have : f = 0 := by omega
    subst this
    simp [Mer.down]
  | n + 1, m + 1, f, s, h1, h2 => by
    rw [Mer.down, Mer.down]
    by_cases h : f % 2 = 0 ∧ f ≠ 0
    · rw [if_pos h, if_pos h]
      exact down_fuel n m _ _ (by omega) (by omega)
    · rw [if_neg h, if_neg h]
def dn (f s : Nat) : Nat × Nat := Mer.down f f s
theorem dn_go {f s : Nat} (h1 : f % 2 = 0) (h2 : f ≠ 0) : dn f s = dn (f / 2) (s / 2) := by
  unfold dn
  obtain ⟨n, hn⟩ : ∃ n, f = n + 1 := ⟨f - 1, by omega⟩
  conv => lhs; rw [hn, Mer.down]
  rw [← hn, if_pos ⟨h1, h2⟩]
  exact down_fuel _ _ _ _ (by omega) (Nat.le_refl _)
theorem dn_stop {f s : Nat} (h : f % 2 = 1 ∨ f = 0) : dn f s = (f, s) := by
  unfold dn
  cases f with
  | zero => rfl
  | succ n => rw [Mer.down, if_neg (by omega)]
theorem nx_right {f s : Nat} (h : Mer.rgt f s = true) : Mer.nx f s = ((dn f s).1 / 2, (dn f s).2 / 2) := by unfold Mer.nx; rw [if_pos h]; rfl
theorem nx_left {f s : Nat} (h : Mer.rgt f s = false) : Mer.nx f s = (f / 2, s / 2) := by unfold Mer.nx; rw [if_neg (by rw [h]; decide)]
end Go.Proofs.YtdfglpbappeoaaaGreatDoor
namespace Go.Proofs.YtdfglpbappeoaaaGreatDoor
open Go.RowKit
set_option linter.unusedVariables false

/- What holds at the head of a round. -/
structure IncAt (leaf root : ByteArray) (i n : Int) (ps : List ByteArray) (k f s : Nat) (r : ByteArray) : Prop where
  eq : incB leaf i n ps root = chkI root (ps.drop k) f s r
  rs : r.size = 32
theorem rgt_odd {f s : Nat} (h : f % 2 = 1) : Mer.rgt f s = true := by unfold Mer.rgt; rw [beq_iff_eq.2 h]; rfl
theorem rgt_same {f s : Nat} (h : f = s) : Mer.rgt f s = true := by unfold Mer.rgt; rw [beq_iff_eq.2 h, Bool.or_true]
theorem rgt_not {f s : Nat} (h1 : ¬ f % 2 = 1) (h2 : ¬ f = s) : Mer.rgt f s = false := by unfold Mer.rgt; rw [beq_eq_false_iff_ne.2 h1, beq_eq_false_iff_ne.2 h2]; rfl
theorem IncAt.right {leaf root r p : ByteArray} {i n : Int} {ps : List ByteArray} {k f s : Nat} (h : IncAt leaf root i n ps k f s r) (hk : k < ps.length) (hp : ps[k] = p) (hs : s ≠ 0) (hr : Mer.rgt f s = true) : IncAt leaf root i n ps (k + 1) ((dn f s).1 / 2) ((dn f s).2 / 2) (nodeD p r) := by
  refine ⟨?_, nodeD_size _ _⟩
  rw [h.eq, List.drop_eq_getElem_cons hk, hp, chkI, nx_right hr, if_pos hr]
  simp [hs]
theorem IncAt.left {leaf root r p : ByteArray} {i n : Int} {ps : List ByteArray} {k f s : Nat} (h : IncAt leaf root i n ps k f s r) (hk : k < ps.length) (hp : ps[k] = p) (hs : s ≠ 0) (hr : Mer.rgt f s = false) : IncAt leaf root i n ps (k + 1) (f / 2) (s / 2) (nodeD r p) := by
  refine ⟨?_, nodeD_size _ _⟩
  rw [h.eq, List.drop_eq_getElem_cons hk, hp, chkI, nx_left hr, hr, if_neg (by decide)]
  simp [hs]
theorem IncAt.stop {leaf root r : ByteArray} {i n : Int} {ps : List ByteArray} {k f : Nat} (h : IncAt leaf root i n ps k f 0 r) (hk : k < ps.length) : incB leaf i n ps root = false := by
  rw [h.eq, List.drop_eq_getElem_cons hk, chkI]; rfl
theorem IncAt.done {leaf root r : ByteArray} {i n : Int} {ps : List ByteArray} {f s : Nat} (h : IncAt leaf root i n ps ps.length f s r) : incB leaf i n ps root = (s == 0 && decide (r = root)) := by
  rw [h.eq, List.drop_of_length_le (Nat.le_refl _), chkI]

set_option maxRecDepth 100000 in
set_option maxHeartbeats 2000000 in
theorem specInc0 (leaf root : ByteArray) (i n : Int) (a : Option Addr) (c m : Nat) (ps : List ByteArray) (w : World) (hm : ps.length = m) (hA : SA w a ps)
    (h : leaf.size = 32 ∧ root.size = 32 ∧ ps.length ≤ 400 ∧ okHs ps = true ∧ 1 ≤ n ∧ n ≤ 1099511627776 ∧ 0 ≤ i ∧ i < n) :
    Calls Tryz.prog 24 #[.string leaf, .int .i64 i, .int .i64 n, .slice a m c, .string root] w fun e w' => e = .returned (.bool (incB leaf i n ps root)) ∧ Below w.heap.size w w' := by
  have hst : IncAt leaf root i n ps 0 i.toNat (n.toNat - 1) leaf := ⟨by rw [incB_yes h]; rfl, h.1⟩
  obtain ⟨h1, h2, h3, h4, h5, h6, h7, h8⟩ := h
  have hH1 : ∀ w0, Calls Tryz.prog 59 #[.string leaf] w0 fun e w' => e = .returned (.bool true) ∧ w0 = w' := fun w0 => specH32 leaf w0 h1
  have hH2 : ∀ w0, Calls Tryz.prog 59 #[.string root] w0 fun e w' => e = .returned (.bool true) ∧ w0 = w' := fun w0 => specH32 root w0 h2
  have hH3 : Calls Tryz.prog 60 #[.slice a m c] w fun e w' => e = .returned (.bool true) ∧ w = w' := by
    have := specHashes a c m ps w hm hA (by omega) (fun x hx => by rw [okHs_of h4 x hx]; decide)
    rw [h4] at this
    exact this.mono fun e w' h => ⟨h.1, h.2.symm⟩
  have HH3 : Hid _ := hH3
  have hN : ∀ p r w0, p.size = 32 → r.size = 32 → Calls Tryz.prog 61 #[.string p, .string r] w0 fun e w' => e = .returned (.string (nodeD p r)) ∧ Below w0.heap.size w0 w' := fun p r w0 e1 e2 => specNode p r w0 (by omega) (by omega)
  have HP : Hid (∀ k (hk : k < ps.length), ps[k].size = 32) := fun k hk => okHs_of h4 _ (List.getElem_mem hk)
  have HA : Hid (SA w a ps) := hA
  have HM : Hid (ps.length = m) := hm
  have hmb : m ≤ 400 := by omega
  obtain ⟨f0, rfl⟩ := Int.eq_ofNat_of_zero_le h7
  obtain ⟨n0, rfl⟩ := Int.eq_ofNat_of_zero_le (show 0 ≤ n by omega)
  have HS : Hid (IncAt leaf root f0 n0 ps 0 f0 (n0 - 1) leaf) := hst
  have es : (n0 : Int) - 1 = ((n0 - 1 : Nat) : Int) := by omega
  obtain ⟨R, hR⟩ : ∃ R, incB leaf f0 n0 ps root = R := ⟨_, rfl⟩
  rw [hR]
  have HR : Hid (incB leaf f0 n0 ps root = R) := hR
  clear hst hH3 hA hm h3 h4 hR
  have g1 : decide ((n0 : Int) < 1) = false := decide_eq_false (by omega)
  have g2 : decide ((1099511627776 : Int) < (n0 : Int)) = false := decide_eq_false (by omega)
  have g3 : decide ((f0 : Int) < 0) = false := decide_eq_false (by omega)
  have g4 : decide (n0 ≤ f0) = false := decide_eq_false (by omega)
  have g5 : decide ((n0 : Int) ≤ (f0 : Int)) = false := decide_eq_false (by omega)
  have g6 : decide ((400 : Int) < (m : Int)) = false := decide_eq_false (by omega)
  go_enter Tryz.func24, Tryz.ntmps24
  go_wp2_with (first
    | (go_at_call 59; with_reducible refine (hH1 _).mono ?_; rintro e w' ⟨rfl, rfl⟩)
    | (go_at_call 59; with_reducible refine (hH2 _).mono ?_; rintro e w' ⟨rfl, rfl⟩)
    | (go_at_call 60; refine Calls.mono HH3.out ?_; rintro e w' ⟨rfl, rfl⟩))
  go_loopw [11, 12, 13, 14] (fun vf vs vr vi wr => ∃ (k f s : Nat) (r : ByteArray), vi = .int .i64 (k : Int) ∧ vf = .int .i64 (f : Int) ∧ vs = .int .i64 (s : Int) ∧ vr = .string r ∧ k ≤ m ∧ f ≤ 1099511627776 ∧ s ≤ 1099511627776 ∧ IncAt leaf root f0 n0 ps k f s r ∧ Below w.heap.size w wr) (fun _ _ _ vi _ => m - (intOf vi).toNat)
  case atStart => exact ⟨0, f0, n0 - 1, leaf, rfl, rfl, rfl, rfl, Nat.zero_le _, by omega, by omega, HS.out, Below.refl _ _⟩
  case round =>
    obtain ⟨k, f, s, r, rfl, rfl, rfl, rfl, hk, hf, hs, hI, hB⟩ := hrel
    have HI : Hid (IncAt leaf root f0 n0 ps k f s r) := hI
    have HB : Hid (Below w.heap.size w wr) := hB
    have hrs := hI.rs
    clear hI HS es HH3 hH1 hH2 g1 g2 g3 g4 g5 g6
    by_cases hlt : k < m
    · have hkl : k < ps.length := by have := HM.out; omega
      obtain ⟨b, o, rfl, hc⟩ := (HA.out.below hB) k hkl
      have hps := HP.out k hkl
      have HI2 : Hid (∀ (e1 : s ≠ 0) (e2 : Mer.rgt f s = true), IncAt leaf root f0 n0 ps (k + 1) ((dn f s).1 / 2) ((dn f s).2 / 2) (nodeD ps[k] r)) := fun e1 e2 => HI.out.right hkl rfl e1 e2
      have HI3 : Hid (∀ (e1 : s ≠ 0) (e2 : Mer.rgt f s = false), IncAt leaf root f0 n0 ps (k + 1) (f / 2) (s / 2) (nodeD r ps[k])) := fun e1 e2 => HI.out.left hkl rfl e1 e2
      have HI4 : Hid (s = 0 → incB leaf f0 n0 ps root = false) := fun e => by have := HI.out; rw [e] at this; exact this.stop hkl
      generalize ps[k] = p at *
      have lk : (k : Int) < m := by omega
      have l0 : (0 : Int) ≤ k := by omega
      clear hB hkl HI
      by_cases hs0 : s = 0
      · as_aux_lemma =>
        have HF : Hid (R = false) := by show _ = _; rw [← HR.out]; exact HI4.out hs0
        subst hs0
        clear HI2 HI3 HI4
        go_wp2
        go_ret
        exact ⟨retY HF.out.symm, HB.out⟩
      have d0 : ((s : Int) == 0) = false := beq_eq_false_iff_ne.2 (by omega)
      have hc0 := hs0
      by_cases hodd : f % 2 = 1
      · as_aux_lemma =>
        have hrg : Mer.rgt f s = true := rgt_odd hodd
        have d5 : ((f : Int) % 2 == 1) = true := beq_iff_eq.2 (by omega)
        clear hodd
        have HI5 : Hid (IncAt leaf root f0 n0 ps (k + 1) ((dn f s).1 / 2) ((dn f s).2 / 2) (nodeD p r)) := HI2.out hs0 hrg
        clear HI2 HI3 HI4 hrg hc0
        have hN1 : Calls Tryz.prog 61 #[.string p, .string r] wr fun e w' => e = .returned (.string (nodeD p r)) ∧ Below wr.heap.size wr w' := hN p r wr hps hrs
        have HN1 : Hid _ := hN1
        obtain ⟨F, S, hFS⟩ : ∃ F S, dn f s = (F, S) := ⟨_, _, rfl⟩
        have HD : Hid (dn f s = (F, S)) := hFS
        rw [hFS] at HI5
        generalize nodeD p r = q at *
        clear hN1 hN hFS
        go_wp2_with (go_at_call 61; refine Calls.mono HN1.out ?_; rintro e w2 ⟨rfl, hB2⟩)
        have HB2 : Hid (Below w.heap.size w w2) := HB.out.trans (hB2.mono HB.out.size)
        clear hB2 HB HN1 hc
        go_loopw [11, 12] (fun vf vs wx => ∃ (f' s' : Nat), vf = .int .i64 (f' : Int) ∧ vs = .int .i64 (s' : Int) ∧ f' ≤ 1099511627776 ∧ s' ≤ 1099511627776 ∧ Hid (dn f' s' = (F, S)) ∧ wx = w2) (fun vf _ _ => (intOf vf).toNat)
        case atStart => exact ⟨f, s, rfl, rfl, hf, hs, HD, rfl⟩
        case round =>
          clear HD
          obtain ⟨f', s', rfl, rfl, hf', hs', HD', rfl⟩ := hrel
          by_cases e1 : f' % 2 = 0
          · have t1 : ((f' : Int) % 2 == 0) = true := beq_iff_eq.2 (by omega)
            by_cases e2 : f' = 0
            · have t2 : ((f' : Int) != 0) = false := by simp [e2]
              have t3 : ((f' : Int) == 0) = true := by simp [e2]
              have HE : Hid (f' = F ∧ s' = S) := by have := HD'.out; rw [dn_stop (Or.inr e2)] at this; injection this with a1 a2; exact ⟨a1, a2⟩
              clear HD' e1 e2
              go_wp2
              go_roundw
              case rel => exact ⟨k + 1, F / 2, S / 2, q, by go_num, by rw [← HE.out.1]; go_num, by rw [← HE.out.2]; go_num, rfl, hlt, by have := HE.out.1; omega, by have := HE.out.2; omega, HI5.out, HB2.out⟩
              case measure => simp [intOf]; omega
            · have t2 : ((f' : Int) != 0) = true := by simp; omega
              have t3 : ((f' : Int) == 0) = false := by simp; omega
              have HE : Hid (dn (f' / 2) (s' / 2) = (F, S)) := by have := HD'.out; rw [dn_go e1 e2] at this; exact this
              clear HD' e1
              go_wp2
              go_roundw
              case rel => exact ⟨f' / 2, s' / 2, by go_num, by go_num, by omega, by omega, HE, trivial⟩
              case measure => simp [intOf]; omega
          · have t1 : ((f' : Int) % 2 == 0) = false := beq_eq_false_iff_ne.2 (by omega)
            have HE : Hid (f' = F ∧ s' = S) := by have := HD'.out; rw [dn_stop (Or.inl (by omega))] at this; injection this with a1 a2; exact ⟨a1, a2⟩
            clear HD' e1
            go_wp2
            go_roundw
            case rel => exact ⟨k + 1, F / 2, S / 2, q, by go_num, by rw [← HE.out.1]; go_num, by rw [← HE.out.2]; go_num, rfl, hlt, by have := HE.out.1; omega, by have := HE.out.2; omega, HI5.out, HB2.out⟩
            case measure => simp [intOf]; omega
      have d5 : ((f : Int) % 2 == 1) = false := beq_eq_false_iff_ne.2 (by omega)
      by_cases hsame : f = s
      · as_aux_lemma =>
        have hrg : Mer.rgt f s = true := rgt_same hsame
        have d6 : ((f : Int) == (s : Int)) = true := beq_iff_eq.2 (by omega)
        clear hodd hsame
        have HI5 : Hid (IncAt leaf root f0 n0 ps (k + 1) ((dn f s).1 / 2) ((dn f s).2 / 2) (nodeD p r)) := HI2.out hs0 hrg
        clear HI2 HI3 HI4 hrg hc0
        have hN1 : Calls Tryz.prog 61 #[.string p, .string r] wr fun e w' => e = .returned (.string (nodeD p r)) ∧ Below wr.heap.size wr w' := hN p r wr hps hrs
        have HN1 : Hid _ := hN1
        obtain ⟨F, S, hFS⟩ : ∃ F S, dn f s = (F, S) := ⟨_, _, rfl⟩
        have HD : Hid (dn f s = (F, S)) := hFS
        rw [hFS] at HI5
        generalize nodeD p r = q at *
        clear hN1 hN hFS
        go_wp2_with (go_at_call 61; refine Calls.mono HN1.out ?_; rintro e w2 ⟨rfl, hB2⟩)
        have HB2 : Hid (Below w.heap.size w w2) := HB.out.trans (hB2.mono HB.out.size)
        clear hB2 HB HN1 hc
        go_loopw [11, 12] (fun vf vs wx => ∃ (f' s' : Nat), vf = .int .i64 (f' : Int) ∧ vs = .int .i64 (s' : Int) ∧ f' ≤ 1099511627776 ∧ s' ≤ 1099511627776 ∧ Hid (dn f' s' = (F, S)) ∧ wx = w2) (fun vf _ _ => (intOf vf).toNat)
        case atStart => exact ⟨f, s, rfl, rfl, hf, hs, HD, rfl⟩
        case round =>
          clear HD
          obtain ⟨f', s', rfl, rfl, hf', hs', HD', rfl⟩ := hrel
          by_cases e1 : f' % 2 = 0
          · have t1 : ((f' : Int) % 2 == 0) = true := beq_iff_eq.2 (by omega)
            by_cases e2 : f' = 0
            · have t2 : ((f' : Int) != 0) = false := by simp [e2]
              have t3 : ((f' : Int) == 0) = true := by simp [e2]
              have HE : Hid (f' = F ∧ s' = S) := by have := HD'.out; rw [dn_stop (Or.inr e2)] at this; injection this with a1 a2; exact ⟨a1, a2⟩
              clear HD' e1 e2
              go_wp2
              go_roundw
              case rel => exact ⟨k + 1, F / 2, S / 2, q, by go_num, by rw [← HE.out.1]; go_num, by rw [← HE.out.2]; go_num, rfl, hlt, by have := HE.out.1; omega, by have := HE.out.2; omega, HI5.out, HB2.out⟩
              case measure => simp [intOf]; omega
            · have t2 : ((f' : Int) != 0) = true := by simp; omega
              have t3 : ((f' : Int) == 0) = false := by simp; omega
              have HE : Hid (dn (f' / 2) (s' / 2) = (F, S)) := by have := HD'.out; rw [dn_go e1 e2] at this; exact this
              clear HD' e1
              go_wp2
              go_roundw
              case rel => exact ⟨f' / 2, s' / 2, by go_num, by go_num, by omega, by omega, HE, trivial⟩
              case measure => simp [intOf]; omega
          · have t1 : ((f' : Int) % 2 == 0) = false := beq_eq_false_iff_ne.2 (by omega)
            have HE : Hid (f' = F ∧ s' = S) := by have := HD'.out; rw [dn_stop (Or.inl (by omega))] at this; injection this with a1 a2; exact ⟨a1, a2⟩
            clear HD' e1
            go_wp2
            go_roundw
            case rel => exact ⟨k + 1, F / 2, S / 2, q, by go_num, by rw [← HE.out.1]; go_num, by rw [← HE.out.2]; go_num, rfl, hlt, by have := HE.out.1; omega, by have := HE.out.2; omega, HI5.out, HB2.out⟩
            case measure => simp [intOf]; omega
      · as_aux_lemma =>
        have HI5 : Hid (IncAt leaf root f0 n0 ps (k + 1) (f / 2) (s / 2) (nodeD r p)) := HI3.out hs0 (rgt_not hodd hsame)
        have d6 : ((f : Int) == (s : Int)) = false := beq_eq_false_iff_ne.2 (by omega)
        have HN1 : Hid (Calls Tryz.prog 61 #[.string r, .string p] wr fun e w' => e = .returned (.string (nodeD r p)) ∧ Below wr.heap.size wr w') := hN r p wr hrs hps
        generalize nodeD r p = q at *
        clear HI2 HI3 HI4 hc0 hodd hsame hN
        go_wp2_with (go_at_call 61; refine Calls.mono HN1.out ?_; rintro e w2 ⟨rfl, hB2⟩)
        have HB2 : Hid (Below w.heap.size w w2) := HB.out.trans (hB2.mono HB.out.size)
        clear hB2 HB HN1 hc
        go_roundw
        case rel => exact ⟨k + 1, f / 2, s / 2, q, by go_num, by go_num, by go_num, rfl, hlt, by omega, by omega, HI5.out, HB2.out⟩
        case measure => simp [intOf]; omega
    · obtain rfl : k = m := by omega
      have HF : Hid (R = (s == 0 && decide (r = root))) := by
        show _ = _
        have := HI.out
        rw [← HM.out] at this
        rw [← HR.out]
        exact this.done
      clear HI hB
      by_cases hs0 : s = 0
      · subst hs0
        by_cases hrr : r = root
        · have HF2 : Hid (R = true) := by show _ = _; rw [HF.out, decide_eq_true hrr]; rfl
          have t1 : (r.toList == root.toList) = true := by rw [hrr]; exact txt_eq _
          clear HF hrr
          go_wp2
          go_ret
          exact ⟨retY HF2.out.symm, HB.out⟩
        · have HF2 : Hid (R = false) := by show _ = _; rw [HF.out, decide_eq_false hrr]; rfl
          have t1 := txt_ne hrr
          clear HF hrr
          go_wp2
          go_ret
          exact ⟨retY HF2.out.symm, HB.out⟩
      · have HF2 : Hid (R = false) := by show _ = _; rw [HF.out, beq_eq_false_iff_ne.2 hs0]; rfl
        have d0 : ((s : Int) == 0) = false := beq_eq_false_iff_ne.2 (by omega)
        clear HF
        go_wp2
        go_ret
        exact ⟨retY HF2.out.symm, HB.out⟩
set_option maxRecDepth 100000 in
set_option maxHeartbeats 2000000 in
theorem specInc (leaf root : ByteArray) (i n : Int) (a : Option Addr) (c m : Nat) (ps : List ByteArray) (w : World) (hm : ps.length = m) (hA : SA w a ps) (hl : leaf.size ≤ maxLen) (hr : root.size ≤ maxLen) (hM : m ≤ 1000000000) (hx : ∀ x ∈ ps, x.size ≤ maxLen) :
    Calls Tryz.prog 24 #[.string leaf, .int .i64 i, .int .i64 n, .slice a m c, .string root] w fun e w' => e = .returned (.bool (incB leaf i n ps root)) ∧ Below w.heap.size w w' := by
  by_cases hok : leaf.size = 32 ∧ root.size = 32 ∧ ps.length ≤ 400 ∧ okHs ps = true ∧ 1 ≤ n ∧ n ≤ 1099511627776 ∧ 0 ≤ i ∧ i < n
  · exact specInc0 leaf root i n a c m ps w hm hA hok
  have HR : Hid (incB leaf i n ps root = false) := incB_no hok
  have hH1 : ∀ w0, leaf.size = 32 → Calls Tryz.prog 59 #[.string leaf] w0 fun e w' => e = .returned (.bool true) ∧ w0 = w' := fun w0 h => specH32 leaf w0 h
  have hH1' : ∀ w0, ¬ leaf.size = 32 → Calls Tryz.prog 59 #[.string leaf] w0 fun e w' => e = .returned (.bool false) ∧ w0 = w' := fun w0 h => specH32' leaf w0 h hl
  have hH2 : ∀ w0, root.size = 32 → Calls Tryz.prog 59 #[.string root] w0 fun e w' => e = .returned (.bool true) ∧ w0 = w' := fun w0 h => specH32 root w0 h
  have hH2' : ∀ w0, ¬ root.size = 32 → Calls Tryz.prog 59 #[.string root] w0 fun e w' => e = .returned (.bool false) ∧ w0 = w' := fun w0 h => specH32' root w0 h hr
  have HH3 : Hid (Calls Tryz.prog 60 #[.slice a m c] w fun e w' => e = .returned (.bool (okHs ps)) ∧ w = w') := (specHashes a c m ps w hm hA hM hx).mono fun e w' h => ⟨h.1, h.2.symm⟩
  have hmm : ps.length = m := hm
  unfold maxLen at hl hr
  clear hA hx
  by_cases b1 : 20000 < leaf.size
  · have db1 : decide ((20000 : Int) < (leaf.size : Int)) = true := decide_eq_true (by omega)
    clear HH3 hok
    go_enter Tryz.func24, Tryz.ntmps24
    go_wp2
    go_ret
    exact ⟨retY HR.out.symm, Below.refl _ _⟩
  have db1 : decide ((20000 : Int) < (leaf.size : Int)) = false := decide_eq_false (by omega)
  by_cases b2 : 20000 < root.size
  · have db2 : decide ((20000 : Int) < (root.size : Int)) = true := decide_eq_true (by omega)
    clear HH3 hok
    go_enter Tryz.func24, Tryz.ntmps24
    go_wp2
    go_ret
    exact ⟨retY HR.out.symm, Below.refl _ _⟩
  have db2 : decide ((20000 : Int) < (root.size : Int)) = false := decide_eq_false (by omega)
  by_cases b3 : 400 < m
  · have db3 : decide ((400 : Int) < (m : Int)) = true := decide_eq_true (by omega)
    clear HH3 hok
    go_enter Tryz.func24, Tryz.ntmps24
    go_wp2
    go_ret
    exact ⟨retY HR.out.symm, Below.refl _ _⟩
  have db3 : decide ((400 : Int) < (m : Int)) = false := decide_eq_false (by omega)
  by_cases q1 : leaf.size = 32
  case neg =>
    clear HH3 hok
    go_enter Tryz.func24, Tryz.ntmps24
    go_wp2_with (first
      | (go_at_call 59; with_reducible refine (hH1' _ q1).mono ?_; rintro e w' ⟨rfl, rfl⟩))
    go_ret
    exact ⟨retY HR.out.symm, Below.refl _ _⟩
  by_cases q2 : root.size = 32
  case neg =>
    clear HH3 hok
    go_enter Tryz.func24, Tryz.ntmps24
    go_wp2_with (first
      | (go_at_call 59; with_reducible refine (hH1 _ q1).mono ?_; rintro e w' ⟨rfl, rfl⟩)
      | (go_at_call 59; with_reducible refine (hH2' _ q2).mono ?_; rintro e w' ⟨rfl, rfl⟩))
    go_ret
    exact ⟨retY HR.out.symm, Below.refl _ _⟩
  by_cases q3 : okHs ps = true
  case neg =>
    have q3' : okHs ps = false := by simpa using q3
    rw [q3'] at HH3
    clear hok q3 q3'
    go_enter Tryz.func24, Tryz.ntmps24
    go_wp2_with (first
      | (go_at_call 59; with_reducible refine (hH1 _ q1).mono ?_; rintro e w' ⟨rfl, rfl⟩)
      | (go_at_call 59; with_reducible refine (hH2 _ q2).mono ?_; rintro e w' ⟨rfl, rfl⟩)
      | (go_at_call 60; refine Calls.mono HH3.out ?_; rintro e w' ⟨rfl, rfl⟩))
    go_ret
    exact ⟨retY HR.out.symm, Below.refl _ _⟩
  rw [q3] at HH3
  by_cases c0 : n < 1
  · have e0 : decide (n < 1) = true := decide_eq_true c0
    clear hok
    go_enter Tryz.func24, Tryz.ntmps24
    go_wp2_with (first
      | (go_at_call 59; with_reducible refine (hH1 _ q1).mono ?_; rintro e w' ⟨rfl, rfl⟩)
      | (go_at_call 59; with_reducible refine (hH2 _ q2).mono ?_; rintro e w' ⟨rfl, rfl⟩)
      | (go_at_call 60; refine Calls.mono HH3.out ?_; rintro e w' ⟨rfl, rfl⟩))
    go_ret
    exact ⟨retY HR.out.symm, Below.refl _ _⟩
  have e0 : decide (n < 1) = false := decide_eq_false c0
  by_cases c1 : 1099511627776 < n
  · have e1 : decide (1099511627776 < n) = true := decide_eq_true c1
    clear hok
    go_enter Tryz.func24, Tryz.ntmps24
    go_wp2_with (first
      | (go_at_call 59; with_reducible refine (hH1 _ q1).mono ?_; rintro e w' ⟨rfl, rfl⟩)
      | (go_at_call 59; with_reducible refine (hH2 _ q2).mono ?_; rintro e w' ⟨rfl, rfl⟩)
      | (go_at_call 60; refine Calls.mono HH3.out ?_; rintro e w' ⟨rfl, rfl⟩))
    go_ret
    exact ⟨retY HR.out.symm, Below.refl _ _⟩
  have e1 : decide (1099511627776 < n) = false := decide_eq_false c1
  by_cases c2 : i < 0
  · have e2 : decide (i < 0) = true := decide_eq_true c2
    clear hok
    go_enter Tryz.func24, Tryz.ntmps24
    go_wp2_with (first
      | (go_at_call 59; with_reducible refine (hH1 _ q1).mono ?_; rintro e w' ⟨rfl, rfl⟩)
      | (go_at_call 59; with_reducible refine (hH2 _ q2).mono ?_; rintro e w' ⟨rfl, rfl⟩)
      | (go_at_call 60; refine Calls.mono HH3.out ?_; rintro e w' ⟨rfl, rfl⟩))
    go_ret
    exact ⟨retY HR.out.symm, Below.refl _ _⟩
  have e2 : decide (i < 0) = false := decide_eq_false c2
  by_cases c3 : n ≤ i
  · have e3 : decide (n ≤ i) = true := decide_eq_true c3
    clear hok
    go_enter Tryz.func24, Tryz.ntmps24
    go_wp2_with (first
      | (go_at_call 59; with_reducible refine (hH1 _ q1).mono ?_; rintro e w' ⟨rfl, rfl⟩)
      | (go_at_call 59; with_reducible refine (hH2 _ q2).mono ?_; rintro e w' ⟨rfl, rfl⟩)
      | (go_at_call 60; refine Calls.mono HH3.out ?_; rintro e w' ⟨rfl, rfl⟩))
    go_ret
    exact ⟨retY HR.out.symm, Below.refl _ _⟩
  have e3 : decide (n ≤ i) = false := decide_eq_false c3
  exact absurd ⟨q1, q2, by omega, q3, by omega, by omega, by omega, by omega⟩ hok
end Go.Proofs.YtdfglpbappeoaaaGreatDoor
