/- The laws over LeafHash, NodeHash, TreeRoot, InclusionCheck and ConsistencyCheck, walked out of what the program's functions answer. LeafHash and NodeHash of the program, for every argument. The root of a tree of texts, on the program's side. -/
import Derived.Test.YtdfglpbappeoaabDoorConS
import Derived.Test.YtdfglpbappeoaabDoorLaid
namespace Go.Proofs.YtdfglpbappeoaabDoor
open Go.RowKit
set_option linter.unusedVariables false

/- What the program's functions answer: to be shown of the program's own text. -/
def LeafI : Prop := ∀ (t : ByteArray) (w : World), t.size ≤ maxLen → ArrU w 8 keys → 8 < w.heap.size → Calls Tryd.prog 16 #[.string t] w fun e w' => e = .returned (.string (leafA t)) ∧ Below w.heap.size w w'
def NodeI : Prop := ∀ (a b : ByteArray) (w : World), a.size ≤ maxLen → b.size ≤ maxLen → ArrU w 8 keys → 8 < w.heap.size → Calls Tryd.prog 48 #[.string a, .string b] w fun e w' => e = .returned (.string (nodeA a b)) ∧ Below w.heap.size w w'
def TreeI : Prop := ∀ (a : Option Addr) (c n : Nat) (l : List ByteArray) (w : World), l.length = n → n ≤ c → SA w a l → n ≤ 1048576 → c ≤ 9223372036854775807 → (∀ x ∈ l, x.size ≤ maxLen) → ArrU w 8 keys → 8 < w.heap.size → Calls Tryd.prog 9 #[.slice a n c] w fun e w' => e = .returned (.string (rootA l)) ∧ Below w.heap.size w w'
def IncI : Prop := ∀ (leaf root : ByteArray) (i n : Int) (a : Option Addr) (c m : Nat) (ps : List ByteArray) (w : World), ps.length = m → m ≤ c → SA w a ps → leaf.size ≤ maxLen → root.size ≤ maxLen → m ≤ 1048576 → (∀ x ∈ ps, x.size ≤ maxLen) → (Lit.int .i64 i).wf = true → (Lit.int .i64 n).wf = true → ArrU w 8 keys → 8 < w.heap.size →
    Calls Tryd.prog 15 #[.string leaf, .int .i64 i, .int .i64 n, .slice a m c, .string root] w fun e w' => e = .returned (.bool (incB leaf i n ps root)) ∧ Below w.heap.size w w'
def ConI : Prop := ∀ (old root : ByteArray) (i n : Int) (b o c m : Nat) (ps : List ByteArray) (w : World), ps.length = m → m ≤ c → SA w (some ⟨b, o, none⟩) ps → old.size ≤ maxLen → root.size ≤ maxLen → m ≤ 1048576 → (∀ x ∈ ps, x.size ≤ maxLen) → (Lit.int .i64 i).wf = true → (Lit.int .i64 n).wf = true → ArrU w 8 keys → 8 < w.heap.size →
    Calls Tryd.prog 17 #[.int .i64 i, .int .i64 n, .slice (some ⟨b, o, none⟩) m c, .string old, .string root] w fun e w' => e = .returned (.bool (conB i n ps old root)) ∧ Below w.heap.size w w'

end Go.Proofs.YtdfglpbappeoaabDoor
namespace Go.Proofs.YtdfglpbappeoaabDoor
open Go.RowKit
set_option linter.unusedVariables false

theorem ownH32 (t : ByteArray) (w : World) (h : t.size = 32) :
    Calls Tryd.prog 45 #[.string t] w fun e w' => e = .returned (.bool true) ∧ w = w' := by
  have d1 : ((t.size : Int) == 32) = true := beq_iff_eq.2 (by omega)
  go_enter Tryd.func45, Tryd.ntmps45
  go_wp2
  go_ret
  exact ⟨rfl, rfl⟩
theorem ownH32' (t : ByteArray) (w : World) (h : ¬ t.size = 32) (hm : t.size ≤ maxLen) :
    Calls Tryd.prog 45 #[.string t] w fun e w' => e = .returned (.bool false) ∧ w = w' := by
  unfold maxLen at hm
  have d1 : ((t.size : Int) == 32) = false := beq_eq_false_iff_ne.2 (by omega)
  go_enter Tryd.func45, Tryd.ntmps45
  go_wp2
  go_ret
  exact ⟨rfl, rfl⟩
theorem ownH32B (t : ByteArray) (w : World) (hm : t.size ≤ maxLen) :
    Calls Tryd.prog 45 #[.string t] w fun e w' => e = .returned (.bool (decide (t.size = 32))) ∧ w = w' := by
  by_cases h : t.size = 32
  · rw [decide_eq_true h]; exact ownH32 t w h
  · rw [decide_eq_false h]; exact ownH32' t w h hm

set_option maxRecDepth 100000 in
set_option maxHeartbeats 1000000 in
theorem leafI : LeafI := by
  intro t w ht hk h0
  have ht' := ht
  unfold maxLen at ht'
  have HK : Hid (ArrU w 8 keys) := hk
  clear hk
  by_cases h : t.size < 20000
  · have HR : Hid (leafA t = leafD t) := if_pos h
    obtain ⟨T, hT⟩ : ∃ T, (⟨#[0]⟩ : ByteArray) ++ t = T := ⟨_, rfl⟩
    have s1 : T.size = 1 + t.size := by rw [← hT, ByteArray.size_append, one_size]
    have hD : ∀ w0, ArrU w0 8 keys → 8 < w0.heap.size → Calls Tryd.prog 11 #[.string T] w0 fun e w' => e = .returned (.string (leafD t)) ∧ Below w0.heap.size w0 w' := fun w0 k1 k2 => by
      have := digestI_any T w0 (by unfold maxLen; omega) k1 k2
      rw [show digA T = leafD t by unfold digA leafD; rw [if_neg (by omega), hT]] at this
      exact this
    have d1 : decide ((19999 : Int) < (t.size : Int)) = false := decide_eq_false (by omega)
    generalize leafD t = D at *
    generalize leafA t = D2 at *
    clear ht
    go_enter Tryd.func16, Tryd.ntmps16
    go_wp2_with (go_at_call 11; refine (hD _ HK.out h0).mono ?_; rintro e w1 ⟨rfl, hB1⟩)
    go_ret
    exact ⟨ret_str' HR.out.symm, hB1⟩
  · have HR : Hid (leafA t = ⟨#[]⟩) := if_neg h
    have d1 : decide ((19999 : Int) < (t.size : Int)) = true := decide_eq_true (by omega)
    generalize leafA t = D2 at *
    clear ht
    go_enter Tryd.func16, Tryd.ntmps16
    go_wp2
    go_ret
    exact ⟨ret_str' HR.out.symm, Below.refl _ _⟩

set_option maxRecDepth 100000 in
set_option maxHeartbeats 1000000 in
theorem nodeI : NodeI := by
  intro a b w ha hb hk h0
  have ha' := ha
  have hb' := hb
  unfold maxLen at ha' hb'
  have HK : Hid (ArrU w 8 keys) := hk
  clear hk
  by_cases h1 : a.size = 32
  · by_cases h2 : b.size = 32
    · have HR : Hid (nodeA a b = nodeD a b) := if_pos ⟨h1, h2⟩
      obtain ⟨C, hC⟩ : ∃ C, (⟨#[1]⟩ : ByteArray) ++ a = C := ⟨_, rfl⟩
      have s1 : C.size = 1 + a.size := by rw [← hC, ByteArray.size_append, one_size]
      obtain ⟨T, hT⟩ : ∃ T, C ++ b = T := ⟨_, rfl⟩
      have s2 : T.size = C.size + b.size := by rw [← hT, ByteArray.size_append]
      have hD : ∀ w0, ArrU w0 8 keys → 8 < w0.heap.size → Calls Tryd.prog 11 #[.string T] w0 fun e w' => e = .returned (.string (nodeD a b)) ∧ Below w0.heap.size w0 w' := fun w0 k1 k2 => by
        have := digestI_any T w0 (by unfold maxLen; omega) k1 k2
        rw [show digA T = nodeD a b by unfold digA nodeD; rw [if_neg (by omega), hC, hT]] at this
        exact this
      generalize nodeD a b = D at *
      generalize nodeA a b = D2 at *
      clear ha hb
      go_enter Tryd.func48, Tryd.ntmps48
      go_wp2_with (first
        | (go_at_call 45; with_reducible refine (ownH32 a _ h1).mono ?_; rintro e w' ⟨rfl, rfl⟩)
        | (go_at_call 45; with_reducible refine (ownH32 b _ h2).mono ?_; rintro e w' ⟨rfl, rfl⟩)
        | (go_at_call 11; refine (hD _ HK.out h0).mono ?_; rintro e w1 ⟨rfl, hB1⟩))
      go_ret
      exact ⟨ret_str' HR.out.symm, hB1⟩
    · have HR : Hid (nodeA a b = ⟨#[]⟩) := if_neg (fun h => h2 h.2)
      generalize nodeA a b = D2 at *
      go_enter Tryd.func48, Tryd.ntmps48
      go_wp2_with (first
        | (go_at_call 45; with_reducible refine (ownH32 a _ h1).mono ?_; rintro e w' ⟨rfl, rfl⟩)
        | (go_at_call 45; with_reducible refine (ownH32' b _ h2 hb).mono ?_; rintro e w' ⟨rfl, rfl⟩))
      go_ret
      exact ⟨ret_str' HR.out.symm, Below.refl _ _⟩
  · have HR : Hid (nodeA a b = ⟨#[]⟩) := if_neg (fun h => h1 h.1)
    generalize nodeA a b = D2 at *
    go_enter Tryd.func48, Tryd.ntmps48
    go_wp2_with (first
      | (go_at_call 45; with_reducible refine (ownH32' a _ h1 ha).mono ?_; rintro e w' ⟨rfl, rfl⟩))
    go_ret
    exact ⟨ret_str' HR.out.symm, Below.refl _ _⟩
/- Of hashes of 32 bytes it is the node's hash. -/
theorem nodeI32 (a b : ByteArray) (w : World) (ha : a.size = 32) (hb : b.size = 32) (hk : ArrU w 8 keys) (h0 : 8 < w.heap.size) :
    Calls Tryd.prog 48 #[.string a, .string b] w fun e w' => e = .returned (.string (nodeD a b)) ∧ Below w.heap.size w w' := by
  have := nodeI a b w (by rw [ha]; decide) (by rw [hb]; decide) hk h0
  rw [show nodeA a b = nodeD a b from if_pos ⟨ha, hb⟩] at this
  exact this
theorem leafI20 (t : ByteArray) (w : World) (ht : t.size < 20000) (hk : ArrU w 8 keys) (h0 : 8 < w.heap.size) :
    Calls Tryd.prog 16 #[.string t] w fun e w' => e = .returned (.string (leafD t)) ∧ Below w.heap.size w w' := by
  have := leafI t w (by unfold maxLen; omega) hk h0
  rw [show leafA t = leafD t from if_pos ht] at this
  exact this
end Go.Proofs.YtdfglpbappeoaabDoor
namespace Go.Proofs.YtdfglpbappeoaabDoor
open Go.RowKit
set_option linter.unusedVariables false

theorem Tryd.sliceHiM (b o n c k : Nat) (h : k < n) (hc : n ≤ c) : ∀ w, (Instr.slice 23 (.slice (some ⟨b, o, none⟩) n c) (some (.int .i64 (k : Int))) (some (.int .i64 (n : Int))) (some (.int .i64 (n : Int)))).run Tryd.prog w = .ok (.slice (some ⟨b, o + k, none⟩) (n - k) (n - k)) w := by
  intro w
  have h1 : (k : Int) ≤ n := by omega
  have h2 : (n : Int) ≤ c := by omega
  simp [Instr.slice, run_underlying Tryd.underlying23, Instr.sliceBounds, run_sliceBound, h1, h2, show ¬ n = k by omega, Addr.add_lit]
set_option maxRecDepth 100000 in
set_option maxHeartbeats 1000000 in
theorem splitI (b o c n : Nat) (w : World) (h2 : 2 ≤ n) (hc : n ≤ c) (hn : n ≤ 1000000) :
    Calls Tryd.prog 86 #[.slice (some ⟨b, o, none⟩) n c] w fun e w' => e = .returned (.tuple #[.slice (some ⟨b, o, none⟩) (Mer.half n) (Mer.half n), .slice (some ⟨b, o + Mer.half n, none⟩) (n - Mer.half n) (n - Mer.half n)]) ∧ Below w.heap.size w w' := by
  have HF : Hid (∀ k j : Nat, k = 2 ^ j → k < n → n ≤ 2 * k → Mer.half n = k) := fun k j e h1 h2 => by subst e; exact Mer.half_uniq h1 h2
  generalize Mer.half n = H at *
  go_enter Tryd.func86, Tryd.ntmps86
  go_wp2_with fail
  go_loop [5] (fun vk => ∃ k : Nat, vk = .int .i64 (k : Int) ∧ 1 ≤ k ∧ k < n ∧ Hid (∃ j, k = 2 ^ j)) (fun vk => n - (intOf vk).toNat)
  case atStart => exact ⟨1, rfl, Nat.le_refl _, by omega, ⟨0, rfl⟩⟩
  case round =>
    obtain ⟨k, rfl, hk1, hk2, HJ⟩ := hrel
    by_cases hlt : 2 * k < n
    · have hi : (2 : Int) * (k : Int) < n := by omega
      have HJ2 : Hid (∃ j, 2 * k = 2 ^ j) := by
        obtain ⟨j, hj⟩ := HJ.out
        exact ⟨j + 1, by rw [Nat.pow_succ, hj, Nat.mul_comm]⟩
      go_wp2
      exact ⟨⟨2 * k, by go_num, by omega, hlt, HJ2⟩, by simp [intOf]; omega⟩
    · have hi : ¬ (2 : Int) * (k : Int) < n := by omega
      have HR : Hid (H = k) := by
        obtain ⟨j, hj⟩ := HJ.out
        exact HF.out k j hj hk2 (by omega)
      obtain rfl : H = k := HR.out
      have s1 := Tryd.sliceLoM b o n c H (by omega)
      have s2 := Tryd.sliceHiM b o n c H hk2 hc
      clear HF HJ
      go_wp2_with fail
      go_quiet (fail)
      go_wp2
      exact bodyPost_ret (v := .tuple #[.slice (some ⟨b, o, none⟩) H H, .slice (some ⟨b, o + H, none⟩) (n - H) (n - H)]) (by simp [results, Tryd.results86, go_sem]) rfl ⟨rfl, belowN (Below.refl _ _) _⟩
set_option maxRecDepth 100000 in
set_option maxHeartbeats 1000000 in
theorem rightLI (a : Option Addr) (c n : Nat) (l : List ByteArray) (w : World) (hn : l.length = n) (h : SA w a l) (hM : n ≤ 1000000000) (hx : ∀ x ∈ l, x.size ≤ maxLen) :
    Calls Tryd.prog 34 #[.slice a n c] w fun e w' => e = .returned (.bool (okLv l)) ∧ w = w' := by
  have HA : Hid (SA w a l) := h
  have HN : Hid (l.length = n) := hn
  have HX : Hid (∀ x ∈ l, x.size ≤ maxLen) := hx
  clear h hn hx
  by_cases hb : 64 < n
  · have HR : Hid (okLv l = false) := okLv_no (fun e => by have := HN.out; have := e.1; omega)
    have d1 : decide ((64 : Int) < n) = true := decide_eq_true (by omega)
    go_enter Tryd.func34, Tryd.ntmps34
    go_wp2
    go_ret
    exact ⟨retY HR.out.symm, rfl⟩
  · have d1 : decide ((64 : Int) < n) = false := decide_eq_false (by omega)
    go_enter Tryd.func34, Tryd.ntmps34
    go_wp2_with fail
    go_loop [10] (fun vi => ∃ k : Nat, vi = .int .i64 (k : Int) ∧ k ≤ n ∧ Hid (∀ x ∈ l.take k, x.size < 20000)) (fun vi => n - (intOf vi).toNat)
    case atStart => exact ⟨0, rfl, Nat.zero_le _, fun x h => by simp at h⟩
    case round =>
      obtain ⟨k, rfl, hk, HT⟩ := hrel
      by_cases hlt : k < n
      · have hkl : k < l.length := by have := HN.out; omega
        obtain ⟨b, o, rfl, hc⟩ := HA.out k hkl
        have hxs := HX.out l[k] (List.getElem_mem hkl)
        have HM : Hid (l[k] ∈ l) := List.getElem_mem hkl
        have HT2 : Hid (l[k].size < 20000 → ∀ x ∈ l.take (k + 1), x.size < 20000) := fun hz x hx => by
          rw [List.take_succ_eq_append_getElem hkl] at hx
          rcases List.mem_append.1 hx with h1 | h1
          · exact HT.out x h1
          · rw [List.mem_singleton.1 h1]; exact hz
        unfold maxLen at hxs
        generalize l[k] = x at *
        have lk : (k : Int) < n := by omega
        have l0 : (0 : Int) ≤ k := by omega
        clear hkl HT
        by_cases hz : x.size < 20000
        · have HT3 : Hid (∀ x ∈ l.take (k + 1), x.size < 20000) := HT2.out hz
          have d2 : decide ((19999 : Int) < (x.size : Int)) = false := decide_eq_false (by omega)
          clear HT2
          go_wp2
          exact ⟨⟨k + 1, by go_num, hlt, HT3⟩, by simp [intOf]; omega⟩
        · have d2 : decide ((19999 : Int) < (x.size : Int)) = true := decide_eq_true (by omega)
          have HR : Hid (okLv l = false) := okLv_no (fun e => hz (e.2 x HM.out))
          clear HT2 HM hz
          go_wp2
          go_ret
          exact ⟨retY HR.out.symm, rfl⟩
      · obtain rfl : k = n := by omega
        have HR : Hid (okLv l = true) := okLv_yes ⟨by have := HN.out; omega, by
          have := HT.out
          rw [List.take_of_length_le (by have := HN.out; omega)] at this
          exact this⟩
        clear HT
        go_wp2
        go_ret
        exact ⟨retY HR.out.symm, rfl⟩
/- The code of leaves. -/
def lvC (l : List ByteArray) : Int := if 400 < l.length then 2 else if okLv l = false then 1 else 0
set_option maxRecDepth 100000 in
set_option maxHeartbeats 1000000 in
theorem codeLI (a : Option Addr) (c n : Nat) (l : List ByteArray) (w : World) (hn : l.length = n) (h : SA w a l) (hM : n ≤ 1000000000) (hx : ∀ x ∈ l, x.size ≤ maxLen) :
    Calls Tryd.prog 41 #[.slice a n c] w fun e w' => e = .returned (.int .i64 (lvC l)) ∧ w = w' := by
  by_cases hb : 400 < n
  · have HR : Hid (lvC l = 2) := if_pos (by omega)
    have d1 : decide ((400 : Int) < n) = true := decide_eq_true (by omega)
    clear h hx
    go_enter Tryd.func41, Tryd.ntmps41
    go_wp2
    go_ret
    exact ⟨retZ HR.out.symm, rfl⟩
  have d1 : decide ((400 : Int) < n) = false := decide_eq_false (by omega)
  have HC : Hid (Calls Tryd.prog 34 #[.slice a n c] w fun e w' => e = .returned (.bool (okLv l)) ∧ w = w') := rightLI a c n l w hn h hM hx
  clear h hx
  cases ho : okLv l with
  | false =>
    have HR : Hid (lvC l = 1) := by show _ = _; unfold lvC; rw [if_neg (by omega), if_pos ho]
    rw [ho] at HC
    clear ho
    go_enter Tryd.func41, Tryd.ntmps41
    go_wp2_with (go_at_call 34; refine Calls.mono HC.out ?_; rintro e w' ⟨rfl, rfl⟩)
    go_ret
    exact ⟨retZ HR.out.symm, rfl⟩
  | true =>
    have HR : Hid (lvC l = 0) := by show _ = _; unfold lvC; rw [if_neg (by omega), if_neg (by rw [ho]; decide)]
    rw [ho] at HC
    clear ho
    go_enter Tryd.func41, Tryd.ntmps41
    go_wp2_with (go_at_call 34; refine Calls.mono HC.out ?_; rintro e w' ⟨rfl, rfl⟩)
    go_ret
    exact ⟨retZ HR.out.symm, rfl⟩
/- What stands while the program makes a root. -/
structure KpT (w : World) (a : Option Addr) (l : List ByteArray) (w' : World) : Prop where
  below : Below w.heap.size w w'
  sa : SA w' a l
  arr : ArrU w' 8 keys
  pos : 8 < w'.heap.size
theorem KpT.hid {w w' w2 : World} {a : Option Addr} {l : List ByteArray} (h : Hid (KpT w a l w')) (hb : Below w'.heap.size w' w2) : Hid (KpT w a l w2) := ⟨h.out.below.trans (hb.mono h.out.below.size), h.out.sa.below hb, h.out.arr.below hb h.out.pos, Nat.lt_of_lt_of_le h.out.pos hb.size⟩
set_option maxRecDepth 100000 in
set_option maxHeartbeats 1000000 in
theorem rootI : ∀ (m : Nat) (a : Option Addr) (c n : Nat) (l : List ByteArray) (w : World), l.length ≤ m → l.length = n → 1 ≤ n → n ≤ c → SA w a l → n ≤ 1000 → c ≤ 9223372036854775807 → (∀ x ∈ l, x.size < 20000) → ArrU w 8 keys → 8 < w.heap.size →
    Calls Tryd.prog 35 #[.slice a n c] w fun e w' => e = .returned (.string (rtT l)) ∧ Below w.heap.size w w'
  | m, a, c, n, l, w, hm, hn, hn1, hc, hA, hM, hcM, hx, hk, h0 => by
    by_cases h1 : n = 1
    · obtain ⟨x, rfl⟩ := List.length_eq_one_iff.1 (hn.trans h1)
      obtain ⟨b, o, rfl, hcell⟩ := hA 0 (by simp)
      have HR : Hid (rtT [x] = leafD x) := rfl
      have HL : Hid (Calls Tryd.prog 16 #[.string x] w fun e w' => e = .returned (.string (leafD x)) ∧ Below w.heap.size w w') := leafI20 _ w (hx x (by simp)) hk h0
      have hcell2 : w.cell? ⟨b, o, none⟩ = some (.string x) := hcell
      generalize leafD x = E at *
      generalize rtT [x] = T at *
      subst h1
      clear hA hx hcell hk
      go_enter Tryd.func35, Tryd.ntmps35
      go_wp2_with (go_at_call 16; refine Calls.mono HL.out ?_; rintro e w1 ⟨rfl, hB1⟩)
      go_ret
      exact ⟨ret_str' HR.out.symm, hB1⟩
    have d1 : ((n : Int) == 1) = false := beq_eq_false_iff_ne.2 (by omega)
    have h2 : 2 ≤ n := by omega
    match m, hm with
    | 0, hm => omega
    | m + 1, hm =>
      have hl := Mer.half_lt h2
      have hp := Mer.half_pos n
      obtain ⟨b, o, rfl⟩ := hA.base (by omega)
      have l1 : (l.take (Mer.half n)).length = Mer.half n := by rw [List.length_take]; omega
      have l2 : (l.drop (Mer.half n)).length = n - Mer.half n := by rw [List.length_drop]; omega
      have hS : ∀ w0, Calls Tryd.prog 86 #[.slice (some ⟨b, o, none⟩) n c] w0 fun e w' => e = .returned (.tuple #[.slice (some ⟨b, o, none⟩) (Mer.half n) (Mer.half n), .slice (some ⟨b, o + Mer.half n, none⟩) (n - Mer.half n) (n - Mer.half n)]) ∧ Below w0.heap.size w0 w' := fun w0 => splitI b o c n w0 h2 hc (by omega)
      have hR1 : ∀ w0, Hid (KpT w (some ⟨b, o, none⟩) l w0) → Calls Tryd.prog 35 #[.slice (some ⟨b, o, none⟩) (Mer.half n) (Mer.half n)] w0 fun e w' => e = .returned (.string (rtT (l.take (Mer.half n)))) ∧ Below w0.heap.size w0 w' := fun w0 h =>
        rootI m (some ⟨b, o, none⟩) (Mer.half n) (Mer.half n) (l.take (Mer.half n)) w0 (by omega) l1 (by omega) (Nat.le_refl _) (h.out.sa.take _) (by omega) (by omega) (fun x hx' => hx x (List.mem_of_mem_take hx')) h.out.arr h.out.pos
      have hR2 : ∀ w0, Hid (KpT w (some ⟨b, o, none⟩) l w0) → Calls Tryd.prog 35 #[.slice (some ⟨b, o + Mer.half n, none⟩) (n - Mer.half n) (n - Mer.half n)] w0 fun e w' => e = .returned (.string (rtT (l.drop (Mer.half n)))) ∧ Below w0.heap.size w0 w' := fun w0 h =>
        rootI m (some ⟨b, o + Mer.half n, none⟩) (n - Mer.half n) (n - Mer.half n) (l.drop (Mer.half n)) w0 (by omega) l2 (by omega) (Nat.le_refl _) (h.out.sa.drop _) (by omega) (by omega) (fun x hx' => hx x (List.mem_of_mem_drop hx')) h.out.arr h.out.pos
      have hN : ∀ w0, Hid (KpT w (some ⟨b, o, none⟩) l w0) → Calls Tryd.prog 48 #[.string (rtT (l.take (Mer.half n))), .string (rtT (l.drop (Mer.half n)))] w0 fun e w' => e = .returned (.string (rtT l)) ∧ Below w0.heap.size w0 w' := fun w0 h => by
        have := nodeI32 (rtT (l.take (Mer.half n))) (rtT (l.drop (Mer.half n))) w0 (rtT_size _) (rtT_size _) h.out.arr h.out.pos
        rw [rtT_two (by omega : 2 ≤ l.length), hn]
        exact this
      have HS : Hid (KpT w (some ⟨b, o, none⟩) l w) := KpT.mk (Below.refl _ _) hA hk h0
      generalize rtT (l.take (Mer.half n)) = T1 at *
      generalize rtT (l.drop (Mer.half n)) = T2 at *
      generalize rtT l = T at *
      generalize Mer.half n = k at *
      clear hA hx l1 l2 hk
      go_enter Tryd.func35, Tryd.ntmps35
      go_wp2_with (first
        | (go_at_call 86; refine (hS _).mono ?_; rintro e w5 ⟨rfl, h5⟩; have HS5 := KpT.hid HS h5)
        | (go_at_call 35; with_reducible refine (hR1 _ HS5).mono ?_; rintro e w6 ⟨rfl, h6⟩; have HS6 := KpT.hid HS5 h6)
        | (go_at_call 35; with_reducible refine (hR2 _ HS6).mono ?_; rintro e w7 ⟨rfl, h7⟩; have HS7 := KpT.hid HS6 h7)
        | (go_at_call 48; refine (hN _ HS7).mono ?_; rintro e w8 ⟨rfl, h8⟩; have HS8 := KpT.hid HS7 h8))
      go_ret
      exact ⟨rfl, HS8.out.below⟩
set_option maxRecDepth 100000 in
set_option maxHeartbeats 1000000 in
theorem treeI : TreeI := by
  intro a c n l w hn hc h hM hcM hx hk h0
  have HC : Hid (Calls Tryd.prog 34 #[.slice a n c] w fun e w' => e = .returned (.bool (okLv l)) ∧ w = w') := rightLI a c n l w hn h (by omega) hx
  cases ho : okLv l with
  | false =>
    have HR : Hid (rootA l = ⟨#[]⟩) := by show _ = _; unfold rootA; rw [ho]; rfl
    rw [ho] at HC
    generalize rootA l = T2 at *
    clear h hx ho hk
    go_enter Tryd.func9, Tryd.ntmps9
    go_wp2_with (go_at_call 34; refine Calls.mono HC.out ?_; rintro e w' ⟨rfl, rfl⟩)
    go_ret
    exact ⟨ret_str' HR.out.symm, Below.refl _ _⟩
  | true =>
    have HR : Hid (rootA l = rtT l) := by show _ = _; unfold rootA; rw [ho]; rfl
    have ho' := okLv_of ho
    rw [ho] at HC
    by_cases hz : n = 0
    · have HD : Hid (Calls Tryd.prog 11 #[.string ⟨#[]⟩] w fun e w' => e = .returned (.string emptyD) ∧ Below w.heap.size w w') := digestI_any ⟨#[]⟩ w (by decide) hk h0
      have HE : Hid (rootA l = emptyD) := by show _ = _; rw [HR.out, List.length_eq_zero_iff.1 (hn.trans hz)]; exact rtT_nil
      subst hz
      generalize rootA l = T2 at *
      generalize emptyD = E at *
      clear h hx ho ho' hk HR
      go_enter Tryd.func9, Tryd.ntmps9
      go_wp2_with (first
        | (go_at_call 34; refine Calls.mono HC.out ?_; rintro e w' ⟨rfl, rfl⟩)
        | (go_at_call 11; refine Calls.mono HD.out ?_; rintro e w1 ⟨rfl, hB1⟩))
      go_ret
      exact ⟨ret_str' HE.out.symm, hB1⟩
    · have d0 : ((n : Int) == 0) = false := beq_eq_false_iff_ne.2 (by omega)
      have HT : Hid (Calls Tryd.prog 35 #[.slice a n c] w fun e w' => e = .returned (.string (rtT l)) ∧ Below w.heap.size w w') := rootI n a c n l w (by omega) hn (by omega) hc h (by have := ho'.1; omega) hcM ho'.2 hk h0
      generalize rtT l = T at *
      generalize rootA l = T2 at *
      clear h hx ho ho' hk
      go_enter Tryd.func9, Tryd.ntmps9
      go_wp2_with (first
        | (go_at_call 34; refine Calls.mono HC.out ?_; rintro e w' ⟨rfl, rfl⟩)
        | (go_at_call 35; refine Calls.mono HT.out ?_; rintro e w1 ⟨rfl, hB1⟩))
      go_ret
      exact ⟨ret_str' HR.out.symm, hB1⟩
end Go.Proofs.YtdfglpbappeoaabDoor
