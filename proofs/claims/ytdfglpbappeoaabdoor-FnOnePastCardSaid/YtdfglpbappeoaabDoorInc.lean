/- TreeRoot and InclusionCheck on the specification's side. -/
import Derived.Test.YtdfglpbappeoaabDoorTre
namespace Go.Proofs.YtdfglpbappeoaabDoor
open Go.RowKit
set_option linter.unusedVariables false

def rootA (l : List ByteArray) : ByteArray := if okLv l then rtT l else ⟨#[]⟩
set_option maxRecDepth 100000 in
set_option maxHeartbeats 1000000 in
theorem specTree (a : Option Addr) (c n : Nat) (l : List ByteArray) (w : World) (hn : l.length = n) (hc : n ≤ c) (h : SA w a l) (hM : n ≤ 1000000000) (hcM : c ≤ 9223372036854775807) (hx : ∀ x ∈ l, x.size ≤ maxLen) :
    Calls Tryd.prog 10 #[.slice a n c] w fun e w' => e = .returned (.string (rootA l)) ∧ Below w.heap.size w w' := by
  by_cases hb : 400 < n
  · have HR : Hid (rootA l = ⟨#[]⟩) := by show _ = _; unfold rootA; rw [okLv_no (fun e => by have := e.1; omega)]; rfl
    have d1 : decide ((400 : Int) < n) = true := decide_eq_true (by omega)
    clear h hx
    go_enter Tryd.func10, Tryd.ntmps10
    go_wp2
    go_ret
    exact ⟨ret_str' HR.out.symm, Below.refl _ _⟩
  have d1 : decide ((400 : Int) < n) = false := decide_eq_false (by omega)
  have hR : ∀ w0, Hid (SA w0 a l) → Calls Tryd.prog 36 #[.slice a n c] w0 fun e w' => e = .returned (.bool (okLv l)) ∧ w0 = w' := fun w0 h0 => (specRight a c n l w0 hn h0.out hM hx).mono fun e w' h => ⟨h.1, h.2.symm⟩
  have HA : Hid (SA w a l) := h
  by_cases ho : okLv l = true
  · have HR : Hid (rootA l = rtT l) := by show _ = _; unfold rootA; rw [ho]; rfl
    have ho' := okLv_of ho
    have hT : ∀ w0, Hid (SA w0 a l) → Calls Tryd.prog 37 #[.slice a n c] w0 fun e w' => e = .returned (.string (rtT l)) ∧ Below w0.heap.size w0 w' := fun w0 h0 => specRoot n a c n l w0 (by omega) hn hc h0.out (by have := ho'.1; omega) hcM ho'.2
    rw [ho] at hR
    generalize rtT l = T at *
    generalize rootA l = T2 at *
    clear h hx ho ho'
    go_enter Tryd.func10, Tryd.ntmps10
    go_wp2_with (first
      | (go_at_call 36; refine (hR _ HA).mono ?_; rintro e w' ⟨rfl, rfl⟩)
      | (go_at_call 37; refine (hT _ HA).mono ?_; rintro e w1 ⟨rfl, hB1⟩))
    go_ret
    exact ⟨ret_str' HR.out.symm, hB1⟩
  · have hof : okLv l = false := by simpa using ho
    have HR : Hid (rootA l = ⟨#[]⟩) := by show _ = _; unfold rootA; rw [hof]; rfl
    rw [hof] at hR
    generalize rootA l = T2 at *
    clear h hx ho hof
    go_enter Tryd.func10, Tryd.ntmps10
    go_wp2_with (first
      | (go_at_call 36; refine (hR _ HA).mono ?_; rintro e w' ⟨rfl, rfl⟩))
    go_ret
    exact ⟨ret_str' HR.out.symm, Below.refl _ _⟩

def okHs (l : List ByteArray) : Bool := decide (∀ x ∈ l, x.size = 32)
theorem okHs_yes {l : List ByteArray} (h : ∀ x ∈ l, x.size = 32) : okHs l = true := decide_eq_true h
theorem okHs_no {l : List ByteArray} (h : ¬ ∀ x ∈ l, x.size = 32) : okHs l = false := decide_eq_false h
theorem okHs_of {l : List ByteArray} (h : okHs l = true) : ∀ x ∈ l, x.size = 32 := of_decide_eq_true h
set_option maxRecDepth 100000 in
set_option maxHeartbeats 1000000 in
theorem specHashes (a : Option Addr) (c n : Nat) (l : List ByteArray) (w : World) (hn : l.length = n) (h : SA w a l) (hM : n ≤ 1000000000) (hx : ∀ x ∈ l, x.size ≤ maxLen) :
    Calls Tryd.prog 60 #[.slice a n c] w fun e w' => e = .returned (.bool (okHs l)) ∧ w' = w := by
  have HA : Hid (SA w a l) := h
  have HN : Hid (l.length = n) := hn
  have HX : Hid (∀ x ∈ l, x.size ≤ maxLen) := hx
  clear h hn hx
  go_enter Tryd.func60, Tryd.ntmps60
  go_wp2_with fail
  go_loop [3] (fun vi => ∃ k : Nat, vi = .int .i64 (k : Int) ∧ k ≤ n ∧ Hid (∀ x ∈ l.take k, x.size = 32)) (fun vi => n - (intOf vi).toNat)
  case atStart => exact ⟨0, rfl, Nat.zero_le _, fun x h => by simp at h⟩
  case round =>
    obtain ⟨k, rfl, hk, HT⟩ := hrel
    by_cases hlt : k < n
    · have hkl : k < l.length := by have := HN.out; omega
      obtain ⟨b, o, rfl, hc⟩ := HA.out k hkl
      have hxs := HX.out l[k] (List.getElem_mem hkl)
      have HM : Hid (l[k] ∈ l) := List.getElem_mem hkl
      have HT2 : Hid (l[k].size = 32 → ∀ x ∈ l.take (k + 1), x.size = 32) := fun hz x hx => by
        rw [List.take_succ_eq_append_getElem hkl] at hx
        rcases List.mem_append.1 hx with h1 | h1
        · exact HT.out x h1
        · rw [List.mem_singleton.1 h1]; exact hz
      unfold maxLen at hxs
      generalize l[k] = x at *
      have lk : (k : Int) < n := by omega
      have l0 : (0 : Int) ≤ k := by omega
      clear hkl HT
      by_cases hz : x.size = 32
      · have HT3 : Hid (∀ x ∈ l.take (k + 1), x.size = 32) := HT2.out hz
        have d2 : ((x.size : Int) == 32) = true := beq_iff_eq.2 (by omega)
        clear HT2 hz
        go_wp2
        exact ⟨⟨k + 1, by go_num, hlt, HT3⟩, by simp [intOf]; omega⟩
      · have d2 : ((x.size : Int) == 32) = false := beq_eq_false_iff_ne.2 (by omega)
        have HR : Hid (okHs l = false) := okHs_no (fun e => hz (e x HM.out))
        clear HT2 HM hz
        go_wp2
        go_ret
        exact ⟨retY HR.out.symm, rfl⟩
    · obtain rfl : k = n := by omega
      have HR : Hid (okHs l = true) := okHs_yes (by
        have := HT.out
        rw [List.take_of_length_le (by have := HN.out; omega)] at this
        exact this)
      clear HT
      go_wp2
      go_ret
      exact ⟨retY HR.out.symm, rfl⟩

/- The check, place by place. -/
def chkI (root : ByteArray) : List ByteArray → Nat → Nat → ByteArray → Bool
  | [], f, s, r => s == 0 && decide (r = root)
  | p :: ps, f, s, r => s != 0 && chkI root ps (Mer.nx f s).1 (Mer.nx f s).2 (if Mer.rgt f s then nodeD p r else nodeD r p)
theorem chkI_run (root : ByteArray) : ∀ (ps : List ByteArray) (f s : Nat) (r : ByteArray), chkI root ps f s r = true ↔ Mer.okN ps.length f s = true ∧ (Mer.goP ps.length f s).2 = 0 ∧ Mer.goB nodeD ps f s r = root
  | [], f, s, r => by simp [chkI, Mer.okN, Mer.goP, Mer.goB]
  | p :: ps, f, s, r => by
    rw [chkI, Bool.and_eq_true, chkI_run root ps, List.length_cons, Mer.okN, Bool.and_eq_true, Mer.goP, Mer.goB, and_assoc]
structure IncOk (leaf : ByteArray) (i n : Int) (ps : List ByteArray) (root : ByteArray) : Prop where
  lf : leaf.size = 32
  rt : root.size = 32
  hs : okHs ps = true
  n1 : 1 ≤ n
  n2 : n ≤ 1099511627776
  i0 : 0 ≤ i
  i1 : i < n
def incB (leaf : ByteArray) (i n : Int) (ps : List ByteArray) (root : ByteArray) : Bool := decide (leaf.size = 32 ∧ root.size = 32 ∧ ps.length ≤ 400 ∧ okHs ps = true ∧ 1 ≤ n ∧ n ≤ 1099511627776 ∧ 0 ≤ i ∧ i < n) && chkI root ps i.toNat (n.toNat - 1) leaf
theorem incB_no {leaf root : ByteArray} {i n : Int} {ps : List ByteArray} (h : ¬ (leaf.size = 32 ∧ root.size = 32 ∧ ps.length ≤ 400 ∧ okHs ps = true ∧ 1 ≤ n ∧ n ≤ 1099511627776 ∧ 0 ≤ i ∧ i < n)) : incB leaf i n ps root = false := by
  unfold incB; rw [decide_eq_false h, Bool.false_and]
theorem incB_yes {leaf root : ByteArray} {i n : Int} {ps : List ByteArray} (h : leaf.size = 32 ∧ root.size = 32 ∧ ps.length ≤ 400 ∧ okHs ps = true ∧ 1 ≤ n ∧ n ≤ 1099511627776 ∧ 0 ≤ i ∧ i < n) : incB leaf i n ps root = chkI root ps i.toNat (n.toNat - 1) leaf := by
  unfold incB; rw [decide_eq_true h, Bool.true_and]
/- Halved until odd: one step. -/
theorem down_fuel : ∀ (n m f s : Nat), f ≤ n → f ≤ m → Mer.down n f s = Mer.down m f s
  | 0, m, f, s, h1, h2 => by
    have : f = 0 := by omega
    subst this
    cases m <;> simp [Mer.down]
  | n + 1, 0, f, s, h1, h2 => by
    have : f = 0 := by omega
    subst this
    simp [Mer.down]
  | n + 1, m + 1, f, s, h1, h2 => by
    rw [Mer.down, Mer.down]
    by_cases h : f % 2 = 0 ∧ f ≠ 0
    · rw [if_pos h, if_pos h]
      exact down_fuel n m _ _ (by omega) (by omega)
    · rw [if_neg h, if_neg h]
def dn (f s : Nat) : Nat × Nat := Mer.down f f s
theorem dn_go {f s : Nat} (h1 : f % 2 = 0) (h2 : f ≠ 0) : dn f s = dn (f / 2) (s / 2) := by
  unfold dn
  obtain ⟨n, hn⟩ : ∃ n, f = n + 1 := ⟨f - 1, by omega⟩
  conv => lhs; rw [hn, Mer.down]
  rw [← hn, if_pos ⟨h1, h2⟩]
  exact down_fuel _ _ _ _ (by omega) (Nat.le_refl _)
theorem dn_stop {f s : Nat} (h : f % 2 = 1 ∨ f = 0) : dn f s = (f, s) := by
  unfold dn
  cases f with
  | zero => rfl
  | succ n => rw [Mer.down, if_neg (by omega)]
theorem nx_right {f s : Nat} (h : Mer.rgt f s = true) : Mer.nx f s = ((dn f s).1 / 2, (dn f s).2 / 2) := by unfold Mer.nx; rw [if_pos h]; rfl
theorem nx_left {f s : Nat} (h : Mer.rgt f s = false) : Mer.nx f s = (f / 2, s / 2) := by unfold Mer.nx; rw [if_neg (by rw [h]; decide)]
end Go.Proofs.YtdfglpbappeoaabDoor
