/- Rows of numbers of 64 bits; what the laws' helpers eqInt64S, markInt64S, heldInt64S do of such rows. -/
import Derived.Test.YtaalegjhhpfhbaaRows
import Derived.Tactics2
import Derived.WalkKit
import Derived.WalkSpells
import Derived.ProofKit
import Derived.WalkLawsBesides
import Derived.Deep.QuietTactic
import Derived.BigQuiet
namespace Go.Proofs.Ytaalegjhhpfhbaa
open Go.RowKit
set_option linter.unusedVariables false

theorem belowN {B : Nat} {a w : World} (h : Below B a w) (n : Nat) : Below B a (w.drewN n) := ⟨h.os, h.tape, h.output, h.size, h.block⟩
theorem cellLt {w : World} {x : Addr} {v : Value} (h : w.cell? x = some v) : x.block < w.heap.size := by
  refine Nat.lt_of_not_le fun hle => ?_
  simp [World.cell?, Array.getElem?_eq_none hle] at h
def IAt (w : World) (a : Option Addr) (l : List Int) : Prop :=
  l ≠ [] → ∃ g, a = some ⟨g, 0, none⟩ ∧ ∀ k (h : k < l.length), w.cell? ⟨g, k, none⟩ = some (.int .i64 l[k]) ∧ w.frozen? ⟨g, k, none⟩ = false
theorem IAt.below {w w' : World} {a : Option Addr} {l : List Int} (h : IAt w a l) (hb : Below w.heap.size w w') : IAt w' a l := fun hl => by
  obtain ⟨g, ha, hc⟩ := h hl
  refine ⟨g, ha, fun k hk => ?_⟩
  have hlt : g < w.heap.size := cellLt (hc k hk).1
  exact ⟨(hb.cell (p := ⟨g, k, none⟩) hlt).trans (hc k hk).1, (hb.frozen (p := ⟨g, k, none⟩) hlt).trans (hc k hk).2⟩
def cnt (k0 : Int) (n : Nat) : List Int := (List.range n).map fun (i : Nat) => k0 + (i : Int)
theorem cnt_length (k0 : Int) (n : Nat) : (cnt k0 n).length = n := by simp [cnt]
/- Everything but the row is as it was. -/
structure Wrote (a : Option Addr) (w w' : World) : Prop where
  far : ∀ x : Addr, (∀ ad, a = some ad → x.block ≠ ad.block) → w'.cell? x = w.cell? x ∧ w'.frozen? x = w.frozen? x
  below : ∀ B, B ≤ w.heap.size → (∀ ad, a = some ad → B ≤ ad.block) → Below B w w'
  size : w'.heap.size = w.heap.size

set_option maxRecDepth 100000 in
set_option maxHeartbeats 1000000 in
theorem eqI_any (a1 a2 : Option Addr) (c1 c2 : Nat) (l1 l2 : List Int) (w : World) (h1 : IAt w a1 l1) (h2 : IAt w a2 l2) (hb1 : l1.length ≤ 1000000000) (hb2 : l2.length ≤ 1000000000) :
    Calls Try.prog 164 #[.slice a1 l1.length c1, .slice a2 l2.length c2] w fun e w' => e = .returned (.bool (decide (l1 = l2))) ∧ Below w.heap.size w w' := by
  have H1 : Hid (IAt w a1 l1) := h1
  have H2 : Hid (IAt w a2 l2) := h2
  clear h1 h2
  by_cases hlen : l1.length = l2.length
  · have HLen : Hid (l1.length = l2.length) := hlen
    have HEX : Hid ((∀ j : Nat, j < l1.length → l1[j]? = l2[j]?) → decide (l1 = l2) = true) := fun h => decide_eq_true (List.ext_getElem? fun j => by
      by_cases hj : j < l1.length
      · exact h j hj
      · rw [List.getElem?_eq_none (by omega), List.getElem?_eq_none (by omega)])
    have HNE : Hid (∀ j : Nat, l1[j]? ≠ l2[j]? → decide (l1 = l2) = false) := fun j h => decide_eq_false (fun e => h (by rw [e]))
    obtain ⟨n, hn⟩ : ∃ n, l1.length = n := ⟨_, rfl⟩
    rw [← hlen, hn]
    rw [hn] at hb1
    have HN : Hid (l1.length = n) := hn
    clear hlen hn hb2
    go_enter Try.func164, Try.ntmps164
    go_wp2_with fail
    go_loopw [5] (fun i wr => ∃ k : Nat, i = .int .i64 (k : Int) ∧ k ≤ n ∧ (∀ j : Nat, j < k → l1[j]? = l2[j]?) ∧ Below w.heap.size w wr) (fun i _ => n - (intOf i).toNat)
    case atStart => exact ⟨0, rfl, Nat.zero_le _, fun j h => by omega, Below.refl _ _⟩
    case round =>
      obtain ⟨k, rfl, hk, hj, hb⟩ := hrel
      have HJ : Hid (∀ j : Nat, j < k → l1[j]? = l2[j]?) := hj
      have HB : Hid (Below w.heap.size w wr) := hb
      clear hj
      by_cases hlt : k < n
      · have hl1 : k < l1.length := by have := HN.out; omega
        have hl2 : k < l2.length := by have := HN.out; have := HLen.out; omega
        obtain ⟨g1, rfl, e1⟩ := (H1.out.below hb) (by intro e; rw [e] at hl1; simp at hl1)
        obtain ⟨g2, rfl, e2⟩ := (H2.out.below hb) (by intro e; rw [e] at hl2; simp at hl2)
        have d1 := (e1 k hl1).1
        have d2 := (e2 k hl2).1
        have HX : Hid (l1[k]? = some l1[k] ∧ l2[k]? = some l2[k]) := ⟨List.getElem?_eq_getElem hl1, List.getElem?_eq_getElem hl2⟩
        generalize l1[k] = x at *
        generalize l2[k] = y at *
        have lk : (k : Int) < n := by omega
        have l0 : (0 : Int) ≤ k := by omega
        clear e1 e2 hb hl1 hl2
        by_cases hxy : x = y
        · subst hxy
          go_wp2_with fail
          go_quiet (fail)
          go_wp2
          go_roundw
          case rel => exact ⟨k + 1, by go_num, hlt, fun j hjk => by
            by_cases he : j = k
            · subst he; rw [HX.out.1, HX.out.2]
            · exact HJ.out j (by omega), belowN HB.out _⟩
          case measure => simp [intOf]; omega
        · have hxb : (x == y) = false := by simp [hxy]
          have hxb' : (x != y) = true := by simp [hxy]
          go_wp2_with fail
          go_quiet (fail)
          go_wp2
          go_ret
          exact ⟨by rw [HNE.out k (by rw [HX.out.1, HX.out.2]; intro e; injection e with e; exact hxy e)]; rfl, belowN HB.out _⟩
      · obtain rfl : k = n := by omega
        go_wp2
        go_ret
        exact ⟨by rw [HEX.out (fun j h => HJ.out j (by have := HN.out; omega))]; rfl, HB.out⟩
  · have hne : ((l1.length : Int) == (l2.length : Int)) = false := by simp; omega
    have hne' : ((l1.length : Int) != (l2.length : Int)) = true := by simp; omega
    have hd : decide (l1 = l2) = false := decide_eq_false (fun e => hlen (by rw [e]))
    rw [hd]
    go_enter Try.func164, Try.ntmps164
    go_wp2
    go_ret
    exact ⟨rfl, Below.refl _ _⟩

set_option maxRecDepth 100000 in
set_option maxHeartbeats 1000000 in
theorem heldI_any (a : Option Addr) (c n : Nat) (k0 : Int) (w : World) (h : IAt w a (cnt k0 n)) (hn : n ≤ 1000000000) (h0 : 0 ≤ k0) (h1 : k0 ≤ 1000000000) :
    Calls Try.prog 145 #[.slice a n c, .int .i64 k0] w fun e w' => e = .returned (.int .i64 (k0 + n)) ∧ Below w.heap.size w w' := by
  have H1 : Hid (IAt w a (cnt k0 n)) := h
  clear h
  go_enter Try.func145, Try.ntmps145
  go_wp2_with fail
  go_loopw [1, 5] (fun q i wr => ∃ k : Nat, i = .int .i64 (k : Int) ∧ q = .int .i64 (k0 + k) ∧ k ≤ n ∧ wr = w) (fun _ i _ => n - (intOf i).toNat)
  case atStart => exact ⟨0, rfl, by simp, Nat.zero_le _, rfl⟩
  case round =>
    obtain ⟨k, rfl, rfl, hk, rfl⟩ := hrel
    by_cases hlt : k < n
    · obtain ⟨g1, rfl, e1⟩ := H1.out (by intro e; have := congrArg List.length e; rw [cnt_length] at this; simp at this; omega)
      have d1 := (e1 k (by rw [cnt_length]; exact hlt)).1
      have hx : (cnt k0 n)[k]'(by rw [cnt_length]; exact hlt) = k0 + k := by simp [cnt]
      rw [hx] at d1
      obtain ⟨z, hz⟩ : ∃ z, k0 + (k : Int) = z := ⟨_, rfl⟩
      rw [hz] at d1 ⊢
      have HZ : Hid (k0 + (k : Int) = z) := hz
      have lk : (k : Int) < n := by omega
      have l0 : (0 : Int) ≤ k := by omega
      clear e1 hx
      go_wp2
      go_roundw
      case rel => exact ⟨k + 1, by go_num, by have := HZ.out; go_num, hlt, trivial⟩
      case measure => simp [intOf]; omega
    · obtain rfl : k = n := by omega
      go_wp2
      go_ret
      exact ⟨rfl, Below.refl _ _⟩
theorem cnt_set (k0 : Int) (n k : Nat) (l : List Int) (hl : l.length = n) (hk : k < n) : (cnt k0 k ++ l.drop k).set k (k0 + k) = cnt k0 (k + 1) ++ l.drop (k + 1) := by
  rw [List.set_append_right _ _ (by rw [cnt_length]; exact Nat.le_refl _), cnt_length, Nat.sub_self]
  have : l.drop k = l[k]'(by omega) :: l.drop (k + 1) := (List.drop_eq_getElem_cons (by omega))
  rw [this, List.set_cons_zero]
  simp [cnt, List.range_succ]
structure MarkAt (a : Option Addr) (l : List Int) (k0 : Int) (k : Nat) (w wr : World) : Prop where
  row : IAt wr a (cnt k0 k ++ l.drop k)
  wr : Wrote a w wr
theorem MarkAt.step {g : Nat} {l : List Int} {k0 : Int} {k : Nat} {w wr : World} {z : Int} (h : MarkAt (some ⟨g, 0, none⟩) l k0 k w wr) (hk : k < l.length) (hg : g < w.heap.size) (hz : k0 + k = z) : MarkAt (some ⟨g, 0, none⟩) l k0 (k + 1) w (wr.setCell ⟨g, k, none⟩ (.int .i64 z)) := by
  have hlen : ∀ j, j ≤ l.length → (cnt k0 j ++ l.drop j).length = l.length := fun j hj => by simp [cnt]; omega
  obtain ⟨g', hg', hc⟩ := h.row (by intro e; have := congrArg List.length e; rw [hlen k (by omega)] at this; rw [List.length_nil] at this; omega)
  injection hg' with hg'
  injection hg' with hg'
  subst hg'
  have hsame := (hc k (by rw [hlen k (by omega)]; exact hk)).1
  refine ⟨fun _ => ⟨g, rfl, fun j hj => ?_⟩, ⟨fun x hx => ?_, fun B hB hB2 => ?_, ?_⟩⟩
  · rw [World.frozen?_setCell]
    rw [hlen (k + 1) (by omega)] at hj
    have hj' : j < (cnt k0 k ++ l.drop k).length := by rw [hlen k (by omega)]; exact hj
    refine ⟨?_, (hc j hj').2⟩
    have he : (cnt k0 (k + 1) ++ l.drop (k + 1))[j]? = ((cnt k0 k ++ l.drop k).set k (k0 + k))[j]? := by rw [cnt_set k0 l.length k l rfl hk]
    rw [List.getElem?_eq_getElem (by rw [hlen (k + 1) (by omega)]; exact hj)] at he
    by_cases hjk : j = k
    · subst hjk
      rw [World.cell?_setCell_same wr _ _ hsame]
      rw [List.getElem?_set_self hj'] at he
      injection he with he
      rw [he, hz]
    · rw [World.cell?_setCell_other wr _ _ _ (by intro e; injection e with _ e _; exact hjk e.symm), (hc j hj').1]
      rw [List.getElem?_set_ne (fun e => hjk e.symm), List.getElem?_eq_getElem hj'] at he
      injection he with he
      rw [he]
  · have hne : x.block ≠ g := hx _ rfl
    rw [World.frozen?_setCell, World.cell?_setCell_other wr _ _ _ (by intro e; subst e; exact hne rfl)]
    exact h.wr.far x hx
  · exact (h.wr.below B hB hB2).setCell (p := ⟨g, k, none⟩) (hB2 ⟨g, 0, none⟩ rfl) _
  · rw [World.size_setCell]; exact h.wr.size

set_option maxRecDepth 100000 in
set_option maxHeartbeats 1000000 in
theorem markI_any (a : Option Addr) (c : Nat) (l : List Int) (k0 : Int) (w : World) (h : IAt w a l) (hn : l.length ≤ 1000000000) (h0 : 0 ≤ k0) (h1 : k0 ≤ 1000000000) :
    Calls Try.prog 144 #[.slice a l.length c, .int .i64 k0] w fun e w' => e = .returned (.int .i64 (k0 + l.length)) ∧ IAt w' a (cnt k0 l.length) ∧ Wrote a w w' := by
  have HM : Hid (MarkAt a l k0 0 w w) := ⟨h, ⟨fun _ _ => ⟨rfl, rfl⟩, fun _ _ _ => Below.refl _ _, rfl⟩⟩
  have HI : Hid (IAt w a l) := h
  clear h
  obtain ⟨n, hl⟩ : ∃ n, l.length = n := ⟨_, rfl⟩
  rw [hl]
  rw [hl] at hn
  have HL : Hid (l.length = n) := hl
  clear hl
  go_enter Try.func144, Try.ntmps144
  go_wp2_with fail
  go_loopw [1, 5] (fun q i wr => ∃ k : Nat, i = .int .i64 (k : Int) ∧ q = .int .i64 (k0 + k) ∧ k ≤ n ∧ MarkAt a l k0 k w wr) (fun _ i _ => n - (intOf i).toNat)
  case atStart => exact ⟨0, rfl, by simp, Nat.zero_le _, HM.out⟩
  case round =>
    clear HM
    obtain ⟨k, rfl, rfl, hk, hm⟩ := hrel
    have HMk : Hid (MarkAt a l k0 k w wr) := hm
    clear hm
    by_cases hlt : k < n
    · have hkl : k < l.length := by have := HL.out; omega
      obtain ⟨g, rfl, e1⟩ := HMk.out.row (by intro e; have := congrArg List.length e; simp [cnt] at this; omega)
      have hg : g < w.heap.size := by
        obtain ⟨g', hg', e2⟩ := HI.out (by intro e; rw [e] at hkl; simp at hkl)
        injection hg' with hg'
        injection hg' with hg'
        subst hg'
        exact cellLt (e2 k hkl).1
      have hlen : k < (cnt k0 k ++ l.drop k).length := by simp [cnt]; omega
      have d1 := (e1 k hlen).1
      have hfz := (e1 k hlen).2
      generalize (cnt k0 k ++ l.drop k)[k] = y at d1
      obtain ⟨z, hz⟩ : ∃ z, k0 + (k : Int) = z := ⟨_, rfl⟩
      have HN : Hid (MarkAt (some ⟨g, 0, none⟩) l k0 (k + 1) w (wr.setCell ⟨g, k, none⟩ (.int .i64 z))) := HMk.out.step hkl hg hz
      rw [hz]
      have HZ : Hid (k0 + (k : Int) = z) := hz
      have lk : (k : Int) < n := by omega
      have l0 : (0 : Int) ≤ k := by omega
      clear e1 hkl hlen hg HMk HI
      go_wp2
      go_roundw
      case rel => exact ⟨k + 1, by go_num, by have := HZ.out; go_num, hlt, HN.out⟩
      case measure => simp [intOf]; omega
    · obtain rfl : k = n := by omega
      go_wp2
      go_ret
      refine ⟨rfl, ?_, HMk.out.wr⟩
      have := HMk.out.row
      rw [List.drop_of_length_le (by have := HL.out; omega), List.append_nil] at this
      exact this
end Go.Proofs.Ytaalegjhhpfhbaa
