/- Rows of Layer: what lies there; the laws' helpers: how much room they take, turned to the program's, held against others. -/
import Derived.Test.YtchfpiadfmnphaaDoorStaL
import Derived.Test.YtchfpiadfmnphaaDoorTy
import Derived.Test.YtchfpiadfmnphaaDoorSRow
import Derived.Test.YtchfpiadfmnphaaDoorJn3
import Derived.Test.YtchfpiadfmnphaaDoorArg
import Derived.Deep.RegionHeld3
namespace Go.Proofs.YtchfpiadfmnphaaDoor
open Go.RowKit Go.Joins Go.ChangeShapes Go.WideShapes Go.ChangeAt Go.Deep
set_option linter.unusedVariables false

structure LayV where
  bl : ByteArray
  sz : Int
def LayV.w (x : LayV) : Prop := x.bl.size ≤ maxLen ∧ I64 x.sz
def layv (x0 : ByteArray) (x1 : Int) : List Value := [.string x0, .int .i64 x1]
theorem layv_one (x0 : ByteArray) (x1 : Int) : ∀ v ∈ layv x0 x1, v.oneCell' = true := by
  intro v hv
  simp only [layv, List.mem_cons, List.not_mem_nil, or_false] at hv
  rcases hv with rfl | rfl <;> rfl
def layL (l : List LayV) : List (List Value) := l.map fun x => layv x.bl x.sz
theorem layL_len (l : List LayV) : (layL l).length = l.length := List.length_map _
theorem layL_get {l : List LayV} {i : Nat} (h : i < l.length) : (layL l)[i]'(by rw [layL_len]; exact h) = layv l[i].bl l[i].sz := by unfold layL; rw [List.getElem_map]
theorem layL_all (l : List LayV) : ∀ x ∈ layL l, x.length = 2 := fun x hx => by
  unfold layL at hx
  obtain ⟨y, _, rfl⟩ := List.mem_map.1 hx
  rfl
def LayAt (w : World) (a : Option Addr) (l : List LayV) : Prop := ∀ i (h : i < l.length), ∃ b o, a = some ⟨b, o, none⟩ ∧ w.cell? ⟨b, o + i * 2, none⟩ = some (.string l[i].bl) ∧ w.cell? ⟨b, o + i * 2 + 1, none⟩ = some (.int .i64 l[i].sz)
theorem LayAt.below {w w' : World} {a : Option Addr} {l : List LayV} (h : LayAt w a l) (hb : Below w.heap.size w w') : LayAt w' a l := fun i hi => by
  obtain ⟨b, o, h1, h2, h3⟩ := h i hi
  exact ⟨b, o, h1, (hb.cell (p := ⟨b, o + i * 2, none⟩) (cellLt h2)).trans h2, (hb.cell (p := ⟨b, o + i * 2 + 1, none⟩) (cellLt h3)).trans h3⟩
theorem LayAt.here {w : World} {b o : Nat} {l : List LayV} (h : LayAt w (some ⟨b, o, none⟩) l) (i : Nat) (hi : i < l.length) : w.cell? ⟨b, o + i * 2, none⟩ = some (.string l[i].bl) ∧ w.cell? ⟨b, o + i * 2 + 1, none⟩ = some (.int .i64 l[i].sz) := by
  obtain ⟨b', o', e, h2, h3⟩ := h i hi
  injection e with e
  injection e with e1 e2
  subst e1 e2
  exact ⟨h2, h3⟩
theorem RowV.lay {w : World} {g : Nat} {l : List LayV} (h : RowV w g (layL l).flatten) : LayAt w (some ⟨g, 0, none⟩) l := fun i hi => by
  have hg : ∀ j, j < 2 → (layL l).flatten[i * 2 + j]? = (layv l[i].bl l[i].sz)[j]? := fun j hj => by
    rw [flatS_get (layL l) (layL_all l) i j (by rw [layL_len]; exact hi) hj, layL_get hi]
  refine ⟨g, 0, rfl, ?_, ?_⟩
  all_goals rw [Nat.zero_add]
  · exact h.cell (k := i * 2) (hg 0 (by decide))
  · exact h.cell (k := i * 2 + 1) (hg 1 (by decide))
theorem BldV.layrow {w : World} {g n : Nat} {l : List LayV} (h : BldV w g 2 n (layL l) n) (hn : l.length = n) : RowV w g (layL l).flatten := h.flat (by rw [layL_len]; exact hn) (layL_all l) (by decide)
theorem Tryd.infLay : (Tryd.prog.info? 85).map (fun i => (i.zero, i.size, i.bytes)) = some (some (.agg #[.string ⟨#[]⟩, .int .i64 0]), 2, 24) := by kernel_rfl
structure LayB (w : World) (a : Option Addr) (l : List LayV) (g n k : Nat) (w' : World) : Prop where
  below : Below w.heap.size w w'
  at_ : LayAt w' a l
  bld : BldV w' g 2 n (layL l) k
  lt : g < w'.heap.size
  ge : w.heap.size ≤ g
theorem LayB.call {w w' w2 : World} {a : Option Addr} {l : List LayV} {g n k : Nat} (h : Hid (LayB w a l g n k w')) (hb : Below w'.heap.size w' w2) : Hid (LayB w a l g n k w2) :=
  ⟨h.out.below.trans (hb.mono h.out.below.size), h.out.at_.below hb, h.out.bld.below hb h.out.lt, Nat.lt_of_lt_of_le h.out.lt hb.size, h.out.ge⟩
theorem LayB.there {w w' : World} {a : Option Addr} {l : List LayV} {g n k : Nat} (h : Hid (LayB w a l g n k w')) (hk : k < n) : w'.there g (k * 2) 2 := there_part h.out.bld.ths hk
theorem LayB.step {w w' : World} {a : Option Addr} {l : List LayV} {g n k : Nat} {x0 : ByteArray} {x1 : Int} (h : Hid (LayB w a l g n k w')) (h0 : Hid (LayAt w a l)) (hk : k < n) (hn : l.length = n) (he : Hid (True → ∃ h : k < l.length, layv l[k].bl l[k].sz = layv x0 x1)) : Hid (LayB w a l g n (k + 1) (w'.setCells g (k * 2) (layv x0 x1))) := by
  obtain ⟨hkl, he⟩ := he.out trivial
  have hb : Below w.heap.size w (w'.setCells g (k * 2) (layv x0 x1)) := h.out.below.trans (below_set h.out.ge)
  refine ⟨hb, h0.out.below hb, ?_, by rw [setCells_size]; exact h.out.lt, h.out.ge⟩
  rw [← he, ← layL_get hkl]
  exact h.out.bld.step hk (by rw [layL_len]; exact hkl) (layL_all l)
set_option maxRecDepth 100000 in
set_option maxHeartbeats 1000000 in
theorem eqLay1 (x0 : ByteArray) (x1 : Int) (w : World) :
    Calls Tryd.prog 84 #[.agg #[.string x0, .int .i64 x1], .agg #[.string x0, .int .i64 x1]] w fun r w' => r = .returned (.bool true) ∧ Below w.heap.size w w' := by
  have e0 := txt_eq x0
  have e1 : (x1 == x1) = true := by simp
  have f1 : (x1 != x1) = false := by simp
  go_enter Tryd.func84, Tryd.ntmps84
  go_wp2_with (first
    | (with_reducible refine wpList_boxV (w := w) (by with_unfolding_all rfl) 85 (.tmp 0) (by with_unfolding_all rfl) (layv x0 x1) (by with_unfolding_all rfl) ?_; intro w1 hA1 hB1 hS1; have z1 : w.heap.size < w1.heap.size := (by omega); clear hS1)
    | (with_reducible refine wpList_boxV (w := w1) (by with_unfolding_all rfl) 85 (.tmp 1) (by with_unfolding_all rfl) (layv x0 x1) (by with_unfolding_all rfl) ?_; intro w2 hA2 hB2 hS2; clear hS2; have hA3 := hA1.below hB2 z1; have p0 := hA3.cell (k := 0) rfl; have q0 := hA2.cell (k := 0) rfl; have p1 := hA3.cell (k := 1) rfl; have q1 := hA2.cell (k := 1) rfl))
  go_ret
  exact ⟨rfl, hB1.trans (hB2.mono (by omega))⟩
structure Lay2 (w : World) (a1 a2 : Option Addr) (l : List LayV) (w' : World) : Prop where
  below : Below w.heap.size w w'
  s1 : LayAt w' a1 l
  s2 : LayAt w' a2 l
theorem Lay2.start {w : World} {a1 a2 : Option Addr} {l : List LayV} (h1 : LayAt w a1 l) (h2 : LayAt w a2 l) : Hid (Lay2 w a1 a2 l w) := ⟨Below.refl _ _, h1, h2⟩
theorem Lay2.call {w w' w2 : World} {a1 a2 : Option Addr} {l : List LayV} (h : Hid (Lay2 w a1 a2 l w')) (hb : Below w'.heap.size w' w2) : Hid (Lay2 w a1 a2 l w2) := ⟨h.out.below.trans (hb.mono h.out.below.size), h.out.s1.below hb, h.out.s2.below hb⟩
theorem Lay2.drew {w w' : World} {a1 a2 : Option Addr} {l : List LayV} (h : Hid (Lay2 w a1 a2 l w')) : Hid (Lay2 w a1 a2 l w'.drew) := ⟨h.out.below.drew, h.out.s1, h.out.s2⟩
theorem Lay2.all {w w' : World} {b1 o1 b2 o2 i : Nat} {l : List LayV} {x0 : ByteArray} {x1 : Int} (hr : Hid (True → ∃ h : i < l.length, l[i].bl = x0 ∧ l[i].sz = x1)) (h : Hid (Lay2 w (some ⟨b1, o1, none⟩) (some ⟨b2, o2, none⟩) l w')) :
    w'.cell? ⟨b1, o1 + i * 2, none⟩ = some (.string x0) ∧ w'.cell? ⟨b1, o1 + i * 2 + 1, none⟩ = some (.int .i64 x1) ∧ w'.cell? ⟨b2, o2 + i * 2, none⟩ = some (.string x0) ∧ w'.cell? ⟨b2, o2 + i * 2 + 1, none⟩ = some (.int .i64 x1) ∧ Hid (Lay2 w (some ⟨b1, o1, none⟩) (some ⟨b2, o2, none⟩) l w') := by
  obtain ⟨hi, rfl, rfl⟩ := hr.out trivial
  obtain ⟨p0, p1⟩ := h.out.s1.here i hi
  obtain ⟨q0, q1⟩ := h.out.s2.here i hi
  exact ⟨p0, p1, q0, q1, h⟩
set_option maxRecDepth 100000 in
set_option maxHeartbeats 1000000 in
theorem eqLayS (a1 a2 : Option Addr) (c1 c2 n : Nat) (l : List LayV) (w : World) (hn : l.length = n) (h1 : LayAt w a1 l) (h2 : LayAt w a2 l) (hb : n ≤ maxLen) :
    Calls Tryd.prog 54 #[.slice a1 n c1, .slice a2 n c2] w fun e w' => e = .returned (.bool true) ∧ Below w.heap.size w w' := by
  unfold maxLen at hb
  have HN : Hid (l.length = n) := hn
  have HS0 := Lay2.start h1 h2
  clear h1 h2 hn
  go_enter Tryd.func54, Tryd.ntmps54
  go_wp2_with fail
  go_loopw [5] (fun i wr => ∃ k : Nat, i = .int .i64 (k : Int) ∧ k ≤ n ∧ Hid (Lay2 w a1 a2 l wr)) (fun i _ => n - (intOf i).toNat)
  case atStart => exact ⟨0, rfl, Nat.zero_le _, HS0⟩
  case round =>
    clear HS0
    obtain ⟨k, rfl, hk, HS⟩ := hrel
    by_cases hlt : k < n
    case neg =>
      obtain rfl : k = n := by omega
      go_wp2
      go_ret
      exact ⟨rfl, HS.out.below⟩
    have hkl : k < l.length := by have := HN.out; omega
    obtain ⟨b1, o1, rfl, hd1⟩ := HS.out.s1 k hkl
    clear hd1
    obtain ⟨b2, o2, rfl, hd2⟩ := HS.out.s2 k hkl
    clear hd2
    obtain ⟨x0, hx0⟩ : ∃ x, l[k].bl = x := ⟨_, rfl⟩
    obtain ⟨x1, hx1⟩ : ∃ x, l[k].sz = x := ⟨_, rfl⟩
    have HE : Hid (True → ∃ h : k < l.length, l[k].bl = x0 ∧ l[k].sz = x1) := fun _ => ⟨hkl, hx0, hx1⟩
    clear hx0 hx1 hkl
    have hT : ∀ w0, Calls Tryd.prog 84 #[.agg #[.string x0, .int .i64 x1], .agg #[.string x0, .int .i64 x1]] w0 fun r w' => r = .returned (.bool true) ∧ Below w0.heap.size w0 w' := fun w0 => eqLay1 x0 x1 w0
    have lk : (k : Int) < n := by omega
    have l0 : (0 : Int) ≤ k := by omega
    have HSd := Lay2.drew HS
    clear HS
    go_wp2_with fail
    go_region_held3 (fun w' => w'.cell? ⟨b1, o1 + k * 2, none⟩ = some (.string x0) ∧ w'.cell? ⟨b1, o1 + k * 2 + 1, none⟩ = some (.int .i64 x1) ∧ w'.cell? ⟨b2, o2 + k * 2, none⟩ = some (.string x0) ∧ w'.cell? ⟨b2, o2 + k * 2 + 1, none⟩ = some (.int .i64 x1) ∧ Hid (Lay2 w (some ⟨b1, o1, none⟩) (some ⟨b2, o2, none⟩) l w'))
      (first | exact Lay2.all HE HSd | exact Lay2.all HE (Lay2.call HSd h8))
      (first
        | (go_at_call 84; with_reducible refine (hT _).mono ?_; rintro r w8 ⟨rfl, h8⟩))
    all_goals
      have HS9 := Lay2.call HSd h8
      go_wp2_with fail
      go_roundw
      case rel => exact ⟨k + 1, by go_num, by omega, HS9⟩
      case measure => simp [intOf]; omega
structure LayZ (w : World) (a : Option Addr) (l : List LayV) (w' : World) : Prop where
  below : Below w.heap.size w w'
  at_ : LayAt w' a l
theorem LayZ.start {w : World} {a : Option Addr} {l : List LayV} (h : LayAt w a l) : Hid (LayZ w a l w) := ⟨Below.refl _ _, h⟩
theorem LayZ.call {w w' w2 : World} {a : Option Addr} {l : List LayV} (h : Hid (LayZ w a l w')) (hb : Below w'.heap.size w' w2) : Hid (LayZ w a l w2) := ⟨h.out.below.trans (hb.mono h.out.below.size), h.out.at_.below hb⟩
end Go.Proofs.YtchfpiadfmnphaaDoor
