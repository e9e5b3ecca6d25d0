/- Rows of Label: what lies there; the laws' helpers: how much room they take, turned to the program's, held against others. When a manifest is right, and its bytes: as statements about lists. -/
import Derived.Test.YtchfpiadfmnphaaDoorStaL
import Derived.Test.YtchfpiadfmnphaaDoorTy
import Derived.Test.YtchfpiadfmnphaaDoorSRow
import Derived.Test.YtchfpiadfmnphaaDoorJn3
import Derived.Test.YtchfpiadfmnphaaDoorArg
import Derived.Deep.RegionHeld3
import Derived.Test.YtchfpiadfmnphaaDoorNmB
import Derived.Test.YtchfpiadfmnphaaDoorLayA
namespace Go.Proofs.YtchfpiadfmnphaaDoor
open Go.RowKit Go.Joins Go.ChangeShapes Go.WideShapes Go.ChangeAt Go.Deep
set_option linter.unusedVariables false

structure LabV where
  ky : ByteArray
  vl : ByteArray
def LabV.w (x : LabV) : Prop := x.ky.size ≤ maxLen ∧ x.vl.size ≤ maxLen
def labv (x0 : ByteArray) (x1 : ByteArray) : List Value := [.string x0, .string x1]
theorem labv_one (x0 : ByteArray) (x1 : ByteArray) : ∀ v ∈ labv x0 x1, v.oneCell' = true := by
  intro v hv
  simp only [labv, List.mem_cons, List.not_mem_nil, or_false] at hv
  rcases hv with rfl | rfl <;> rfl
def labL (l : List LabV) : List (List Value) := l.map fun x => labv x.ky x.vl
theorem labL_len (l : List LabV) : (labL l).length = l.length := List.length_map _
theorem labL_get {l : List LabV} {i : Nat} (h : i < l.length) : (labL l)[i]'(by rw [labL_len]; exact h) = labv l[i].ky l[i].vl := by unfold labL; rw [List.getElem_map]
theorem labL_all (l : List LabV) : ∀ x ∈ labL l, x.length = 2 := fun x hx => by
  unfold labL at hx
  obtain ⟨y, _, rfl⟩ := List.mem_map.1 hx
  rfl
def LabAt (w : World) (a : Option Addr) (l : List LabV) : Prop := ∀ i (h : i < l.length), ∃ b o, a = some ⟨b, o, none⟩ ∧ w.cell? ⟨b, o + i * 2, none⟩ = some (.string l[i].ky) ∧ w.cell? ⟨b, o + i * 2 + 1, none⟩ = some (.string l[i].vl)
theorem LabAt.below {w w' : World} {a : Option Addr} {l : List LabV} (h : LabAt w a l) (hb : Below w.heap.size w w') : LabAt w' a l := fun i hi => by
  obtain ⟨b, o, h1, h2, h3⟩ := h i hi
  exact ⟨b, o, h1, (hb.cell (p := ⟨b, o + i * 2, none⟩) (cellLt h2)).trans h2, (hb.cell (p := ⟨b, o + i * 2 + 1, none⟩) (cellLt h3)).trans h3⟩
theorem LabAt.here {w : World} {b o : Nat} {l : List LabV} (h : LabAt w (some ⟨b, o, none⟩) l) (i : Nat) (hi : i < l.length) : w.cell? ⟨b, o + i * 2, none⟩ = some (.string l[i].ky) ∧ w.cell? ⟨b, o + i * 2 + 1, none⟩ = some (.string l[i].vl) := by
  obtain ⟨b', o', e, h2, h3⟩ := h i hi
  injection e with e
  injection e with e1 e2
  subst e1 e2
  exact ⟨h2, h3⟩
theorem RowV.lab {w : World} {g : Nat} {l : List LabV} (h : RowV w g (labL l).flatten) : LabAt w (some ⟨g, 0, none⟩) l := fun i hi => by
  have hg : ∀ j, j < 2 → (labL l).flatten[i * 2 + j]? = (labv l[i].ky l[i].vl)[j]? := fun j hj => by
    rw [flatS_get (labL l) (labL_all l) i j (by rw [labL_len]; exact hi) hj, labL_get hi]
  refine ⟨g, 0, rfl, ?_, ?_⟩
  all_goals rw [Nat.zero_add]
  · exact h.cell (k := i * 2) (hg 0 (by decide))
  · exact h.cell (k := i * 2 + 1) (hg 1 (by decide))
theorem BldV.labrow {w : World} {g n : Nat} {l : List LabV} (h : BldV w g 2 n (labL l) n) (hn : l.length = n) : RowV w g (labL l).flatten := h.flat (by rw [labL_len]; exact hn) (labL_all l) (by decide)
theorem Tryd.infLab : (Tryd.prog.info? 116).map (fun i => (i.zero, i.size, i.bytes)) = some (some (.agg #[.string ⟨#[]⟩, .string ⟨#[]⟩]), 2, 32) := by kernel_rfl
structure LabB (w : World) (a : Option Addr) (l : List LabV) (g n k : Nat) (w' : World) : Prop where
  below : Below w.heap.size w w'
  at_ : LabAt w' a l
  bld : BldV w' g 2 n (labL l) k
  lt : g < w'.heap.size
  ge : w.heap.size ≤ g
theorem LabB.call {w w' w2 : World} {a : Option Addr} {l : List LabV} {g n k : Nat} (h : Hid (LabB w a l g n k w')) (hb : Below w'.heap.size w' w2) : Hid (LabB w a l g n k w2) :=
  ⟨h.out.below.trans (hb.mono h.out.below.size), h.out.at_.below hb, h.out.bld.below hb h.out.lt, Nat.lt_of_lt_of_le h.out.lt hb.size, h.out.ge⟩
theorem LabB.there {w w' : World} {a : Option Addr} {l : List LabV} {g n k : Nat} (h : Hid (LabB w a l g n k w')) (hk : k < n) : w'.there g (k * 2) 2 := there_part h.out.bld.ths hk
theorem LabB.step {w w' : World} {a : Option Addr} {l : List LabV} {g n k : Nat} {x0 : ByteArray} {x1 : ByteArray} (h : Hid (LabB w a l g n k w')) (h0 : Hid (LabAt w a l)) (hk : k < n) (hn : l.length = n) (he : Hid (True → ∃ h : k < l.length, labv l[k].ky l[k].vl = labv x0 x1)) : Hid (LabB w a l g n (k + 1) (w'.setCells g (k * 2) (labv x0 x1))) := by
  obtain ⟨hkl, he⟩ := he.out trivial
  have hb : Below w.heap.size w (w'.setCells g (k * 2) (labv x0 x1)) := h.out.below.trans (below_set h.out.ge)
  refine ⟨hb, h0.out.below hb, ?_, by rw [setCells_size]; exact h.out.lt, h.out.ge⟩
  rw [← he, ← labL_get hkl]
  exact h.out.bld.step hk (by rw [labL_len]; exact hkl) (labL_all l)
set_option maxRecDepth 100000 in
set_option maxHeartbeats 1000000 in
theorem eqLab1 (x0 : ByteArray) (x1 : ByteArray) (w : World) :
    Calls Tryd.prog 85 #[.agg #[.string x0, .string x1], .agg #[.string x0, .string x1]] w fun r w' => r = .returned (.bool true) ∧ Below w.heap.size w w' := by
  have e0 := txt_eq x0
  have e1 := txt_eq x1
  go_enter Tryd.func85, Tryd.ntmps85
  go_wp2_with (first
    | (with_reducible refine wpList_boxV (w := w) (by with_unfolding_all rfl) 116 (.tmp 0) (by with_unfolding_all rfl) (labv x0 x1) (by with_unfolding_all rfl) ?_; intro w1 hA1 hB1 hS1; have z1 : w.heap.size < w1.heap.size := (by omega); clear hS1)
    | (with_reducible refine wpList_boxV (w := w1) (by with_unfolding_all rfl) 116 (.tmp 1) (by with_unfolding_all rfl) (labv x0 x1) (by with_unfolding_all rfl) ?_; intro w2 hA2 hB2 hS2; clear hS2; have hA3 := hA1.below hB2 z1; have p0 := hA3.cell (k := 0) rfl; have q0 := hA2.cell (k := 0) rfl; have p1 := hA3.cell (k := 1) rfl; have q1 := hA2.cell (k := 1) rfl))
  go_ret
  exact ⟨rfl, hB1.trans (hB2.mono (by omega))⟩
structure Lab2 (w : World) (a1 a2 : Option Addr) (l : List LabV) (w' : World) : Prop where
  below : Below w.heap.size w w'
  s1 : LabAt w' a1 l
  s2 : LabAt w' a2 l
theorem Lab2.start {w : World} {a1 a2 : Option Addr} {l : List LabV} (h1 : LabAt w a1 l) (h2 : LabAt w a2 l) : Hid (Lab2 w a1 a2 l w) := ⟨Below.refl _ _, h1, h2⟩
theorem Lab2.call {w w' w2 : World} {a1 a2 : Option Addr} {l : List LabV} (h : Hid (Lab2 w a1 a2 l w')) (hb : Below w'.heap.size w' w2) : Hid (Lab2 w a1 a2 l w2) := ⟨h.out.below.trans (hb.mono h.out.below.size), h.out.s1.below hb, h.out.s2.below hb⟩
theorem Lab2.drew {w w' : World} {a1 a2 : Option Addr} {l : List LabV} (h : Hid (Lab2 w a1 a2 l w')) : Hid (Lab2 w a1 a2 l w'.drew) := ⟨h.out.below.drew, h.out.s1, h.out.s2⟩
theorem Lab2.all {w w' : World} {b1 o1 b2 o2 i : Nat} {l : List LabV} {x0 : ByteArray} {x1 : ByteArray} (hr : Hid (True → ∃ h : i < l.length, l[i].ky = x0 ∧ l[i].vl = x1)) (h : Hid (Lab2 w (some ⟨b1, o1, none⟩) (some ⟨b2, o2, none⟩) l w')) :
    w'.cell? ⟨b1, o1 + i * 2, none⟩ = some (.string x0) ∧ w'.cell? ⟨b1, o1 + i * 2 + 1, none⟩ = some (.string x1) ∧ w'.cell? ⟨b2, o2 + i * 2, none⟩ = some (.string x0) ∧ w'.cell? ⟨b2, o2 + i * 2 + 1, none⟩ = some (.string x1) ∧ Hid (Lab2 w (some ⟨b1, o1, none⟩) (some ⟨b2, o2, none⟩) l w') := by
  obtain ⟨hi, rfl, rfl⟩ := hr.out trivial
  obtain ⟨p0, p1⟩ := h.out.s1.here i hi
  obtain ⟨q0, q1⟩ := h.out.s2.here i hi
  exact ⟨p0, p1, q0, q1, h⟩
set_option maxRecDepth 100000 in
set_option maxHeartbeats 1000000 in
theorem eqLabS (a1 a2 : Option Addr) (c1 c2 n : Nat) (l : List LabV) (w : World) (hn : l.length = n) (h1 : LabAt w a1 l) (h2 : LabAt w a2 l) (hb : n ≤ maxLen) :
    Calls Tryd.prog 55 #[.slice a1 n c1, .slice a2 n c2] w fun e w' => e = .returned (.bool true) ∧ Below w.heap.size w w' := by
  unfold maxLen at hb
  have HN : Hid (l.length = n) := hn
  have HS0 := Lab2.start h1 h2
  clear h1 h2 hn
  go_enter Tryd.func55, Tryd.ntmps55
  go_wp2_with fail
  go_loopw [5] (fun i wr => ∃ k : Nat, i = .int .i64 (k : Int) ∧ k ≤ n ∧ Hid (Lab2 w a1 a2 l wr)) (fun i _ => n - (intOf i).toNat)
  case atStart => exact ⟨0, rfl, Nat.zero_le _, HS0⟩
  case round =>
    clear HS0
    obtain ⟨k, rfl, hk, HS⟩ := hrel
    by_cases hlt : k < n
    case neg =>
      obtain rfl : k = n := by omega
      go_wp2
      go_ret
      exact ⟨rfl, HS.out.below⟩
    have hkl : k < l.length := by have := HN.out; omega
    obtain ⟨b1, o1, rfl, hd1⟩ := HS.out.s1 k hkl
    clear hd1
    obtain ⟨b2, o2, rfl, hd2⟩ := HS.out.s2 k hkl
    clear hd2
    obtain ⟨x0, hx0⟩ : ∃ x, l[k].ky = x := ⟨_, rfl⟩
    obtain ⟨x1, hx1⟩ : ∃ x, l[k].vl = x := ⟨_, rfl⟩
    have HE : Hid (True → ∃ h : k < l.length, l[k].ky = x0 ∧ l[k].vl = x1) := fun _ => ⟨hkl, hx0, hx1⟩
    clear hx0 hx1 hkl
    have hT : ∀ w0, Calls Tryd.prog 85 #[.agg #[.string x0, .string x1], .agg #[.string x0, .string x1]] w0 fun r w' => r = .returned (.bool true) ∧ Below w0.heap.size w0 w' := fun w0 => eqLab1 x0 x1 w0
    have lk : (k : Int) < n := by omega
    have l0 : (0 : Int) ≤ k := by omega
    have HSd := Lab2.drew HS
    clear HS
    go_wp2_with fail
    go_region_held3 (fun w' => w'.cell? ⟨b1, o1 + k * 2, none⟩ = some (.string x0) ∧ w'.cell? ⟨b1, o1 + k * 2 + 1, none⟩ = some (.string x1) ∧ w'.cell? ⟨b2, o2 + k * 2, none⟩ = some (.string x0) ∧ w'.cell? ⟨b2, o2 + k * 2 + 1, none⟩ = some (.string x1) ∧ Hid (Lab2 w (some ⟨b1, o1, none⟩) (some ⟨b2, o2, none⟩) l w'))
      (first | exact Lab2.all HE HSd | exact Lab2.all HE (Lab2.call HSd h8))
      (first
        | (go_at_call 85; with_reducible refine (hT _).mono ?_; rintro r w8 ⟨rfl, h8⟩))
    all_goals
      have HS9 := Lab2.call HSd h8
      go_wp2_with fail
      go_roundw
      case rel => exact ⟨k + 1, by go_num, by omega, HS9⟩
      case measure => simp [intOf]; omega
structure LabZ (w : World) (a : Option Addr) (l : List LabV) (w' : World) : Prop where
  below : Below w.heap.size w w'
  at_ : LabAt w' a l
theorem LabZ.start {w : World} {a : Option Addr} {l : List LabV} (h : LabAt w a l) : Hid (LabZ w a l w) := ⟨Below.refl _ _, h⟩
theorem LabZ.call {w w' w2 : World} {a : Option Addr} {l : List LabV} (h : Hid (LabZ w a l w')) (hb : Below w'.heap.size w' w2) : Hid (LabZ w a l w2) := ⟨h.out.below.trans (hb.mono h.out.below.size), h.out.at_.below hb⟩
end Go.Proofs.YtchfpiadfmnphaaDoor
namespace Go.Proofs.YtchfpiadfmnphaaDoor
open Go.RowKit
set_option linter.unusedVariables false

def LayOk (x : LayV) : Prop := x.bl.size = 32 ∧ 0 ≤ x.sz ∧ x.sz ≤ 3000
def LaysOk (l : List LayV) : Prop := l.length ≤ 10 ∧ ∀ j (h : j < l.length), LayOk l[j]
def LabOk (l : List LabV) (k : Nat) : Prop := ∃ h : k < l.length, nameB l[k].ky = true ∧ nameB l[k].vl = true ∧ ∀ k1 (h1 : k1 < l.length), k = k1 + 1 → nmLt l[k1].ky l[k].ky = true
def LabsOk (l : List LabV) : Prop := l.length ≤ 10 ∧ ∀ j, j < l.length → LabOk l j
def ManOk (nm : ByteArray) (ls : List LayV) (bs : List LabV) : Prop := nameB nm = true ∧ LaysOk ls ∧ LabsOk bs
theorem LaysOk.not_long {l : List LayV} {n : Nat} (hn : l.length = n) (h : 10 < n) : ¬ LaysOk l := fun k => by have := k.1; omega
theorem LabsOk.not_long {l : List LabV} {n : Nat} (hn : l.length = n) (h : 10 < n) : ¬ LabsOk l := fun k => by have := k.1; omega
theorem LaysOk.not_at {l : List LayV} {k : Nat} {x0 : ByteArray} {x1 : Int} (hk : k < l.length) (h0 : l[k].bl = x0) (h1 : l[k].sz = x1) (h : ¬ (x0.size = 32 ∧ 0 ≤ x1 ∧ x1 ≤ 3000)) : ¬ LaysOk l := fun hl => h (by
  have := hl.2 k hk
  unfold LayOk at this
  rw [h0, h1] at this
  exact this)
theorem LaysOk.step {l : List LayV} {k : Nat} {x0 : ByteArray} {x1 : Int} (h : ∀ j (h : j < l.length), j < k → LayOk l[j]) (hk : k < l.length) (h0 : l[k].bl = x0) (h1 : l[k].sz = x1) (ho : x0.size = 32 ∧ 0 ≤ x1 ∧ x1 ≤ 3000) : ∀ j (h : j < l.length), j < k + 1 → LayOk l[j] := fun j hj hjk => by
  by_cases e : j < k
  · exact h j hj e
  · obtain rfl : j = k := by omega
    unfold LayOk
    rw [h0, h1]
    exact ho
theorem LaysOk.all {l : List LayV} {n : Nat} (h : ∀ j (h : j < l.length), j < n → LayOk l[j]) (hn : l.length = n) (h10 : ¬ 10 < n) : LaysOk l := ⟨by omega, fun j hj => h j hj (by omega)⟩
theorem LabsOk.not_at {l : List LabV} {k : Nat} {x0 x1 : ByteArray} (hk : k < l.length) (h0 : l[k].ky = x0) (h1 : l[k].vl = x1) (h : nameB x0 = true → nameB x1 = true → False) : ¬ LabsOk l := fun hl => by
  obtain ⟨_, g0, g1, _⟩ := hl.2 k hk
  rw [h0] at g0
  rw [h1] at g1
  exact h g0 g1
theorem LabsOk.not_lt {l : List LabV} {k k1 : Nat} {x0 z : ByteArray} (hk : k < l.length) (h0 : l[k].ky = x0) (hk1 : k1 < l.length) (hz : l[k1].ky = z) (e : k = k1 + 1) (h : nmLt z x0 = false) : ¬ LabsOk l := fun hl => by
  obtain ⟨_, _, _, g⟩ := hl.2 k hk
  have := g k1 hk1 e
  rw [h0, hz, h] at this
  cases this
theorem LabsOk.step {l : List LabV} {k : Nat} {x0 x1 : ByteArray} (h : ∀ j, j < k → LabOk l j) (hk : k < l.length) (h0 : l[k].ky = x0) (h1 : l[k].vl = x1) (g0 : nameB x0 = true) (g1 : nameB x1 = true) (g : ∀ k1 (h1 : k1 < l.length), k = k1 + 1 → nmLt l[k1].ky x0 = true) : ∀ j, j < k + 1 → LabOk l j := fun j hjk => by
  by_cases e : j < k
  · exact h j e
  · obtain rfl : j = k := by omega
    exact ⟨hk, by rw [h0]; exact g0, by rw [h1]; exact g1, fun k1 hk1 e => by rw [h0]; exact g k1 hk1 e⟩
theorem LabsOk.all {l : List LabV} {n : Nat} (h : ∀ j, j < n → LabOk l j) (hn : l.length = n) (h10 : ¬ 10 < n) : LabsOk l := ⟨by omega, fun j hj => h j (by omega)⟩
end Go.Proofs.YtchfpiadfmnphaaDoor
