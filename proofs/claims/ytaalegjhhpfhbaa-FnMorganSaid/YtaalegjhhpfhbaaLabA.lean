/- Rows of Label: what lies there; the laws' helpers: how much room they take, turned to the program's, held against others. -/
import Derived.Test.YtaalegjhhpfhbaaStaL
import Derived.Test.YtaalegjhhpfhbaaTy
import Derived.Test.YtaalegjhhpfhbaaSRow
import Derived.Test.YtaalegjhhpfhbaaRlL
import Derived.Test.YtaalegjhhpfhbaaArg
import Derived.Deep.RegionHeld3
namespace Go.Proofs.Ytaalegjhhpfhbaa
open Go.RowKit Go.Joins Go.ChangeShapes Go.WideShapes Go.ChangeAt Go.Deep
set_option linter.unusedVariables false

structure LabV where
  ky : ByteArray
  vl : ByteArray
def LabV.w (x : LabV) : Prop := x.ky.size ≤ maxLen ∧ x.vl.size ≤ maxLen
def labv (x0 : ByteArray) (x1 : ByteArray) : List Value := [.string x0, .string x1]
theorem labv_one (x0 : ByteArray) (x1 : ByteArray) : ∀ v ∈ labv x0 x1, v.oneCell' = true := by
  intro v hv
  simp only [labv, List.mem_cons, List.not_mem_nil, or_false] at hv
  rcases hv with rfl | rfl <;> rfl
def labL (l : List LabV) : List (List Value) := l.map fun x => labv x.ky x.vl
theorem labL_len (l : List LabV) : (labL l).length = l.length := List.length_map _
theorem labL_get {l : List LabV} {i : Nat} (h : i < l.length) : (labL l)[i]'(by rw [labL_len]; exact h) = labv l[i].ky l[i].vl := by unfold labL; rw [List.getElem_map]
theorem labL_all (l : List LabV) : ∀ x ∈ labL l, x.length = 2 := fun x hx => by
  unfold labL at hx
  obtain ⟨y, _, rfl⟩ := List.mem_map.1 hx
  rfl
def LabAt (w : World) (a : Option Addr) (l : List LabV) : Prop := ∀ i (h : i < l.length), ∃ b o, a = some ⟨b, o, none⟩ ∧ w.cell? ⟨b, o + i * 2, none⟩ = some (.string l[i].ky) ∧ w.cell? ⟨b, o + i * 2 + 1, none⟩ = some (.string l[i].vl)
theorem LabAt.below {w w' : World} {a : Option Addr} {l : List LabV} (h : LabAt w a l) (hb : Below w.heap.size w w') : LabAt w' a l := fun i hi => by
  obtain ⟨b, o, h1, h2, h3⟩ := h i hi
  exact ⟨b, o, h1, (hb.cell (p := ⟨b, o + i * 2, none⟩) (cellLt h2)).trans h2, (hb.cell (p := ⟨b, o + i * 2 + 1, none⟩) (cellLt h3)).trans h3⟩
theorem LabAt.here {w : World} {b o : Nat} {l : List LabV} (h : LabAt w (some ⟨b, o, none⟩) l) (i : Nat) (hi : i < l.length) : w.cell? ⟨b, o + i * 2, none⟩ = some (.string l[i].ky) ∧ w.cell? ⟨b, o + i * 2 + 1, none⟩ = some (.string l[i].vl) := by
  obtain ⟨b', o', e, h2, h3⟩ := h i hi
  injection e with e
  injection e with e1 e2
  subst e1 e2
  exact ⟨h2, h3⟩
theorem RowV.lab {w : World} {g : Nat} {l : List LabV} (h : RowV w g (labL l).flatten) : LabAt w (some ⟨g, 0, none⟩) l := fun i hi => by
  have hg : ∀ j, j < 2 → (labL l).flatten[i * 2 + j]? = (labv l[i].ky l[i].vl)[j]? := fun j hj => by
    rw [flatS_get (labL l) (labL_all l) i j (by rw [labL_len]; exact hi) hj, labL_get hi]
  refine ⟨g, 0, rfl, ?_, ?_⟩
  all_goals rw [Nat.zero_add]
  · exact h.cell (k := i * 2) (hg 0 (by decide))
  · exact h.cell (k := i * 2 + 1) (hg 1 (by decide))
theorem BldV.labrow {w : World} {g n : Nat} {l : List LabV} (h : BldV w g 2 n (labL l) n) (hn : l.length = n) : RowV w g (labL l).flatten := h.flat (by rw [labL_len]; exact hn) (labL_all l) (by decide)
theorem Try.infLab : (Try.prog.info? 88).map (fun i => (i.zero, i.size, i.bytes)) = some (some (.agg #[.string ⟨#[]⟩, .string ⟨#[]⟩]), 2, 32) := by kernel_rfl
set_option maxRecDepth 100000 in
set_option maxHeartbeats 1000000 in
theorem toLab1 (x0 : ByteArray) (x1 : ByteArray) (w : World) :
    Calls Try.prog 54 #[.agg #[.string x0, .string x1]] w fun r w' => r = .returned (.agg #[.string x0, .string x1]) ∧ Below w.heap.size w w' := by
  go_enter Try.func54, Try.ntmps54
  go_wp2
  refine bodyPost_ret (v := Value.agg (labv x0 x1).toArray) (by simp [results, Try.results54, go_sem, labv]) rfl ⟨rfl, ?_⟩
  exact (((Below.refl _ _).alloc (Nat.le_refl _) _).alloc (by rw [szA]; omega) _).alloc (by rw [szA, szA]; omega) _
structure LabB (w : World) (a : Option Addr) (l : List LabV) (g n k : Nat) (w' : World) : Prop where
  below : Below w.heap.size w w'
  at_ : LabAt w' a l
  bld : BldV w' g 2 n (labL l) k
  lt : g < w'.heap.size
  ge : w.heap.size ≤ g
theorem LabB.call {w w' w2 : World} {a : Option Addr} {l : List LabV} {g n k : Nat} (h : Hid (LabB w a l g n k w')) (hb : Below w'.heap.size w' w2) : Hid (LabB w a l g n k w2) :=
  ⟨h.out.below.trans (hb.mono h.out.below.size), h.out.at_.below hb, h.out.bld.below hb h.out.lt, Nat.lt_of_lt_of_le h.out.lt hb.size, h.out.ge⟩
theorem LabB.there {w w' : World} {a : Option Addr} {l : List LabV} {g n k : Nat} (h : Hid (LabB w a l g n k w')) (hk : k < n) : w'.there g (k * 2) 2 := there_part h.out.bld.ths hk
theorem LabB.step {w w' : World} {a : Option Addr} {l : List LabV} {g n k : Nat} {x0 : ByteArray} {x1 : ByteArray} (h : Hid (LabB w a l g n k w')) (h0 : Hid (LabAt w a l)) (hk : k < n) (hn : l.length = n) (he : Hid (True → ∃ h : k < l.length, labv l[k].ky l[k].vl = labv x0 x1)) : Hid (LabB w a l g n (k + 1) (w'.setCells g (k * 2) (labv x0 x1))) := by
  obtain ⟨hkl, he⟩ := he.out trivial
  have hb : Below w.heap.size w (w'.setCells g (k * 2) (labv x0 x1)) := h.out.below.trans (below_set h.out.ge)
  refine ⟨hb, h0.out.below hb, ?_, by rw [setCells_size]; exact h.out.lt, h.out.ge⟩
  rw [← he, ← labL_get hkl]
  exact h.out.bld.step hk (by rw [labL_len]; exact hkl) (labL_all l)
set_option maxRecDepth 100000 in
set_option maxHeartbeats 1000000 in
theorem toLabS (a : Option Addr) (c n : Nat) (l : List LabV) (w : World) (hn : l.length = n) (h : LabAt w a l) (hb : n ≤ 1048576) :
    Calls Try.prog 18 #[.slice a n c] w fun e w' => e = .returned (.slice (some ⟨w.heap.size, 0, none⟩) n n) ∧ RowV w' w.heap.size (labL l).flatten ∧ Below w.heap.size w w' ∧ w.heap.size < w'.heap.size := by
  have HA : Hid (LabAt w a l) := h
  have HN : Hid (l.length = n) := hn
  clear h hn
  obtain ⟨i0, hi, hz0, hz1, hz2⟩ := info_parts Try.infLab
  go_enter Try.func18, Try.ntmps18
  go_wp2_with (first
    | (at_make; refine wpList_make_full _ rfl _ _ 32 rfl w.heap.size 88 i0 _ 2 Try.underlying32 hi hz0 hz1 _ _ _ _ n rfl rfl (by omega) (by omega) (by rw [hz2]; omega) (by unfold maxLen; omega) (Nat.le_refl _) ?_))
  intro w1 hown1 hgr1
  have hb1 : Below w.heap.size w w1 := (Below.refl _ _).grown hgr1 (Nat.le_refl _) (fun _ h => by cases h)
  have HS1 : Hid (LabB w a l w.heap.size n 0 w1) := ⟨hb1, HA.out.below hb1, BldV.made hown1, (hown1.lt w.heap.size rfl).2, Nat.le_refl _⟩
  clear hown1 hgr1 hi hz0 hz1 hz2 hb1
  go_wp2_with fail
  go_loopw [4] (fun i wr => ∃ k : Nat, i = .int .i64 (k : Int) ∧ k ≤ n ∧ Hid (LabB w a l w.heap.size n k wr)) (fun i _ => n - (intOf i).toNat)
  case atStart => exact ⟨0, rfl, Nat.zero_le _, HS1⟩
  case round =>
    clear HS1
    obtain ⟨k, rfl, hk, HS⟩ := hrel
    by_cases hlt : k < n
    case neg =>
      obtain rfl : k = n := by omega
      go_wp2
      go_ret
      exact ⟨rfl, BldV.labrow HS.out.bld HN.out, HS.out.below, HS.out.lt⟩
    have hkl : k < l.length := by have := HN.out; omega
    obtain ⟨b, o, rfl, c0, c1⟩ := HS.out.at_ k hkl
    obtain ⟨x0, hx0⟩ : ∃ x, l[k].ky = x := ⟨_, rfl⟩
    obtain ⟨x1, hx1⟩ : ∃ x, l[k].vl = x := ⟨_, rfl⟩
    have HE : Hid (True → ∃ h : k < l.length, labv l[k].ky l[k].vl = labv x0 x1) := fun _ => ⟨hkl, by rw [hx0, hx1]⟩
    rw [hx0] at c0
    rw [hx1] at c1
    clear hx0 hx1 hkl
    have hT : ∀ w0, Calls Try.prog 54 #[.agg #[.string x0, .string x1]] w0 fun r w' => r = .returned (.agg #[.string x0, .string x1]) ∧ Below w0.heap.size w0 w' := fun w0 => toLab1 x0 x1 w0
    have lk : (k : Int) < n := by omega
    have l0 : (0 : Int) ≤ k := by omega
    go_wp2_with (first
      | (go_at_call 54; with_reducible refine (hT _).mono ?_; rintro r w5 ⟨rfl, hB5⟩; have HS5 := LabB.call HS hB5)
      | (with_reducible refine wpList_storeAt (w := w5) (by with_unfolding_all rfl) 88 (.tmp 21) (.tmp 20) (by with_unfolding_all rfl) w.heap.size (k * 2) 2 (labv x0 x1) (by with_unfolding_all rfl) (by with_unfolding_all rfl) (LabB.there HS5 hlt) Try.sT_implLabel rfl (labv_one x0 x1) ?_))
    go_roundw
    case rel => exact ⟨k + 1, by go_num, hlt, LabB.step HS5 HA hlt HN.out HE⟩
    case measure => simp [intOf]; omega
theorem toLabM (a : Option Addr) (c n : Nat) (l : List LabV) (w : World) (hn : l.length = n) (h : LabAt w a l) (hb : n ≤ 1048576) :
    Calls Try.prog 18 #[.slice a n c] w fun r w' => ∃ (g : Nat), r = .returned (.slice (some ⟨g, 0, none⟩) n n) ∧ (w.heap.size ≤ g ∧ g < w'.heap.size) ∧ Made w w' (fun w2 => RowV w2 g (labL l).flatten) ∧ Below w.heap.size w w' :=
  (toLabS a c n l w hn h hb).mono fun r w' ⟨h1, h2, h3, h4⟩ => ⟨w.heap.size, h1, ⟨Nat.le_refl _, h4⟩, rowv_made h2 (Nat.le_refl _) h4, h3⟩
set_option maxRecDepth 100000 in
set_option maxHeartbeats 1000000 in
theorem eqLab1 (x0 : ByteArray) (x1 : ByteArray) (w : World) :
    Calls Try.prog 55 #[.agg #[.string x0, .string x1], .agg #[.string x0, .string x1]] w fun r w' => r = .returned (.bool true) ∧ Below w.heap.size w w' := by
  have e0 := txt_eq x0
  have e1 := txt_eq x1
  go_enter Try.func55, Try.ntmps55
  go_wp2_with (first
    | (with_reducible refine wpList_boxV (w := w) (by with_unfolding_all rfl) 88 (.tmp 0) (by with_unfolding_all rfl) (labv x0 x1) (by with_unfolding_all rfl) ?_; intro w1 hA1 hB1 hS1; have z1 : w.heap.size < w1.heap.size := (by omega); clear hS1)
    | (with_reducible refine wpList_boxV (w := w1) (by with_unfolding_all rfl) 88 (.tmp 1) (by with_unfolding_all rfl) (labv x0 x1) (by with_unfolding_all rfl) ?_; intro w2 hA2 hB2 hS2; clear hS2; have hA3 := hA1.below hB2 z1; have p0 := hA3.cell (k := 0) rfl; have q0 := hA2.cell (k := 0) rfl; have p1 := hA3.cell (k := 1) rfl; have q1 := hA2.cell (k := 1) rfl))
  go_ret
  exact ⟨rfl, hB1.trans (hB2.mono (by omega))⟩
structure Lab2 (w : World) (a1 a2 : Option Addr) (l : List LabV) (w' : World) : Prop where
  below : Below w.heap.size w w'
  s1 : LabAt w' a1 l
  s2 : LabAt w' a2 l
theorem Lab2.start {w : World} {a1 a2 : Option Addr} {l : List LabV} (h1 : LabAt w a1 l) (h2 : LabAt w a2 l) : Hid (Lab2 w a1 a2 l w) := ⟨Below.refl _ _, h1, h2⟩
theorem Lab2.call {w w' w2 : World} {a1 a2 : Option Addr} {l : List LabV} (h : Hid (Lab2 w a1 a2 l w')) (hb : Below w'.heap.size w' w2) : Hid (Lab2 w a1 a2 l w2) := ⟨h.out.below.trans (hb.mono h.out.below.size), h.out.s1.below hb, h.out.s2.below hb⟩
theorem Lab2.drew {w w' : World} {a1 a2 : Option Addr} {l : List LabV} (h : Hid (Lab2 w a1 a2 l w')) : Hid (Lab2 w a1 a2 l w'.drew) := ⟨h.out.below.drew, h.out.s1, h.out.s2⟩
theorem Lab2.all {w w' : World} {b1 o1 b2 o2 i : Nat} {l : List LabV} {x0 : ByteArray} {x1 : ByteArray} (hr : Hid (True → ∃ h : i < l.length, l[i].ky = x0 ∧ l[i].vl = x1)) (h : Hid (Lab2 w (some ⟨b1, o1, none⟩) (some ⟨b2, o2, none⟩) l w')) :
    w'.cell? ⟨b1, o1 + i * 2, none⟩ = some (.string x0) ∧ w'.cell? ⟨b1, o1 + i * 2 + 1, none⟩ = some (.string x1) ∧ w'.cell? ⟨b2, o2 + i * 2, none⟩ = some (.string x0) ∧ w'.cell? ⟨b2, o2 + i * 2 + 1, none⟩ = some (.string x1) ∧ Hid (Lab2 w (some ⟨b1, o1, none⟩) (some ⟨b2, o2, none⟩) l w') := by
  obtain ⟨hi, rfl, rfl⟩ := hr.out trivial
  obtain ⟨p0, p1⟩ := h.out.s1.here i hi
  obtain ⟨q0, q1⟩ := h.out.s2.here i hi
  exact ⟨p0, p1, q0, q1, h⟩
set_option maxRecDepth 100000 in
set_option maxHeartbeats 1000000 in
theorem eqLabS (a1 a2 : Option Addr) (c1 c2 n : Nat) (l : List LabV) (w : World) (hn : l.length = n) (h1 : LabAt w a1 l) (h2 : LabAt w a2 l) (hb : n ≤ maxLen) :
    Calls Try.prog 20 #[.slice a1 n c1, .slice a2 n c2] w fun e w' => e = .returned (.bool true) ∧ Below w.heap.size w w' := by
  unfold maxLen at hb
  have HN : Hid (l.length = n) := hn
  have HS0 := Lab2.start h1 h2
  clear h1 h2 hn
  go_enter Try.func20, Try.ntmps20
  go_wp2_with fail
  go_loopw [5] (fun i wr => ∃ k : Nat, i = .int .i64 (k : Int) ∧ k ≤ n ∧ Hid (Lab2 w a1 a2 l wr)) (fun i _ => n - (intOf i).toNat)
  case atStart => exact ⟨0, rfl, Nat.zero_le _, HS0⟩
  case round =>
    clear HS0
    obtain ⟨k, rfl, hk, HS⟩ := hrel
    by_cases hlt : k < n
    case neg =>
      obtain rfl : k = n := by omega
      go_wp2
      go_ret
      exact ⟨rfl, HS.out.below⟩
    have hkl : k < l.length := by have := HN.out; omega
    obtain ⟨b1, o1, rfl, hd1⟩ := HS.out.s1 k hkl
    clear hd1
    obtain ⟨b2, o2, rfl, hd2⟩ := HS.out.s2 k hkl
    clear hd2
    obtain ⟨x0, hx0⟩ : ∃ x, l[k].ky = x := ⟨_, rfl⟩
    obtain ⟨x1, hx1⟩ : ∃ x, l[k].vl = x := ⟨_, rfl⟩
    have HE : Hid (True → ∃ h : k < l.length, l[k].ky = x0 ∧ l[k].vl = x1) := fun _ => ⟨hkl, hx0, hx1⟩
    clear hx0 hx1 hkl
    have hT : ∀ w0, Calls Try.prog 55 #[.agg #[.string x0, .string x1], .agg #[.string x0, .string x1]] w0 fun r w' => r = .returned (.bool true) ∧ Below w0.heap.size w0 w' := fun w0 => eqLab1 x0 x1 w0
    have lk : (k : Int) < n := by omega
    have l0 : (0 : Int) ≤ k := by omega
    have HSd := Lab2.drew HS
    clear HS
    go_wp2_with fail
    go_region_held3 (fun w' => w'.cell? ⟨b1, o1 + k * 2, none⟩ = some (.string x0) ∧ w'.cell? ⟨b1, o1 + k * 2 + 1, none⟩ = some (.string x1) ∧ w'.cell? ⟨b2, o2 + k * 2, none⟩ = some (.string x0) ∧ w'.cell? ⟨b2, o2 + k * 2 + 1, none⟩ = some (.string x1) ∧ Hid (Lab2 w (some ⟨b1, o1, none⟩) (some ⟨b2, o2, none⟩) l w'))
      (first | exact Lab2.all HE HSd | exact Lab2.all HE (Lab2.call HSd h8))
      (first
        | (go_at_call 55; with_reducible refine (hT _).mono ?_; rintro r w8 ⟨rfl, h8⟩))
    all_goals
      have HS9 := Lab2.call HSd h8
      go_wp2_with fail
      go_roundw
      case rel => exact ⟨k + 1, by go_num, by omega, HS9⟩
      case measure => simp [intOf]; omega
set_option maxRecDepth 100000 in
theorem szLab1 (x0 : ByteArray) (x1 : ByteArray) (q : Int) (w : World) (h1 : x0.size ≤ maxLen) (h2 : x1.size ≤ maxLen) (h0 : 0 ≤ q) (hq : q ≤ 1048576) :
    Calls Try.prog 52 #[.agg #[.string x0, .string x1], .int .i64 q] w fun e w' => (∃ d : Int, e = .returned (.int .i64 d) ∧ d ≤ 1048576 ∧ -1 ≤ d) ∧ Below w.heap.size w w' := by
  unfold maxLen at h1 h2
  by_cases c0 : q - (x0.size : Int) < 0
  · skip
    go_enter Try.func52, Try.ntmps52
    go_wp2_with (first
      | (with_reducible refine wpList_boxV (w := w) (by with_unfolding_all rfl) 85 (.tmp 0) (by with_unfolding_all rfl) (labv x0 x1) (by with_unfolding_all rfl) ?_; intro w1 hA1 hB1 hS1; have p0 := hA1.cell (k := 0) rfl; have p1 := hA1.cell (k := 1) rfl; clear hS1))
    go_ret
    exact ⟨⟨_, rfl, by omega, by omega⟩, hB1⟩
  obtain ⟨d0, hd0⟩ : ∃ d, q - (x0.size : Int) = d := ⟨_, rfl⟩
  have hd00 : 0 ≤ d0 := by omega
  have hd01 : d0 ≤ 1048576 := by omega
  by_cases c1 : d0 - (x1.size : Int) < 0
  · skip
    go_enter Try.func52, Try.ntmps52
    go_wp2_with (first
      | (with_reducible refine wpList_boxV (w := w) (by with_unfolding_all rfl) 85 (.tmp 0) (by with_unfolding_all rfl) (labv x0 x1) (by with_unfolding_all rfl) ?_; intro w1 hA1 hB1 hS1; have p0 := hA1.cell (k := 0) rfl; have p1 := hA1.cell (k := 1) rfl; clear hS1))
    go_ret
    exact ⟨⟨_, rfl, by omega, by omega⟩, hB1⟩
  · have c1' : 0 ≤ d0 - (x1.size : Int) := by omega
    go_enter Try.func52, Try.ntmps52
    go_wp2_with (first
      | (with_reducible refine wpList_boxV (w := w) (by with_unfolding_all rfl) 85 (.tmp 0) (by with_unfolding_all rfl) (labv x0 x1) (by with_unfolding_all rfl) ?_; intro w1 hA1 hB1 hS1; have p0 := hA1.cell (k := 0) rfl; have p1 := hA1.cell (k := 1) rfl; clear hS1))
    go_ret
    exact ⟨⟨_, rfl, by omega, by omega⟩, hB1⟩
structure LabZ (w : World) (a : Option Addr) (l : List LabV) (w' : World) : Prop where
  below : Below w.heap.size w w'
  at_ : LabAt w' a l
theorem LabZ.start {w : World} {a : Option Addr} {l : List LabV} (h : LabAt w a l) : Hid (LabZ w a l w) := ⟨Below.refl _ _, h⟩
theorem LabZ.call {w w' w2 : World} {a : Option Addr} {l : List LabV} (h : Hid (LabZ w a l w')) (hb : Below w'.heap.size w' w2) : Hid (LabZ w a l w2) := ⟨h.out.below.trans (hb.mono h.out.below.size), h.out.at_.below hb⟩
set_option maxRecDepth 100000 in
set_option maxHeartbeats 1000000 in
theorem szLabS (a : Option Addr) (c n : Nat) (l : List LabV) (q0 : Int) (w : World) (hn : l.length = n) (h : LabAt w a l) (hM : n ≤ maxLen) (hw : ∀ x ∈ l, x.w) (g0 : 0 ≤ q0) (g1 : q0 ≤ 1048576) :
    Calls Try.prog 16 #[.slice a n c, .int .i64 q0] w fun e w' => (∃ z : Int, e = .returned (.int .i64 z) ∧ z ≤ 1048576 ∧ (0 ≤ z → n ≤ 1048576)) ∧ Below w.heap.size w w' := by
  have HS0 := LabZ.start h
  have HN : Hid (l.length = n) := hn
  have HW : Hid (∀ x ∈ l, x.w) := hw
  clear h hn hw
  unfold maxLen at hM
  by_cases hb : q0 - (n : Int) < 0
  · go_enter Try.func16, Try.ntmps16
    go_wp2
    go_ret
    exact ⟨⟨_, rfl, by omega, fun h => absurd h (by omega)⟩, Below.refl _ _⟩
  · have hn1 : n ≤ 1048576 := by omega
    have hn2 : 0 ≤ q0 - (n : Int) := by omega
    go_enter Try.func16, Try.ntmps16
    go_wp2_with fail
    go_loopw [1, 5] (fun vq vi wr => ∃ (k : Nat) (q : Int), vi = .int .i64 (k : Int) ∧ vq = .int .i64 q ∧ k ≤ n ∧ 0 ≤ q ∧ q ≤ 1048576 ∧ Hid (LabZ w a l wr)) (fun _ vi _ => n - (intOf vi).toNat)
    case atStart => exact ⟨0, _, rfl, rfl, Nat.zero_le _, by omega, by omega, HS0⟩
    case round =>
      clear HS0
      obtain ⟨k, q, rfl, rfl, hk, hq0, hq1, HS⟩ := hrel
      by_cases hlt : k < n
      case neg =>
        obtain rfl : k = n := by omega
        go_wp2
        go_ret
        exact ⟨⟨_, rfl, hq1, fun _ => hn1⟩, HS.out.below⟩
      have hkl : k < l.length := by have := HN.out; omega
      obtain ⟨b, o, rfl, c0, c1⟩ := HS.out.at_ k hkl
      obtain ⟨y0, y1⟩ := HW.out l[k] (List.getElem_mem hkl)
      generalize l[k].ky = x0 at *
      generalize l[k].vl = x1 at *
      have hZ : ∀ w0, Calls Try.prog 52 #[.agg #[.string x0, .string x1], .int .i64 q] w0 fun e w' => (∃ d : Int, e = .returned (.int .i64 d) ∧ d ≤ 1048576 ∧ -1 ≤ d) ∧ Below w0.heap.size w0 w' := fun w0 => szLab1 x0 x1 q w0 y0 y1 hq0 hq1
      have lk : (k : Int) < n := by omega
      have l0 : (0 : Int) ≤ k := by omega
      clear hkl y0 y1
      go_wp2_with fail
      refine (hZ _).mono ?_
      rintro r w5 ⟨⟨d, rfl, hd1, hd2⟩, hB5⟩
      have HS5 := LabZ.call HS hB5
      clear hZ
      by_cases hneg : d < 0
      · go_wp2
        go_ret
        exact ⟨⟨_, rfl, by omega, fun h => absurd h (by omega)⟩, HS5.out.below⟩
      · go_wp2
        go_roundw
        case rel => exact ⟨k + 1, d, by go_num, rfl, by omega, by omega, hd1, HS5⟩
        case measure => simp [intOf]; omega
theorem lab_arg {H : Type} {enc : TypeId × Value → H} {w : World} {base : Nat} {spare : Nat → Bool} {held : Bool} {fuel : Nat} {cs : List Value} {x : DataW H × List MemPlace} (h : DataW.trod enc Try.prog w base spare held fuel 29 cs = some x) :
    ∃ (a : Option Addr) (n c : Nat), cs = [.slice a n c] ∧ n ≤ c ∧ c ≤ maxLen ∧ ∃ l : List LabV, l.length = n ∧ LabAt w a l ∧ ∀ x ∈ l, x.w := by
  obtain ⟨a, n, c, h1, h2, h3, h4⟩ := open_elems (k := 2) Try.underlying29 (by kernel_rfl) (by decide) (fun cs => ∃ x : LabV, cs = labv x.ky x.vl ∧ x.w) (fun fuel cs y hy => by
    obtain ⟨c0, c1, y0, y1, n, rfl, k0, k1⟩ := cells2 Try.underlying85 (by kernel_rfl) (by kernel_rfl) hy
    obtain ⟨z0, e0, _, w0⟩ := DataW.trod_string Try.underlying9 k0
    obtain ⟨z1, e1, _, w1⟩ := DataW.trod_string Try.underlying9 k1
    injection e0 with e0
    injection e1 with e1
    subst e0 e1
    exact ⟨⟨z0, z1⟩, rfl, w0, w1⟩) h
  refine ⟨a, n, c, h1, h2, h3, ?_⟩
  obtain ⟨l, hl, hp⟩ := exists_list (P := fun i (x : LabV) => (∃ b o, a = some ⟨b, o, none⟩ ∧ w.cell? ⟨b, o + i * 2, none⟩ = some (.string x.ky) ∧ w.cell? ⟨b, o + i * 2 + 1, none⟩ = some (.string x.vl)) ∧ x.w) n (fun i hi => by
    obtain ⟨b, o, cs, ha, hlen, hcs, x, rfl, hx⟩ := h4 i hi
    exact ⟨x, ⟨b, o, ha, hcs 0 (by decide), hcs 1 (by decide)⟩, hx⟩)
  refine ⟨l, hl, fun i hi => (hp i hi).1, fun x hx => ?_⟩
  obtain ⟨i, hi, rfl⟩ := List.mem_iff_getElem.1 hx
  exact (hp i hi).2
end Go.Proofs.Ytaalegjhhpfhbaa
