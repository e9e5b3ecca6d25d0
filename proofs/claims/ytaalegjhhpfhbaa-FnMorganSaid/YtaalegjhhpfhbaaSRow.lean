/- Slices of texts: read where they lie; what the laws' helpers szStringS, toStringS, eqStringS answer. -/
import Derived.Test.YtaalegjhhpfhbaaRowV
import Derived.OwnWalk
namespace Go.Proofs.Ytaalegjhhpfhbaa
open Go.RowKit
set_option linter.unusedVariables false

def SA (w : World) (a : Option Addr) (l : List ByteArray) : Prop := ∀ k (h : k < l.length), ∃ b o, a = some ⟨b, o, none⟩ ∧ w.cell? ⟨b, o + k, none⟩ = some (.string l[k])
theorem SA.below {w w' : World} {a : Option Addr} {l : List ByteArray} (h : SA w a l) (hb : Below w.heap.size w w') : SA w' a l := fun k hk => by
  obtain ⟨b, o, ha, hc⟩ := h k hk
  exact ⟨b, o, ha, (hb.cell (p := ⟨b, o + k, none⟩) (cellLt hc)).trans hc⟩
theorem SA.drew {w : World} {a : Option Addr} {l : List ByteArray} (h : SA w a l) : SA w.drew a l := h
theorem SA.drewN {w : World} {a : Option Addr} {l : List ByteArray} (h : SA w a l) (n : Nat) : SA (w.drewN n) a l := h
theorem SA.nil (w : World) (a : Option Addr) : SA w a [] := fun k h => absurd h (Nat.not_lt_zero _)
theorem SA.take {w : World} {a : Option Addr} {l : List ByteArray} (h : SA w a l) (n : Nat) : SA w a (l.take n) := fun k hk => by
  have hk' : k < l.length := by rw [List.length_take] at hk; omega
  obtain ⟨b, o, ha, hc⟩ := h k hk'
  exact ⟨b, o, ha, by rw [hc, List.getElem_take]⟩
theorem SA.drop {w : World} {b o : Nat} {l : List ByteArray} (h : SA w (some ⟨b, o, none⟩) l) (n : Nat) : SA w (some ⟨b, o + n, none⟩) (l.drop n) := fun k hk => by
  have hk' : n + k < l.length := by rw [List.length_drop] at hk; omega
  obtain ⟨b', o', ha, hc⟩ := h (n + k) hk'
  injection ha with ha
  injection ha with h1 h2
  subst h1 h2
  exact ⟨b, o + n, rfl, by rw [Nat.add_assoc, hc, List.getElem_drop]⟩
theorem SA.base {w : World} {a : Option Addr} {l : List ByteArray} (h : SA w a l) (hl : 1 ≤ l.length) : ∃ b o, a = some ⟨b, o, none⟩ := by
  obtain ⟨b, o, ha, _⟩ := h 0 hl
  exact ⟨b, o, ha⟩
/- A row of texts in a block of its own. -/
def svl (l : List ByteArray) : List Value := l.map Value.string
theorem svl_length (l : List ByteArray) : (svl l).length = l.length := List.length_map _
theorem svl_get {l : List ByteArray} {k : Nat} (h : k < l.length) : (svl l)[k]? = some (.string l[k]) := by unfold svl; rw [List.getElem?_map, List.getElem?_eq_getElem h]; rfl
theorem svl_set (l : List ByteArray) (k : Nat) (x : ByteArray) : (svl l).set k (.string x) = svl (l.set k x) := by unfold svl; rw [List.map_set]
theorem RowV.sa {w : World} {g : Nat} {l : List ByteArray} (h : RowV w g (svl l)) : SA w (some ⟨g, 0, none⟩) l := fun k hk => ⟨g, 0, rfl, by rw [Nat.zero_add]; exact h.cell (svl_get hk)⟩

theorem retZ {k : IntKind} {a b : Int} (h : a = b) : Ending.returned (.int k a) = .returned (.int k b) := by rw [h]
theorem retY {a b : Bool} (h : a = b) : Ending.returned (.bool a) = .returned (.bool b) := by rw [h]
/- Texts are compared byte by byte. -/
theorem txt_eq (x : ByteArray) : (x.toList == x.toList) = true := by simp
theorem txt_ne {x y : ByteArray} (h : ¬ x = y) : (x.toList == y.toList) = false := by
  refine beq_eq_false_iff_ne.2 fun e => h ?_
  rw [ByteArray.toList_eq, ByteArray.toList_eq] at e
  exact ByteArray.ext (Array.ext' e)
/- The room that texts take. -/
def roomS : List ByteArray → Int → Int
  | [], q => q
  | x :: l, q => if q - x.size < 0 then -1 else roomS l (q - x.size)
def roomL (l : List ByteArray) : Int := if 1048576 - (l.length : Int) < 0 then -1 else roomS l (1048576 - (l.length : Int))
theorem roomS_le : ∀ (l : List ByteArray) (q : Int), 0 ≤ roomS l q → ∀ x ∈ l, (x.size : Int) ≤ q
  | [], q, _, x, hx => by simp at hx
  | y :: l, q, h, x, hx => by
    rw [roomS] at h
    by_cases hy : q - y.size < 0
    · rw [if_pos hy] at h; omega
    · rw [if_neg hy] at h
      rcases List.mem_cons.1 hx with rfl | hx
      · omega
      · have := roomS_le l _ h x hx
        omega
theorem roomL_bd {l : List ByteArray} (h : 0 ≤ roomL l) : l.length ≤ 1048576 ∧ ∀ x ∈ l, x.size ≤ 1048576 := by
  unfold roomL at h
  by_cases hl : 1048576 - (l.length : Int) < 0
  · rw [if_pos hl] at h; omega
  · rw [if_neg hl] at h
    refine ⟨by omega, fun x hx => ?_⟩
    have := roomS_le l _ h x hx
    omega
theorem Try.infoStr : (Try.prog.info? 9).map (fun i => (i.zero, i.size, i.bytes)) = some (some (.string ⟨#[]⟩), 1, 16) := by kernel_rfl
/- Parts of a slice of texts. -/
theorem Try.sliceLo (b o n c k : Nat) (h : k ≤ c) : ∀ w, (Instr.slice 160 (.slice (some ⟨b, o, none⟩) n c) none (some (.int .i64 (k : Int))) none).run Try.prog w = .ok (.slice (some ⟨b, o, none⟩) k c) w := by
  intro w
  have h1 : (k : Int) ≤ c := by omega
  simp [Instr.slice, run_underlying Try.underlying160, Instr.sliceBounds, run_sliceBound, h1]
  intro _
  exact Addr.add_zero' _
theorem Try.sliceHi (b o n c k : Nat) (h : k ≤ n) (hk : k < c) : ∀ w, (Instr.slice 160 (.slice (some ⟨b, o, none⟩) n c) (some (.int .i64 (k : Int))) none none).run Try.prog w = .ok (.slice (some ⟨b, o + k, none⟩) (n - k) (c - k)) w := by
  intro w
  have h1 : (k : Int) ≤ n := by omega
  simp [Instr.slice, run_underlying Try.underlying160, Instr.sliceBounds, run_sliceBound, h1, show ¬ c = k by omega, Addr.add_lit]
theorem Try.sliceLoM (b o n c k : Nat) (h : k ≤ c) : ∀ w, (Instr.slice 160 (.slice (some ⟨b, o, none⟩) n c) none (some (.int .i64 (k : Int))) (some (.int .i64 (k : Int)))).run Try.prog w = .ok (.slice (some ⟨b, o, none⟩) k k) w := by
  intro w
  have h1 : (k : Int) ≤ c := by omega
  simp [Instr.slice, run_underlying Try.underlying160, Instr.sliceBounds, run_sliceBound, h1]
  intro _
  exact Addr.add_zero' _
theorem made_zeroS (n : Nat) : (madeCells #[Value.string ⟨#[]⟩] n).toList = svl (List.replicate n ⟨#[]⟩) := by
  apply List.ext_getElem
  · simp [madeCells, svl]
  · intro i h1 h2
    simp [madeCells, Nat.mod_one, svl]
theorem RowV.made {w : World} {base e g n : Nat} {xs : List Value} (h : w.ownsRow base e 1 (.slice (some ⟨g, 0, none⟩) n n) n xs) : RowV w g xs := by
  rcases h.2 with ⟨h1, _⟩ | ⟨g', cap, cur, hv, hbg, hg, hnc, hcm, hcs, htake⟩
  · simp at h1
  · simp at hv
    obtain ⟨rfl, rfl⟩ := hv
    have : cur.toList = xs := by rw [← htake, List.take_of_length_le (by simp [hcs])]
    refine RowV.of_block (t := e) ?_
    rw [hg, ← this]
theorem copy_setS (l : List ByteArray) {k : Nat} (hk : k < l.length) : l.take (k + 1) ++ List.replicate (l.length - (k + 1)) (⟨#[]⟩ : ByteArray) = (l.take k ++ List.replicate (l.length - k) (⟨#[]⟩ : ByteArray)).set k l[k] := by
  rw [List.set_append_right _ _ (by rw [List.length_take]; omega), List.length_take, Nat.min_eq_left (by omega), Nat.sub_self]
  obtain ⟨d, hd⟩ : ∃ d, l.length - k = d + 1 := ⟨l.length - k - 1, by omega⟩
  rw [hd, show l.length - (k + 1) = d by omega, List.replicate_succ, List.set_cons_zero, List.take_succ_eq_append_getElem hk, List.append_assoc]
  rfl
theorem RowV.setS {w : World} {g k : Nat} {l l' : List ByteArray} {x : ByteArray} (h : RowV w g (svl l)) (hk : k < l.length) (hl : l' = l.set k x) : RowV (w.setCell ⟨g, k, none⟩ (.string x)) g (svl l') := by
  subst hl
  rw [← svl_set]
  have hk' : k < (svl l).length := by rw [svl_length]; exact hk
  generalize svl l = L at *
  obtain ⟨u, hu⟩ : ∃ u, w.cell? ⟨g, k, none⟩ = Option.some u := ⟨L[k], h.cell (List.getElem?_eq_getElem hk')⟩
  refine ⟨fun j y hy => ?_, fun j hj => ⟨?_, ?_⟩⟩
  · rw [Nat.zero_add]
    by_cases hjk : j = k
    · subst hjk
      rw [World.cell?_setCell_same w _ _ hu]
      simpa [hk'] using hy
    · rw [World.cell?_setCell_other w _ _ _ (by intro e; injection e with _ e _; exact hjk e.symm)]
      exact h.cell (by rw [← hy, List.getElem?_set_ne (fun e => hjk e.symm)])
  · rw [Nat.zero_add]
    by_cases hjk : j = k
    · subst hjk
      rw [World.cell?_setCell_same w _ _ hu]; rfl
    · rw [World.cell?_setCell_other w _ _ _ (by intro e; injection e with _ e _; exact hjk e.symm)]
      have := (h.ths j (by simpa using hj)).1
      rw [Nat.zero_add] at this
      exact this
  · rw [World.frozen?_setCell]
    exact (h.ths j (by simpa using hj)).2
end Go.Proofs.Ytaalegjhhpfhbaa
