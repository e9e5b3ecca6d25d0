/- What the variables of the refusals hold; refusalCode: the code of each. -/
import Derived.Test.YtdfglpbappeoaabDoorErI
import Derived.Test.YtdfglpbappeoaabDoorIntRow
import Derived.Below
namespace Go.Proofs.YtdfglpbappeoaabDoor
open Go.RowKit
set_option linter.unusedVariables false

/- Where the eight refusals lie. -/
structure ErV where
  sz : Addr
  sy : Addr
  sg : Addr
  ve : Addr
  ex : Addr
  no : Addr
  pr : Addr
  fk : Addr
def ErrAt (w : World) (g : Nat) (a : Addr) : Prop := w.cell? ⟨g, 0, none⟩ = some (.iface 200 (.pointer (some a))) ∧ ∃ c t, w.heap[a.block]? = some (.cells c t (0, 0))
structure Ers (E : ErV) (w : World) : Prop where
  sz : ErrAt w 0 E.sz
  sy : ErrAt w 1 E.sy
  sg : ErrAt w 2 E.sg
  ve : ErrAt w 3 E.ve
  ex : ErrAt w 4 E.ex
  no : ErrAt w 5 E.no
  pr : ErrAt w 6 E.pr
  fk : ErrAt w 7 E.fk
structure ErD (E : ErV) : Prop where
  sz : E.ve ≠ E.sz ∧ E.ex ≠ E.sz ∧ E.no ≠ E.sz
  sy : E.ve ≠ E.sy ∧ E.ex ≠ E.sy ∧ E.no ≠ E.sy
  sg : E.ve ≠ E.sg ∧ E.ex ≠ E.sg ∧ E.no ≠ E.sg
  ve : E.ex ≠ E.ve ∧ E.no ≠ E.ve
  ex : E.no ≠ E.ex
  sy2 : E.sy ≠ E.sz
  sg2 : E.sg ≠ E.sz ∧ E.sg ≠ E.sy
  pr : E.pr ≠ E.sz ∧ E.pr ≠ E.sy ∧ E.pr ≠ E.sg ∧ E.pr ≠ E.ve ∧ E.pr ≠ E.ex ∧ E.pr ≠ E.no
  fk : E.fk ≠ E.sz ∧ E.fk ≠ E.sy ∧ E.fk ≠ E.sg ∧ E.fk ≠ E.ve ∧ E.fk ≠ E.ex ∧ E.fk ≠ E.no ∧ E.fk ≠ E.pr
theorem block_lt {w : World} {b : Nat} {o : Obj} (h : w.heap[b]? = some o) : b < w.heap.size := by
  rcases Nat.lt_or_ge b w.heap.size with h1 | h1
  · exact h1
  · simp [Array.getElem?_eq_none h1] at h
theorem errCell_lt {w : World} {x : Addr} {v : Value} (h : w.cell? x = some v) : x.block < w.heap.size := by
  refine Nat.lt_of_not_le fun hle => ?_
  simp [World.cell?, Array.getElem?_eq_none hle] at h
theorem ErrAt.below {w w' : World} {g : Nat} {a : Addr} (h : ErrAt w g a) (hb : Below w.heap.size w w') : ErrAt w' g a := by
  obtain ⟨h1, c, t, h2⟩ := h
  exact ⟨(hb.cell (p := ⟨g, 0, none⟩) (errCell_lt h1)).trans h1, c, t, (hb.block _ (block_lt h2)).trans h2⟩
theorem Ers.below {E : ErV} {w w' : World} (h : Ers E w) (hb : Below w.heap.size w w') : Ers E w' := ⟨h.sz.below hb, h.sy.below hb, h.sg.below hb, h.ve.below hb, h.ex.below hb, h.no.below hb, h.pr.below hb, h.fk.below hb⟩
theorem Ers.drew {E : ErV} {w : World} (h : Ers E w) : Ers E w.drew := ⟨h.sz, h.sy, h.sg, h.ve, h.ex, h.no, h.pr, h.fk⟩
theorem Ers.drewN {E : ErV} {w : World} (h : Ers E w) (n : Nat) : Ers E (w.drewN n) := ⟨h.sz, h.sy, h.sg, h.ve, h.ex, h.no, h.pr, h.fk⟩
def errP (a : Addr) : Value := .iface 200 (.pointer (some a))
theorem is_not {E : ErV} {w : World} {g1 g2 : Nat} {a b : Addr} (h1 : ErrAt w g1 a) (h2 : ErrAt w g2 b) (hne : a ≠ b) : Calls Tryd.prog 116 #[.iface 200 (.pointer (some a)), .iface 200 (.pointer (some b))] w fun e w' => e = .returned (.bool false) ∧ w' = w := by
  obtain ⟨_, ca, ta, ha⟩ := h1
  obtain ⟨_, cb, tb, hb⟩ := h2
  exact is_other a b ca cb ta tb w hne ha hb
set_option maxRecDepth 100000 in
set_option maxHeartbeats 2000000 in
theorem refNil (w : World) : Calls Tryd.prog 77 #[.nilIface] w fun e w' => e = .returned (.int .i64 0) ∧ w = w' := by
  go_enter Tryd.func77, Tryd.ntmps77
  go_wp2
  go_ret
  exact ⟨rfl, rfl⟩
set_option maxRecDepth 100000 in
set_option maxHeartbeats 2000000 in
theorem refVer (E : ErV) (w : World) (h : Ers E w) (hd : ErD E) : Calls Tryd.prog 77 #[.iface 200 (.pointer (some E.ve))] w fun e w' => e = .returned (.int .i64 7) ∧ w = w' := by
  have i1 := is_not (E := E) h.ve h.sz hd.sz.1
  have i2 := is_not (E := E) h.ve h.sy hd.sy.1
  have i3 := is_not (E := E) h.ve h.sg hd.sg.1
  have i4 := is_same E.ve w
  have c1 := h.sz.1
  have c2 := h.sy.1
  have c3 := h.sg.1
  have c4 := h.ve.1
  clear h hd
  generalize E.sz = a1 at *
  generalize E.sy = a2 at *
  generalize E.sg = a3 at *
  generalize E.ve = a4 at *
  go_enter Tryd.func77, Tryd.ntmps77
  go_wp2_with (first
    | (go_at_call 116; with_reducible refine i1.mono ?_; rintro e w' ⟨rfl, rfl⟩)
    | (go_at_call 116; with_reducible refine i2.mono ?_; rintro e w' ⟨rfl, rfl⟩)
    | (go_at_call 116; with_reducible refine i3.mono ?_; rintro e w' ⟨rfl, rfl⟩)
    | (go_at_call 116; with_reducible refine i4.mono ?_; rintro e w' ⟨rfl, rfl⟩))
  go_ret
  exact ⟨rfl, rfl⟩
set_option maxRecDepth 100000 in
set_option maxHeartbeats 2000000 in
theorem refExp (E : ErV) (w : World) (h : Ers E w) (hd : ErD E) : Calls Tryd.prog 77 #[.iface 200 (.pointer (some E.ex))] w fun e w' => e = .returned (.int .i64 8) ∧ w = w' := by
  have i1 := is_not (E := E) h.ex h.sz hd.sz.2.1
  have i2 := is_not (E := E) h.ex h.sy hd.sy.2.1
  have i3 := is_not (E := E) h.ex h.sg hd.sg.2.1
  have i4 := is_not (E := E) h.ex h.ve hd.ve.1
  have i5 := is_same E.ex w
  have c1 := h.sz.1
  have c2 := h.sy.1
  have c3 := h.sg.1
  have c4 := h.ve.1
  have c5 := h.ex.1
  clear h hd
  generalize E.sz = a1 at *
  generalize E.sy = a2 at *
  generalize E.sg = a3 at *
  generalize E.ve = a4 at *
  generalize E.ex = a5 at *
  go_enter Tryd.func77, Tryd.ntmps77
  go_wp2_with (first
    | (go_at_call 116; with_reducible refine i1.mono ?_; rintro e w' ⟨rfl, rfl⟩)
    | (go_at_call 116; with_reducible refine i2.mono ?_; rintro e w' ⟨rfl, rfl⟩)
    | (go_at_call 116; with_reducible refine i3.mono ?_; rintro e w' ⟨rfl, rfl⟩)
    | (go_at_call 116; with_reducible refine i4.mono ?_; rintro e w' ⟨rfl, rfl⟩)
    | (go_at_call 116; with_reducible refine i5.mono ?_; rintro e w' ⟨rfl, rfl⟩))
  go_ret
  exact ⟨rfl, rfl⟩
set_option maxRecDepth 100000 in
set_option maxHeartbeats 2000000 in
theorem refNo (E : ErV) (w : World) (h : Ers E w) (hd : ErD E) : Calls Tryd.prog 77 #[.iface 200 (.pointer (some E.no))] w fun e w' => e = .returned (.int .i64 9) ∧ w = w' := by
  have i1 := is_not (E := E) h.no h.sz hd.sz.2.2
  have i2 := is_not (E := E) h.no h.sy hd.sy.2.2
  have i3 := is_not (E := E) h.no h.sg hd.sg.2.2
  have i4 := is_not (E := E) h.no h.ve hd.ve.2
  have i5 := is_not (E := E) h.no h.ex hd.ex
  have i6 := is_same E.no w
  have c1 := h.sz.1
  have c2 := h.sy.1
  have c3 := h.sg.1
  have c4 := h.ve.1
  have c5 := h.ex.1
  have c6 := h.no.1
  clear h hd
  generalize E.sz = a1 at *
  generalize E.sy = a2 at *
  generalize E.sg = a3 at *
  generalize E.ve = a4 at *
  generalize E.ex = a5 at *
  generalize E.no = a6 at *
  go_enter Tryd.func77, Tryd.ntmps77
  go_wp2_with (first
    | (go_at_call 116; with_reducible refine i1.mono ?_; rintro e w' ⟨rfl, rfl⟩)
    | (go_at_call 116; with_reducible refine i2.mono ?_; rintro e w' ⟨rfl, rfl⟩)
    | (go_at_call 116; with_reducible refine i3.mono ?_; rintro e w' ⟨rfl, rfl⟩)
    | (go_at_call 116; with_reducible refine i4.mono ?_; rintro e w' ⟨rfl, rfl⟩)
    | (go_at_call 116; with_reducible refine i5.mono ?_; rintro e w' ⟨rfl, rfl⟩)
    | (go_at_call 116; with_reducible refine i6.mono ?_; rintro e w' ⟨rfl, rfl⟩))
  go_ret
  exact ⟨rfl, rfl⟩
end Go.Proofs.YtdfglpbappeoaabDoor
