/- What the rows' listed variables give the walks: eight refusals, each of errors.New's make, no two at one place. -/
import Derived.Test.YtdfglpbappeoaabDoorErC
import Derived.Stop.LaidErr
import Derived.MakeChecks
import Derived.Carry
import Derived.OpenVars
import Derived.Lay
namespace Go.Proofs.YtdfglpbappeoaabDoor
open Go.RowKit
set_option linter.unusedVariables false

abbrev laidL : List (String × DataW Unit) := Rows.fnExactFreshRow.laid
theorem laidOut : laidOutB Tryd.prog = true := by kernel_rfl
theorem rowed : varsRowed Tryd.prog Rows.fnExactFreshSpec.vars = true := by kernel_rfl
theorem Tryd.star : "*" ++ "errors.errorString" = "*errors.errorString" := by decide
theorem Tryd.rowES (u : TypeId) (h : Tryd.prog.typeName? 3 u = some "*errors.errorString") : u = 200 :=
  typeName_ptr_named (nm := "errors.errorString") (by rw [Tryd.star]; kernel_rfl) (by kernel_rfl) (by decide) u (by rw [Tryd.star]; exact h)
theorem Tryd.cellsES : Tryd.prog.cellsOf 224 = 1 := by kernel_rfl
theorem Tryd.cellsStr : Tryd.prog.cellsOf 9 = 1 := by kernel_rfl
theorem Tryd.gE0 : Tryd.prog.globalNamed "loop.example/g00279/impl.errSize" = some 0 := by kernel_rfl
theorem Tryd.tE0 : (Tryd.prog.globals[(0 : Nat)]?).map (·.type) = some 110 := by kernel_rfl
theorem Tryd.gE1 : Tryd.prog.globalNamed "loop.example/g00279/impl.errSyntax" = some 1 := by kernel_rfl
theorem Tryd.tE1 : (Tryd.prog.globals[(1 : Nat)]?).map (·.type) = some 110 := by kernel_rfl
theorem Tryd.gE2 : Tryd.prog.globalNamed "loop.example/g00279/impl.errSign" = some 2 := by kernel_rfl
theorem Tryd.tE2 : (Tryd.prog.globals[(2 : Nat)]?).map (·.type) = some 110 := by kernel_rfl
theorem Tryd.gE3 : Tryd.prog.globalNamed "loop.example/g00279/impl.errVersion" = some 3 := by kernel_rfl
theorem Tryd.tE3 : (Tryd.prog.globals[(3 : Nat)]?).map (·.type) = some 110 := by kernel_rfl
theorem Tryd.gE4 : Tryd.prog.globalNamed "loop.example/g00279/impl.errExpired" = some 4 := by kernel_rfl
theorem Tryd.tE4 : (Tryd.prog.globals[(4 : Nat)]?).map (·.type) = some 110 := by kernel_rfl
theorem Tryd.gE5 : Tryd.prog.globalNamed "loop.example/g00279/impl.errNone" = some 5 := by kernel_rfl
theorem Tryd.tE5 : (Tryd.prog.globals[(5 : Nat)]?).map (·.type) = some 110 := by kernel_rfl
theorem Tryd.gE6 : Tryd.prog.globalNamed "loop.example/g00279/impl.errProof" = some 6 := by kernel_rfl
theorem Tryd.tE6 : (Tryd.prog.globals[(6 : Nat)]?).map (·.type) = some 110 := by kernel_rfl
theorem Tryd.gE7 : Tryd.prog.globalNamed "loop.example/g00279/impl.errFork" = some 7 := by kernel_rfl
theorem Tryd.tE7 : (Tryd.prog.globals[(7 : Nat)]?).map (·.type) = some 110 := by kernel_rfl
set_option maxRecDepth 100000 in
theorem errs_of_laid {W : World} (h0 : laidMetH Tryd.prog laidL W) : ∃ E : ErV, Ers E W ∧ ErD E := by
  rw [MakeChecks.laidMetH_plain _ _ _ (by kernel_rfl)] at h0
  obtain ⟨ps, H0, hnd, hrows⟩ := h0
  obtain ⟨g0, t0, cs0, f0, p0, q0, hg0, ht0, hv0, hd0, H1, e0⟩ := H0
  obtain ⟨g1, t1, cs1, f1, p1, q1, hg1, ht1, hv1, hd1, H2, e1⟩ := H1
  obtain ⟨g2, t2, cs2, f2, p2, q2, hg2, ht2, hv2, hd2, H3, e2⟩ := H2
  obtain ⟨g3, t3, cs3, f3, p3, q3, hg3, ht3, hv3, hd3, H4, e3⟩ := H3
  obtain ⟨g4, t4, cs4, f4, p4, q4, hg4, ht4, hv4, hd4, H5, e4⟩ := H4
  obtain ⟨g5, t5, cs5, f5, p5, q5, hg5, ht5, hv5, hd5, H6, e5⟩ := H5
  obtain ⟨g6, t6, cs6, f6, p6, q6, hg6, ht6, hv6, hd6, H7, e6⟩ := H6
  obtain ⟨g7, t7, cs7, f7, p7, q7, hg7, ht7, hv7, hd7, H8, e7⟩ := H7
  obtain rfl := Option.some.inj (Tryd.gE0.symm.trans hg0)
  obtain rfl := Option.some.inj (Tryd.tE0.symm.trans ht0)
  obtain rfl := Option.some.inj (Tryd.gE1.symm.trans hg1)
  obtain rfl := Option.some.inj (Tryd.tE1.symm.trans ht1)
  obtain rfl := Option.some.inj (Tryd.gE2.symm.trans hg2)
  obtain rfl := Option.some.inj (Tryd.tE2.symm.trans ht2)
  obtain rfl := Option.some.inj (Tryd.gE3.symm.trans hg3)
  obtain rfl := Option.some.inj (Tryd.tE3.symm.trans ht3)
  obtain rfl := Option.some.inj (Tryd.gE4.symm.trans hg4)
  obtain rfl := Option.some.inj (Tryd.tE4.symm.trans ht4)
  obtain rfl := Option.some.inj (Tryd.gE5.symm.trans hg5)
  obtain rfl := Option.some.inj (Tryd.tE5.symm.trans ht5)
  obtain rfl := Option.some.inj (Tryd.gE6.symm.trans hg6)
  obtain rfl := Option.some.inj (Tryd.tE6.symm.trans ht6)
  obtain rfl := Option.some.inj (Tryd.gE7.symm.trans hg7)
  obtain rfl := Option.some.inj (Tryd.tE7.symm.trans ht7)
  subst e7
  subst e6
  subst e5
  subst e4
  subst e3
  subst e2
  subst e1
  subst e0
  obtain ⟨l0⟩ := cs0
  obtain ⟨l1⟩ := cs1
  obtain ⟨l2⟩ := cs2
  obtain ⟨l3⟩ := cs3
  obtain ⟨l4⟩ := cs4
  obtain ⟨l5⟩ := cs5
  obtain ⟨l6⟩ := cs6
  obtain ⟨l7⟩ := cs7
  have ok0 : ∀ u v, l0 = [.iface u v] → Value.okWide Tryd.prog W .any 0 u v := fun u v e => by
    subst e
    exact (hrows 0 0 (by simp [MemPlace.row])).2 u v (by simpa using World.var?_cell hg0 hv0 0)
  have ok1 : ∀ u v, l1 = [.iface u v] → Value.okWide Tryd.prog W .any 0 u v := fun u v e => by
    subst e
    exact (hrows 1 0 (by simp [MemPlace.row])).2 u v (by simpa using World.var?_cell hg1 hv1 0)
  have ok2 : ∀ u v, l2 = [.iface u v] → Value.okWide Tryd.prog W .any 0 u v := fun u v e => by
    subst e
    exact (hrows 2 0 (by simp [MemPlace.row])).2 u v (by simpa using World.var?_cell hg2 hv2 0)
  have ok3 : ∀ u v, l3 = [.iface u v] → Value.okWide Tryd.prog W .any 0 u v := fun u v e => by
    subst e
    exact (hrows 3 0 (by simp [MemPlace.row])).2 u v (by simpa using World.var?_cell hg3 hv3 0)
  have ok4 : ∀ u v, l4 = [.iface u v] → Value.okWide Tryd.prog W .any 0 u v := fun u v e => by
    subst e
    exact (hrows 4 0 (by simp [MemPlace.row])).2 u v (by simpa using World.var?_cell hg4 hv4 0)
  have ok5 : ∀ u v, l5 = [.iface u v] → Value.okWide Tryd.prog W .any 0 u v := fun u v e => by
    subst e
    exact (hrows 5 0 (by simp [MemPlace.row])).2 u v (by simpa using World.var?_cell hg5 hv5 0)
  have ok6 : ∀ u v, l6 = [.iface u v] → Value.okWide Tryd.prog W .any 0 u v := fun u v e => by
    subst e
    exact (hrows 6 0 (by simp [MemPlace.row])).2 u v (by simpa using World.var?_cell hg6 hv6 0)
  have ok7 : ∀ u v, l7 = [.iface u v] → Value.okWide Tryd.prog W .any 0 u v := fun u v e => by
    subst e
    exact (hrows 7 0 (by simp [MemPlace.row])).2 u v (by simpa using World.var?_cell hg7 hv7 0)
  obtain ⟨a0, s0, rfl, hc0, hs0, hz0, rfl⟩ := errorString_of_trod Tryd.underlying110 Tryd.rowES Tryd.underlying200 Tryd.underlying224 rfl rfl Tryd.underlying9 Tryd.cellsES Tryd.cellsStr hd0 ok0
  obtain ⟨a1, s1, rfl, hc1, hs1, hz1, rfl⟩ := errorString_of_trod Tryd.underlying110 Tryd.rowES Tryd.underlying200 Tryd.underlying224 rfl rfl Tryd.underlying9 Tryd.cellsES Tryd.cellsStr hd1 ok1
  obtain ⟨a2, s2, rfl, hc2, hs2, hz2, rfl⟩ := errorString_of_trod Tryd.underlying110 Tryd.rowES Tryd.underlying200 Tryd.underlying224 rfl rfl Tryd.underlying9 Tryd.cellsES Tryd.cellsStr hd2 ok2
  obtain ⟨a3, s3, rfl, hc3, hs3, hz3, rfl⟩ := errorString_of_trod Tryd.underlying110 Tryd.rowES Tryd.underlying200 Tryd.underlying224 rfl rfl Tryd.underlying9 Tryd.cellsES Tryd.cellsStr hd3 ok3
  obtain ⟨a4, s4, rfl, hc4, hs4, hz4, rfl⟩ := errorString_of_trod Tryd.underlying110 Tryd.rowES Tryd.underlying200 Tryd.underlying224 rfl rfl Tryd.underlying9 Tryd.cellsES Tryd.cellsStr hd4 ok4
  obtain ⟨a5, s5, rfl, hc5, hs5, hz5, rfl⟩ := errorString_of_trod Tryd.underlying110 Tryd.rowES Tryd.underlying200 Tryd.underlying224 rfl rfl Tryd.underlying9 Tryd.cellsES Tryd.cellsStr hd5 ok5
  obtain ⟨a6, s6, rfl, hc6, hs6, hz6, rfl⟩ := errorString_of_trod Tryd.underlying110 Tryd.rowES Tryd.underlying200 Tryd.underlying224 rfl rfl Tryd.underlying9 Tryd.cellsES Tryd.cellsStr hd6 ok6
  obtain ⟨a7, s7, rfl, hc7, hs7, hz7, rfl⟩ := errorString_of_trod Tryd.underlying110 Tryd.rowES Tryd.underlying200 Tryd.underlying224 rfl rfl Tryd.underlying9 Tryd.cellsES Tryd.cellsStr hd7 ok7
  obtain ⟨c0, k0, hb0⟩ := (hrows a0.block a0.off (by simp [MemPlace.row])).1
  obtain ⟨c1, k1, hb1⟩ := (hrows a1.block a1.off (by simp [MemPlace.row])).1
  obtain ⟨c2, k2, hb2⟩ := (hrows a2.block a2.off (by simp [MemPlace.row])).1
  obtain ⟨c3, k3, hb3⟩ := (hrows a3.block a3.off (by simp [MemPlace.row])).1
  obtain ⟨c4, k4, hb4⟩ := (hrows a4.block a4.off (by simp [MemPlace.row])).1
  obtain ⟨c5, k5, hb5⟩ := (hrows a5.block a5.off (by simp [MemPlace.row])).1
  obtain ⟨c6, k6, hb6⟩ := (hrows a6.block a6.off (by simp [MemPlace.row])).1
  obtain ⟨c7, k7, hb7⟩ := (hrows a7.block a7.off (by simp [MemPlace.row])).1
  have x0 : ErrAt W 0 a0 := ⟨by simpa using World.var?_cell hg0 hv0 0, c0, k0, hb0⟩
  have x1 : ErrAt W 1 a1 := ⟨by simpa using World.var?_cell hg1 hv1 0, c1, k1, hb1⟩
  have x2 : ErrAt W 2 a2 := ⟨by simpa using World.var?_cell hg2 hv2 0, c2, k2, hb2⟩
  have x3 : ErrAt W 3 a3 := ⟨by simpa using World.var?_cell hg3 hv3 0, c3, k3, hb3⟩
  have x4 : ErrAt W 4 a4 := ⟨by simpa using World.var?_cell hg4 hv4 0, c4, k4, hb4⟩
  have x5 : ErrAt W 5 a5 := ⟨by simpa using World.var?_cell hg5 hv5 0, c5, k5, hb5⟩
  have x6 : ErrAt W 6 a6 := ⟨by simpa using World.var?_cell hg6 hv6 0, c6, k6, hb6⟩
  have x7 : ErrAt W 7 a7 := ⟨by simpa using World.var?_cell hg7 hv7 0, c7, k7, hb7⟩
  have n10 : a1 ≠ a0 := by
    rintro rfl
    simp [MemPlace.row] at hnd
  have n20 : a2 ≠ a0 := by
    rintro rfl
    simp [MemPlace.row] at hnd
  have n21 : a2 ≠ a1 := by
    rintro rfl
    simp [MemPlace.row] at hnd
  have n30 : a3 ≠ a0 := by
    rintro rfl
    simp [MemPlace.row] at hnd
  have n31 : a3 ≠ a1 := by
    rintro rfl
    simp [MemPlace.row] at hnd
  have n32 : a3 ≠ a2 := by
    rintro rfl
    simp [MemPlace.row] at hnd
  have n40 : a4 ≠ a0 := by
    rintro rfl
    simp [MemPlace.row] at hnd
  have n41 : a4 ≠ a1 := by
    rintro rfl
    simp [MemPlace.row] at hnd
  have n42 : a4 ≠ a2 := by
    rintro rfl
    simp [MemPlace.row] at hnd
  have n43 : a4 ≠ a3 := by
    rintro rfl
    simp [MemPlace.row] at hnd
  have n50 : a5 ≠ a0 := by
    rintro rfl
    simp [MemPlace.row] at hnd
  have n51 : a5 ≠ a1 := by
    rintro rfl
    simp [MemPlace.row] at hnd
  have n52 : a5 ≠ a2 := by
    rintro rfl
    simp [MemPlace.row] at hnd
  have n53 : a5 ≠ a3 := by
    rintro rfl
    simp [MemPlace.row] at hnd
  have n54 : a5 ≠ a4 := by
    rintro rfl
    simp [MemPlace.row] at hnd
  have n60 : a6 ≠ a0 := by
    rintro rfl
    simp [MemPlace.row] at hnd
  have n61 : a6 ≠ a1 := by
    rintro rfl
    simp [MemPlace.row] at hnd
  have n62 : a6 ≠ a2 := by
    rintro rfl
    simp [MemPlace.row] at hnd
  have n63 : a6 ≠ a3 := by
    rintro rfl
    simp [MemPlace.row] at hnd
  have n64 : a6 ≠ a4 := by
    rintro rfl
    simp [MemPlace.row] at hnd
  have n65 : a6 ≠ a5 := by
    rintro rfl
    simp [MemPlace.row] at hnd
  have n70 : a7 ≠ a0 := by
    rintro rfl
    simp [MemPlace.row] at hnd
  have n71 : a7 ≠ a1 := by
    rintro rfl
    simp [MemPlace.row] at hnd
  have n72 : a7 ≠ a2 := by
    rintro rfl
    simp [MemPlace.row] at hnd
  have n73 : a7 ≠ a3 := by
    rintro rfl
    simp [MemPlace.row] at hnd
  have n74 : a7 ≠ a4 := by
    rintro rfl
    simp [MemPlace.row] at hnd
  have n75 : a7 ≠ a5 := by
    rintro rfl
    simp [MemPlace.row] at hnd
  have n76 : a7 ≠ a6 := by
    rintro rfl
    simp [MemPlace.row] at hnd
  exact ⟨⟨a0, a1, a2, a3, a4, a5, a6, a7⟩, ⟨x0, x1, x2, x3, x4, x5, x6, x7⟩, ⟨⟨n30, n40, n50⟩, ⟨n31, n41, n51⟩, ⟨n32, n42, n52⟩, ⟨n43, n53⟩, n54, n10, ⟨n20, n21⟩, ⟨n60, n61, n62, n63, n64, n65⟩, ⟨n70, n71, n72, n73, n74, n75, n76⟩⟩⟩
theorem vars_len {H : Type} {enc : TypeId × Value → H} {P : Program} {w : World} {sp : Nat → Bool} : ∀ {ns : List String} {gs : List (DataW H)} {ps : List MemPlace}, DataW.TrodVars enc P w sp ns gs ps → gs.length = ns.length
  | [], gs, ps, h => by
    obtain ⟨rfl, _⟩ := ChangeShapes.trodVars_none h
    rfl
  | n :: ns, [], ps, h => by simp [DataW.TrodVars] at h
  | n :: ns, d :: ds, ps, h => by
    obtain ⟨g, t, cs, fuel, p, q, _, _, _, _, hq, _⟩ := h
    rw [List.length_cons, List.length_cons, vars_len hq]
theorem eight_of {α : Type} {l : List α} (h : l.length = 8) : ∃ a b c d e f g i, l = [a, b, c, d, e, f, g, i] := by
  match l, h with
  | [a, b, c, d, e, f, g, i], _ => exact ⟨a, b, c, d, e, f, g, i, rfl⟩
end Go.Proofs.YtdfglpbappeoaabDoor
