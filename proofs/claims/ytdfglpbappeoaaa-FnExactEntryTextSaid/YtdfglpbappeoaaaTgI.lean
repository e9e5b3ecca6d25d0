/- Are targets right? On the program's side. -/
import Derived.Test.YtdfglpbappeoaaaMetU
import Derived.Test.YtdfglpbappeoaaaPnI
namespace Go.Proofs.Ytdfglpbappeoaaa
open Go.RowKit
set_option linter.unusedVariables false

theorem implNameB (s : ByteArray) (w : World) (hs : s.size ≤ maxLen) : Calls Try.prog 79 #[.string s] w fun e w' => e = .returned (.bool (nameB s)) ∧ w = w' := by
  refine (implName s w hs).mono ?_
  rintro e w' ⟨⟨b, rfl, hb⟩, rfl⟩
  refine ⟨?_, rfl⟩
  have : b = nameB s := by
    cases b with
    | true => exact (nameB_yes (hb.1 rfl)).symm
    | false => exact (nameB_no (fun h => by have := hb.2 h; cases this)).symm
  rw [this]
theorem sizedI (t : ByteArray) (w : World) (hm : t.size ≤ maxLen) :
    Calls Try.prog 80 #[.string t] w fun e w' => e = .returned (.bool (decide (t.size = 32))) ∧ w = w' := by
  unfold maxLen at hm
  by_cases h : t.size = 32
  · rw [decide_eq_true h]
    have d1 : ((t.size : Int) == 32) = true := beq_iff_eq.2 (by omega)
    go_enter Try.func80, Try.ntmps80
    go_wp2
    go_ret
    exact ⟨rfl, rfl⟩
  · rw [decide_eq_false h]
    have d1 : ((t.size : Int) == 32) = false := beq_eq_false_iff_ne.2 (by omega)
    go_enter Try.func80, Try.ntmps80
    go_wp2
    go_ret
    exact ⟨rfl, rfl⟩
structure KpTy (w : World) (v e : Int) (a : Option Addr) (n c : Nat) (l : List TarV) (g : Nat) (xn xi : ByteArray) (xs : Int) (w' : World) : Prop where
  kp : KpTg w w.heap.size v e a n c l w'
  row : RowV w' g (tgv xn xi xs)
theorem tgv_ne (x y : ByteArray) (z : Int) : tgv x y z ≠ [] := by simp [tgv]
theorem KpTy.start {w w' : World} {v e : Int} {a : Option Addr} {n c : Nat} {l : List TarV} {g : Nat} {xn xi : ByteArray} {xs : Int} (h : Hid (KpTg w w.heap.size v e a n c l w')) (hr : RowV w' g (tgv xn xi xs)) : Hid (KpTy w v e a n c l g xn xi xs w') := ⟨h.out, hr⟩
theorem KpTy.call {w w' w2 : World} {v e : Int} {a : Option Addr} {n c : Nat} {l : List TarV} {g : Nat} {xn xi : ByteArray} {xs : Int} (h : Hid (KpTy w v e a n c l g xn xi xs w')) (hb : Below w'.heap.size w' w2) : Hid (KpTy w v e a n c l g xn xi xs w2) := ⟨(KpTg.call h.out.kp hb).out, h.out.row.below hb (h.out.row.lt (tgv_ne _ _ _))⟩
theorem KpTy.drew {w w' : World} {v e : Int} {a : Option Addr} {n c : Nat} {l : List TarV} {g : Nat} {xn xi : ByteArray} {xs : Int} (h : Hid (KpTy w v e a n c l g xn xi xs w')) : Hid (KpTy w v e a n c l g xn xi xs w'.drew) := ⟨(KpTg.drew h.out.kp).out, h.out.row.drew⟩
theorem KpTy.kpH {w w' : World} {v e : Int} {a : Option Addr} {n c : Nat} {l : List TarV} {g : Nat} {xn xi : ByteArray} {xs : Int} (h : Hid (KpTy w v e a n c l g xn xi xs w')) : Hid (KpTg w w.heap.size v e a n c l w') := h.out.kp
theorem KpTy.four {w w' : World} {v e : Int} {a : Option Addr} {n c : Nat} {l : List TarV} {g : Nat} {xn xi : ByteArray} {xs : Int} (h : Hid (KpTy w v e a n c l g xn xi xs w')) : w'.cell? ⟨g, 0, none⟩ = some (.string xn) ∧ w'.cell? ⟨g, 1, none⟩ = some (.string xi) ∧ w'.cell? ⟨g, 2, none⟩ = some (.int .i64 xs) ∧ w'.cell? ⟨w.heap.size, 2, none⟩ = some (.slice a n c) ∧ Hid (KpTy w v e a n c l g xn xi xs w') := ⟨h.out.row.tg.1, h.out.row.tg.2.1, h.out.row.tg.2.2, h.out.kp.row.rt3.2.2, h⟩
theorem KpTy.five {w w' : World} {v e : Int} {b o k1 : Nat} {n c : Nat} {l : List TarV} {g : Nat} {xn xi zn : ByteArray} {xs : Int} (hr : Hid (True → ∃ h : k1 < l.length, l[k1].nm = zn)) (h : Hid (KpTy w v e (some ⟨b, o, none⟩) n c l g xn xi xs w')) : w'.cell? ⟨g, 0, none⟩ = some (.string xn) ∧ w'.cell? ⟨g, 1, none⟩ = some (.string xi) ∧ w'.cell? ⟨g, 2, none⟩ = some (.int .i64 xs) ∧ w'.cell? ⟨w.heap.size, 2, none⟩ = some (.slice (some ⟨b, o, none⟩) n c) ∧ w'.cell? ⟨b, o + k1 * 3, none⟩ = some (.string zn) ∧ Hid (KpTy w v e (some ⟨b, o, none⟩) n c l g xn xi xs w') := by
  obtain ⟨hi, rfl⟩ := hr.out trivial
  obtain ⟨b', o', h1, h2, h3, h4⟩ := h.out.kp.tg k1 hi
  injection h1 with h1
  injection h1 with e1 e2
  subst e1 e2
  exact ⟨h.out.row.tg.1, h.out.row.tg.2.1, h.out.row.tg.2.2, h.out.kp.row.rt3.2.2, h2, h⟩
end Go.Proofs.Ytdfglpbappeoaaa
