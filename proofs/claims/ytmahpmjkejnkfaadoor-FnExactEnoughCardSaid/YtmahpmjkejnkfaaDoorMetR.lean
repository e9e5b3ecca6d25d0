/- Roots, on the specification's side: their roles lie in a row of two cells each. -/
import Derived.Test.YtmahpmjkejnkfaaDoorMet
namespace Go.Proofs.YtmahpmjkejnkfaaDoor
open Go.RowKit
set_option linter.unusedVariables false

structure RoleV where
  need : Int
  ka : Option Addr
  kc : Nat
  ks : List Int
def RoleV.val (r : RoleV) : Value := .agg #[.int .i64 r.need, .slice r.ka r.ks.length r.kc]
def RlsAt (w : World) (a : Option Addr) (rs : List RoleV) : Prop := ∀ i (h : i < rs.length), ∃ b o, a = some ⟨b, o, none⟩ ∧ w.cell? ⟨b, o + i * 2, none⟩ = some (.int .i64 rs[i].need) ∧ w.cell? ⟨b, o + i * 2 + 1, none⟩ = some (.slice rs[i].ka rs[i].ks.length rs[i].kc) ∧ AI w rs[i].ka rs[i].ks
theorem RlsAt.below {w w' : World} {a : Option Addr} {rs : List RoleV} (h : RlsAt w a rs) (hb : Below w.heap.size w w') : RlsAt w' a rs := fun i hi => by
  obtain ⟨b, o, h1, h2, h3, h4⟩ := h i hi
  exact ⟨b, o, h1, (hb.cell (p := ⟨b, o + i * 2, none⟩) (cellLt h2)).trans h2, (hb.cell (p := ⟨b, o + i * 2 + 1, none⟩) (cellLt h3)).trans h3, h4.below hb⟩
/- A role that an int64 and a slice can be. -/
def RoleW (r : RoleV) : Prop := I64 r.need ∧ r.ks.length ≤ maxLen ∧ ∀ x ∈ r.ks, I64 x
def rolesB (rs : List RoleV) : Bool := rs.all (fun r => roleB r.need r.ks)
def rootB (v e : Int) (rs : List RoleV) : Bool := verB v && (timB e && (decide (rs.length = 5) && rolesB rs))
theorem rolesB_yes {rs : List RoleV} (h : ∀ k (hk : k < rs.length), roleB rs[k].need rs[k].ks = true) : rolesB rs = true := by
  unfold rolesB
  rw [List.all_eq_true]
  intro x hx
  obtain ⟨k, hk, rfl⟩ := List.mem_iff_getElem.1 hx
  exact h k hk
theorem rolesB_no {rs : List RoleV} {k : Nat} (hk : k < rs.length) (h : roleB rs[k].need rs[k].ks = false) : rolesB rs = false := by
  cases ho : rolesB rs with
  | false => rfl
  | true =>
    unfold rolesB at ho
    rw [List.all_eq_true] at ho
    have := ho _ (List.getElem_mem hk)
    rw [h] at this
    cases this
def rtv (v e : Int) (a : Option Addr) (n c : Nat) : List Value := [.int .i64 v, .int .i64 e, .slice a n c]
theorem RowV.rt3 {w : World} {g : Nat} {v e : Int} {a : Option Addr} {n c : Nat} (h : RowV w g (rtv v e a n c)) : w.cell? ⟨g, 0, none⟩ = some (.int .i64 v) ∧ w.cell? ⟨g, 1, none⟩ = some (.int .i64 e) ∧ w.cell? ⟨g, 2, none⟩ = some (.slice a n c) := ⟨h.cell (k := 0) rfl, h.cell (k := 1) rfl, h.cell (k := 2) rfl⟩
theorem rtv_ne (v e : Int) (a : Option Addr) (n c : Nat) : rtv v e a n c ≠ [] := by simp [rtv]
structure KpRt (w : World) (g : Nat) (v e : Int) (a : Option Addr) (n c : Nat) (rs : List RoleV) (w' : World) : Prop where
  below : Below w.heap.size w w'
  row : RowV w' g (rtv v e a n c)
  rl : RlsAt w' a rs
theorem KpRt.call {w w' w2 : World} {g : Nat} {v e : Int} {a : Option Addr} {n c : Nat} {rs : List RoleV} (h : Hid (KpRt w g v e a n c rs w')) (hb : Below w'.heap.size w' w2) : Hid (KpRt w g v e a n c rs w2) :=
  ⟨h.out.below.trans (hb.mono h.out.below.size), h.out.row.below hb (h.out.row.lt (rtv_ne _ _ _ _ _)), h.out.rl.below hb⟩
end Go.Proofs.YtmahpmjkejnkfaaDoor
