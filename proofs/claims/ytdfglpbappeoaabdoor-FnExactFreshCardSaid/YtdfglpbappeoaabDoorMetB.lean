/- The bytes of a root, on the specification's side. -/
import Derived.Test.YtdfglpbappeoaabDoorMetR
import Derived.Test.YtdfglpbappeoaabDoorPutT
import Derived.Deep.RegionHeld3
namespace Go.Proofs.YtdfglpbappeoaabDoor
open Go.RowKit
set_option linter.unusedVariables false

def putKs (t : ByteArray) (ks : List Int) : ByteArray := ks.foldl (fun t k => t ++ putS k) t
def putRl (t : ByteArray) (r : RoleV) : ByteArray := putKs ((t ++ putS r.need) ++ putS (r.ks.length : Int)) r.ks
def putRls (t : ByteArray) (rs : List RoleV) : ByteArray := rs.foldl putRl t
def rootT (v e : Int) (rs : List RoleV) : ByteArray := putRls ((⟨#[82]⟩ ++ putS v) ++ putS e) rs
def rootBy (v e : Int) (rs : List RoleV) : ByteArray := if rootB v e rs then rootT v e rs else ⟨#[]⟩
theorem putKs_step {t : ByteArray} {ks : List Int} {j : Nat} (h : j < ks.length) : putKs t (ks.drop j) = putKs (t ++ putS ks[j]) (ks.drop (j + 1)) := by
  rw [List.drop_eq_getElem_cons h]; rfl
theorem putKs_end {t : ByteArray} {ks : List Int} : putKs t (ks.drop ks.length) = t := by rw [List.drop_of_length_le (Nat.le_refl _)]; rfl
theorem putRls_step {t : ByteArray} {rs : List RoleV} {i : Nat} (h : i < rs.length) : putRls t (rs.drop i) = putRls (putRl t rs[i]) (rs.drop (i + 1)) := by
  rw [List.drop_eq_getElem_cons h]; rfl
theorem putRls_end {t : ByteArray} {rs : List RoleV} : putRls t (rs.drop rs.length) = t := by rw [List.drop_of_length_le (Nat.le_refl _)]; rfl
theorem roleB_len {nd : Int} {ks : List Int} (h : roleB nd ks = true) : ks.length ≤ 8 := by
  unfold roleB at h
  rw [Bool.and_eq_true, decide_eq_true_eq] at h
  exact h.1.2.1
theorem rootB_of {v e : Int} {rs : List RoleV} (h : rootB v e rs = true) : rs.length = 5 ∧ ∀ k (hk : k < rs.length), roleB rs[k].need rs[k].ks = true := by
  unfold rootB at h
  rw [Bool.and_eq_true, Bool.and_eq_true, Bool.and_eq_true, decide_eq_true_eq] at h
  refine ⟨h.2.2.1, fun k hk => ?_⟩
  have := h.2.2.2
  unfold rolesB at this
  rw [List.all_eq_true] at this
  exact this _ (List.getElem_mem hk)
theorem i64_len {n : Nat} (h : n ≤ 9223372036854775807) : I64 (n : Int) := by
  unfold I64
  simp [Lit.wf, IntKind.min, IntKind.max, IntKind.signed, IntKind.bits]
  omega
theorem KpRt.drew {w w' : World} {g : Nat} {v e : Int} {a : Option Addr} {n c : Nat} {rs : List RoleV} (h : Hid (KpRt w g v e a n c rs w')) : Hid (KpRt w g v e a n c rs w'.drew) := ⟨h.out.below.drew, h.out.row.drew, h.out.rl⟩
theorem KpRt.three {w w' : World} {g : Nat} {v e : Int} {a : Option Addr} {n c : Nat} {rs : List RoleV} (h : Hid (KpRt w g v e a n c rs w')) : w'.cell? ⟨g, 0, none⟩ = some (.int .i64 v) ∧ w'.cell? ⟨g, 1, none⟩ = some (.int .i64 e) ∧ Hid (KpRt w g v e a n c rs w') := ⟨h.out.row.rt3.1, h.out.row.rt3.2.1, h⟩
/- The cells of one role, wherever the walk is. -/
theorem KpRt.role {w w' : World} {g b o i : Nat} {v e : Int} {n c : Nat} {rs : List RoleV} {nd : Int} {ka : Option Addr} {kc m : Nat} (hr : Hid (∃ h : i < rs.length, rs[i].need = nd ∧ rs[i].ka = ka ∧ rs[i].kc = kc ∧ rs[i].ks.length = m)) (h : Hid (KpRt w g v e (some ⟨b, o, none⟩) n c rs w')) :
    w'.cell? ⟨g, 2, none⟩ = some (.slice (some ⟨b, o, none⟩) n c) ∧ w'.cell? ⟨b, o + i * 2, none⟩ = some (.int .i64 nd) ∧ w'.cell? ⟨b, o + i * 2 + 1, none⟩ = some (.slice ka m kc) ∧ Hid (KpRt w g v e (some ⟨b, o, none⟩) n c rs w') := by
  obtain ⟨hi, rfl, rfl, rfl, rfl⟩ := hr.out
  obtain ⟨b', o', h1, h2, h3, _⟩ := h.out.rl i hi
  injection h1 with h1
  injection h1 with e1 e2
  subst e1 e2
  exact ⟨h.out.row.rt3.2.2, h2, h3, h⟩
end Go.Proofs.YtdfglpbappeoaabDoor
