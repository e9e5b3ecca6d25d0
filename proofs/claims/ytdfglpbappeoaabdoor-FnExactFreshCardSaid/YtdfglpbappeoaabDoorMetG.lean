/- The bytes of what is signed, on the specification's side. -/
import Derived.Test.YtdfglpbappeoaabDoorMetS
namespace Go.Proofs.YtdfglpbappeoaabDoor
open Go.RowKit
set_option linter.unusedVariables false

def putSg (t : ByteArray) (x : SigV) : ByteArray := ((t ++ putS x.k) ++ putS x.e) ++ putS x.s
def putSgs (t : ByteArray) (l : List SigV) : ByteArray := l.foldl putSg t
def signedT (t : ByteArray) (l : List SigV) : ByteArray := putSgs ((⟨#[83]⟩ ++ putT t) ++ putS (l.length : Int)) l
def signedBy (t : ByteArray) (l : List SigV) : ByteArray := if signedB t l then signedT t l else ⟨#[]⟩
theorem putSgs_step {t : ByteArray} {l : List SigV} {i : Nat} (h : i < l.length) : putSgs t (l.drop i) = putSgs (putSg t l[i]) (l.drop (i + 1)) := by
  rw [List.drop_eq_getElem_cons h]; rfl
theorem putSgs_end {t : ByteArray} {l : List SigV} : putSgs t (l.drop l.length) = t := by rw [List.drop_of_length_le (Nat.le_refl _)]; rfl
theorem putT_size {t : ByteArray} (h : t.size ≤ 20000) : (putT t).size ≤ 20010 := by
  unfold putT
  rw [if_neg (by omega), ByteArray.size_append]
  have := putS_size (t.size : Int)
  omega
theorem signedB_of {t : ByteArray} {l : List SigV} (h : signedB t l = true) : t.size ≤ 8000 ∧ l.length ≤ 16 := by
  unfold signedB at h
  rw [Bool.and_eq_true, decide_eq_true_eq] at h
  exact h.1
theorem KpSg.sig {w w' : World} {g b o i : Nat} {t : ByteArray} {n c : Nat} {l : List SigV} {z0 z1 z2 : Int} (hr : Hid (∃ h : i < l.length, l[i].k = z0 ∧ l[i].e = z1 ∧ l[i].s = z2)) (h : Hid (KpSg w g t (some ⟨b, o, none⟩) n c l w')) :
    w'.cell? ⟨g, 1, none⟩ = some (.slice (some ⟨b, o, none⟩) n c) ∧ w'.cell? ⟨b, o + i * 3, none⟩ = some (.int .i64 z0) ∧ w'.cell? ⟨b, o + i * 3 + 1, none⟩ = some (.int .i64 z1) ∧ w'.cell? ⟨b, o + i * 3 + 2, none⟩ = some (.int .i64 z2) ∧ Hid (KpSg w g t (some ⟨b, o, none⟩) n c l w') := by
  obtain ⟨hi, rfl, rfl, rfl⟩ := hr.out
  obtain ⟨b', o', h1, h2, h3, h4⟩ := h.out.sg i hi
  injection h1 with h1
  injection h1 with e1 e2
  subst e1 e2
  exact ⟨h.out.row.sg.2, h2, h3, h4, h⟩
end Go.Proofs.YtdfglpbappeoaabDoor
