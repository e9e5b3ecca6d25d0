/- A manifest's bytes. -/
import Derived.Test.YtchfpiadfmnphaaMfM
import Derived.Test.YtchfpiadfmnphaaPutT
namespace Go.Proofs.Ytchfpiadfmnphaa
open Go.RowKit
set_option linter.unusedVariables false

def putLays (T : ByteArray) (l : List LayV) : ByteArray := l.foldl (fun t x => t ++ (x.bl ++ putS x.sz)) T
def putLabs (T : ByteArray) (l : List LabV) : ByteArray := l.foldl (fun t x => t ++ (putT x.ky ++ putT x.vl)) T
def manT (nm : ByteArray) (ls : List LayV) (bs : List LabV) : ByteArray := putLabs (putLays ((⟨#[73]⟩ ++ putT nm) ++ putS (ls.length : Int)) ls ++ putS (bs.length : Int)) bs
noncomputable def manBy (nm : ByteArray) (ls : List LayV) (bs : List LabV) : ByteArray := if boolP (ManOk nm ls bs) = true then manT nm ls bs else ⟨#[]⟩
theorem manBy_no {nm : ByteArray} {ls : List LayV} {bs : List LabV} (h : boolP (ManOk nm ls bs) = false) : manBy nm ls bs = ⟨#[]⟩ := by unfold manBy; rw [h]; rfl
theorem manBy_yes {nm : ByteArray} {ls : List LayV} {bs : List LabV} (h : boolP (ManOk nm ls bs) = true) : manBy nm ls bs = manT nm ls bs := by unfold manBy; rw [h]; rfl
theorem putLays_step {T x0 : ByteArray} {x1 : Int} {l : List LayV} {k : Nat} (hk : k < l.length) (h0 : l[k].bl = x0) (h1 : l[k].sz = x1) : putLays T (l.drop k) = putLays (T ++ (x0 ++ putS x1)) (l.drop (k + 1)) := by
  rw [List.drop_eq_getElem_cons hk, ← h0, ← h1]
  rfl
theorem putLabs_step {T x0 x1 : ByteArray} {l : List LabV} {k : Nat} (hk : k < l.length) (h0 : l[k].ky = x0) (h1 : l[k].vl = x1) : putLabs T (l.drop k) = putLabs (T ++ (putT x0 ++ putT x1)) (l.drop (k + 1)) := by
  rw [List.drop_eq_getElem_cons hk, ← h0, ← h1]
  rfl
theorem putLays_end {T : ByteArray} {l : List LayV} {n : Nat} (hn : l.length = n) : putLays T (l.drop n) = T := by rw [← hn, List.drop_length]; rfl
theorem putLabs_end {T : ByteArray} {l : List LabV} {n : Nat} (hn : l.length = n) : putLabs T (l.drop n) = T := by rw [← hn, List.drop_length]; rfl
theorem putT_len (t : ByteArray) : (putT t).size ≤ 20010 := by
  unfold putT
  by_cases h : 20000 < t.size
  · rw [if_pos h]; decide
  · rw [if_neg h, ByteArray.size_append]
    have := putS_size t.size
    omega
theorem i64_cnt {n : Nat} (h : n ≤ maxLen) : I64 (n : Int) := by
  unfold maxLen at h
  unfold I64
  simp [Lit.wf, IntKind.min, IntKind.max, IntKind.signed, IntKind.bits]
  omega
end Go.Proofs.Ytchfpiadfmnphaa
