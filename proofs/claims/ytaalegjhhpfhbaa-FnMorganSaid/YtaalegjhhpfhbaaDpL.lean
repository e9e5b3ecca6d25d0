/- A branch of the law FnMorgan. -/
import Derived.Test.YtaalegjhhpfhbaaDpH
import Derived.Deep.RegionHeld3
import Derived.Deep.DeepCutAuto
import Derived.Deep.CutRange
namespace Go.Proofs.Ytaalegjhhpfhbaa
open Go.RowKit
set_option linter.unusedVariables false

set_option maxRecDepth 100000 in
set_option maxHeartbeats 64000000 in
theorem morgQ3 (a1 : Option Addr) (n1 c1 : Nat) (a2 : Option Addr) (n2 c2 : Nat) (w : World) (hn1 : n1 ≤ 9223372036854775807) (hn2 : n2 ≤ 9223372036854775807) : (morgPack a1 n1 c1 a2 n2 c2 w hn1 hn2).q3 := by
  skip
  have hC13 : ∀ w0 (pn : Nat) (pc : Nat) (l1 : List InsV) (y1 : Nd) (p9 : Nat) (o9 : Nat), (InsAt w0 (some ⟨p9, o9, none⟩) l1) → (l1.length = pn ∧ pn ≤ 100 ∧ (∀ x ∈ l1, x.w)) → (nodeN l1 = some y1) → Calls Try.prog 12 #[.slice (some ⟨p9, o9, none⟩) pn pc] w0 fun r w' => r = .returned (.bool true) ∧ Below w0.heap.size w0 w' := fun w0 pn pc l1 y1 p9 o9 n0 n1 n2 => by have hh := specPolR (some ⟨p9, o9, none⟩) pc pn l1 w0 n1.1 n0 (Nat.le_trans n1.2.1 (by decide)) n1.2.2; rw [n2] at hh; exact hh
  have hC14 : ∀ w0 (qn : Nat) (qc : Nat) (l2 : List InsV) (y2 : Nd) (q9 : Nat) (r9 : Nat), (InsAt w0 (some ⟨q9, r9, none⟩) l2) → (l2.length = qn ∧ qn ≤ 100 ∧ (∀ x ∈ l2, x.w)) → (nodeN l2 = some y2) → Calls Try.prog 12 #[.slice (some ⟨q9, r9, none⟩) qn qc] w0 fun r w' => r = .returned (.bool true) ∧ Below w0.heap.size w0 w' := fun w0 qn qc l2 y2 q9 r9 n0 n1 n2 => by have hh := specPolR (some ⟨q9, r9, none⟩) qc qn l2 w0 n1.1 n0 (Nat.le_trans n1.2.1 (by decide)) n1.2.2; rw [n2] at hh; exact hh
  have hC26 : ∀ w0 (da : Option Addr) (dm : Nat) (de : Nat) (ls : List LabV) (qn : Nat) (qc : Nat) (l2 : List InsV) (q9 : Nat) (r9 : Nat), (InsAt w0 (some ⟨q9, r9, none⟩) l2) → (LabAt w0 da ls) → (ls.length = dm ∧ dm ≤ 100) → (l2.length = qn ∧ qn ≤ 100 ∧ (∀ x ∈ l2, x.w)) → (evalN l2 ls = true) → Calls Try.prog 19 #[.slice (some ⟨q9, r9, none⟩) qn qc, .slice da dm de] w0 fun r w' => r = .returned (.bool true) ∧ Below w0.heap.size w0 w' := fun w0 da dm de ls qn qc l2 q9 r9 n0 n1 n2 n3 n4 => by rw [← n4]; exact implPolE (some ⟨q9, r9, none⟩) qc qn l2 da de dm ls w0 n3.1 n0 (Nat.le_trans n3.2.1 (by decide)) n3.2.2 n2.1 n1 (Nat.le_trans n2.2 (by decide))
  have hC38 : ∀ w0 (pn : Nat) (pc : Nat) (l1 : List InsV) (da : Option Addr) (dm : Nat) (de : Nat) (ls : List LabV) (p9 : Nat) (o9 : Nat), (InsAt w0 (some ⟨p9, o9, none⟩) l1) → (LabAt w0 da ls) → (ls.length = dm ∧ dm ≤ 100) → (l1.length = pn ∧ pn ≤ 100 ∧ (∀ x ∈ l1, x.w)) → (evalN l1 ls = true) → Calls Try.prog 19 #[.slice (some ⟨p9, o9, none⟩) pn pc, .slice da dm de] w0 fun r w' => r = .returned (.bool true) ∧ Below w0.heap.size w0 w' := fun w0 pn pc l1 da dm de ls p9 o9 n0 n1 n2 n3 n4 => by rw [← n4]; exact implPolE (some ⟨p9, o9, none⟩) pc pn l1 da de dm ls w0 n3.1 n0 (Nat.le_trans n3.2.1 (by decide)) n3.2.2 n2.1 n1 (Nat.le_trans n2.2 (by decide))
  have hC39 : ∀ w0 (pn : Nat) (pc : Nat) (l1 : List InsV) (da : Option Addr) (dm : Nat) (de : Nat) (ls : List LabV) (p9 : Nat) (o9 : Nat), (InsAt w0 (some ⟨p9, o9, none⟩) l1) → (LabAt w0 da ls) → (ls.length = dm ∧ dm ≤ 100) → (l1.length = pn ∧ pn ≤ 100 ∧ (∀ x ∈ l1, x.w)) → (evalN l1 ls = true) → Calls Try.prog 17 #[.slice (some ⟨p9, o9, none⟩) pn pc, .slice da dm de] w0 fun r w' => r = .returned (.bool true) ∧ Below w0.heap.size w0 w' := fun w0 pn pc l1 da dm de ls p9 o9 n0 n1 n2 n3 n4 => by rw [← n4]; exact specPolE (some ⟨p9, o9, none⟩) pc pn l1 da de dm ls w0 n3.1 n0 (Nat.le_trans n3.2.1 (by decide)) n3.2.2 n2.1 n1 (Nat.le_trans n2.2 (by decide))
  have hC51 : ∀ w0 (l1 : List InsV) (da : Option Addr) (dm : Nat) (de : Nat) (ls : List LabV) (l2 : List InsV) (a328 : Nat) (m328 : Nat) (c328 : Nat), (InsAt w0 (some ⟨a328, 0, none⟩) ((l1 ++ l2) ++ ([⟨4, ⟨#[]⟩, ⟨#[]⟩⟩, ⟨3, ⟨#[]⟩, ⟨#[]⟩⟩] : List InsV))) → (LabAt w0 da ls) → (ls.length = dm ∧ dm ≤ 100) → (((l1 ++ l2) ++ ([⟨4, ⟨#[]⟩, ⟨#[]⟩⟩, ⟨3, ⟨#[]⟩, ⟨#[]⟩⟩] : List InsV)).length = m328 ∧ m328 ≤ 100 ∧ (∀ x ∈ ((l1 ++ l2) ++ ([⟨4, ⟨#[]⟩, ⟨#[]⟩⟩, ⟨3, ⟨#[]⟩, ⟨#[]⟩⟩] : List InsV)), x.w)) → (evalN ((l1 ++ l2) ++ ([⟨4, ⟨#[]⟩, ⟨#[]⟩⟩, ⟨3, ⟨#[]⟩, ⟨#[]⟩⟩] : List InsV)) ls = false) → Calls Try.prog 19 #[.slice (some ⟨a328, 0, none⟩) m328 c328, .slice da dm de] w0 fun r w' => r = .returned (.bool false) ∧ Below w0.heap.size w0 w' := fun w0 l1 da dm de ls l2 a328 m328 c328 n0 n1 n2 n3 n4 => by rw [← n4]; exact implPolE (some ⟨a328, 0, none⟩) c328 m328 ((l1 ++ l2) ++ ([⟨4, ⟨#[]⟩, ⟨#[]⟩⟩, ⟨3, ⟨#[]⟩, ⟨#[]⟩⟩] : List InsV)) da de dm ls w0 n3.1 n0 (Nat.le_trans n3.2.1 (by decide)) n3.2.2 n2.1 n1 (Nat.le_trans n2.2 (by decide))
  have hC52 : ∀ w0 (l1 : List InsV) (da : Option Addr) (dm : Nat) (de : Nat) (ls : List LabV) (l2 : List InsV) (a332 : Nat) (m332 : Nat) (c332 : Nat), (InsAt w0 (some ⟨a332, 0, none⟩) ((l1 ++ l2) ++ ([⟨4, ⟨#[]⟩, ⟨#[]⟩⟩, ⟨3, ⟨#[]⟩, ⟨#[]⟩⟩] : List InsV))) → (LabAt w0 da ls) → (ls.length = dm ∧ dm ≤ 100) → (((l1 ++ l2) ++ ([⟨4, ⟨#[]⟩, ⟨#[]⟩⟩, ⟨3, ⟨#[]⟩, ⟨#[]⟩⟩] : List InsV)).length = m332 ∧ m332 ≤ 100 ∧ (∀ x ∈ ((l1 ++ l2) ++ ([⟨4, ⟨#[]⟩, ⟨#[]⟩⟩, ⟨3, ⟨#[]⟩, ⟨#[]⟩⟩] : List InsV)), x.w)) → (evalN ((l1 ++ l2) ++ ([⟨4, ⟨#[]⟩, ⟨#[]⟩⟩, ⟨3, ⟨#[]⟩, ⟨#[]⟩⟩] : List InsV)) ls = false) → Calls Try.prog 19 #[.slice (some ⟨a332, 0, none⟩) m332 c332, .slice da dm de] w0 fun r w' => r = .returned (.bool false) ∧ Below w0.heap.size w0 w' := fun w0 l1 da dm de ls l2 a332 m332 c332 n0 n1 n2 n3 n4 => by rw [← n4]; exact implPolE (some ⟨a332, 0, none⟩) c332 m332 ((l1 ++ l2) ++ ([⟨4, ⟨#[]⟩, ⟨#[]⟩⟩, ⟨3, ⟨#[]⟩, ⟨#[]⟩⟩] : List InsV)) da de dm ls w0 n3.1 n0 (Nat.le_trans n3.2.1 (by decide)) n3.2.2 n2.1 n1 (Nat.le_trans n2.2 (by decide))
  have hC53 : ∀ w0 (l1 : List InsV) (da : Option Addr) (dm : Nat) (de : Nat) (ls : List LabV) (l2 : List InsV) (a337 : Nat) (m337 : Nat) (c337 : Nat), (InsAt w0 (some ⟨a337, 0, none⟩) ((l1 ++ l2) ++ ([⟨4, ⟨#[]⟩, ⟨#[]⟩⟩, ⟨3, ⟨#[]⟩, ⟨#[]⟩⟩] : List InsV))) → (LabAt w0 da ls) → (ls.length = dm ∧ dm ≤ 100) → (((l1 ++ l2) ++ ([⟨4, ⟨#[]⟩, ⟨#[]⟩⟩, ⟨3, ⟨#[]⟩, ⟨#[]⟩⟩] : List InsV)).length = m337 ∧ m337 ≤ 100 ∧ (∀ x ∈ ((l1 ++ l2) ++ ([⟨4, ⟨#[]⟩, ⟨#[]⟩⟩, ⟨3, ⟨#[]⟩, ⟨#[]⟩⟩] : List InsV)), x.w)) → (evalN ((l1 ++ l2) ++ ([⟨4, ⟨#[]⟩, ⟨#[]⟩⟩, ⟨3, ⟨#[]⟩, ⟨#[]⟩⟩] : List InsV)) ls = false) → Calls Try.prog 19 #[.slice (some ⟨a337, 0, none⟩) m337 c337, .slice da dm de] w0 fun r w' => r = .returned (.bool false) ∧ Below w0.heap.size w0 w' := fun w0 l1 da dm de ls l2 a337 m337 c337 n0 n1 n2 n3 n4 => by rw [← n4]; exact implPolE (some ⟨a337, 0, none⟩) c337 m337 ((l1 ++ l2) ++ ([⟨4, ⟨#[]⟩, ⟨#[]⟩⟩, ⟨3, ⟨#[]⟩, ⟨#[]⟩⟩] : List InsV)) da de dm ls w0 n3.1 n0 (Nat.le_trans n3.2.1 (by decide)) n3.2.2 n2.1 n1 (Nat.le_trans n2.2 (by decide))
  have hC54 : ∀ w0 (l1 : List InsV) (da : Option Addr) (dm : Nat) (de : Nat) (ls : List LabV) (l2 : List InsV) (a345 : Nat) (m345 : Nat) (c345 : Nat), (InsAt w0 (some ⟨a345, 0, none⟩) ((l1 ++ l2) ++ ([⟨5, ⟨#[]⟩, ⟨#[]⟩⟩, ⟨3, ⟨#[]⟩, ⟨#[]⟩⟩] : List InsV))) → (LabAt w0 da ls) → (ls.length = dm ∧ dm ≤ 100) → (((l1 ++ l2) ++ ([⟨5, ⟨#[]⟩, ⟨#[]⟩⟩, ⟨3, ⟨#[]⟩, ⟨#[]⟩⟩] : List InsV)).length = m345 ∧ m345 ≤ 100 ∧ (∀ x ∈ ((l1 ++ l2) ++ ([⟨5, ⟨#[]⟩, ⟨#[]⟩⟩, ⟨3, ⟨#[]⟩, ⟨#[]⟩⟩] : List InsV)), x.w)) → (evalN ((l1 ++ l2) ++ ([⟨5, ⟨#[]⟩, ⟨#[]⟩⟩, ⟨3, ⟨#[]⟩, ⟨#[]⟩⟩] : List InsV)) ls = false) → Calls Try.prog 19 #[.slice (some ⟨a345, 0, none⟩) m345 c345, .slice da dm de] w0 fun r w' => r = .returned (.bool false) ∧ Below w0.heap.size w0 w' := fun w0 l1 da dm de ls l2 a345 m345 c345 n0 n1 n2 n3 n4 => by rw [← n4]; exact implPolE (some ⟨a345, 0, none⟩) c345 m345 ((l1 ++ l2) ++ ([⟨5, ⟨#[]⟩, ⟨#[]⟩⟩, ⟨3, ⟨#[]⟩, ⟨#[]⟩⟩] : List InsV)) da de dm ls w0 n3.1 n0 (Nat.le_trans n3.2.1 (by decide)) n3.2.2 n2.1 n1 (Nat.le_trans n2.2 (by decide))
  have hC55 : ∀ w0 (l1 : List InsV) (da : Option Addr) (dm : Nat) (de : Nat) (ls : List LabV) (l2 : List InsV) (a349 : Nat) (m349 : Nat) (c349 : Nat), (InsAt w0 (some ⟨a349, 0, none⟩) ((l1 ++ l2) ++ ([⟨5, ⟨#[]⟩, ⟨#[]⟩⟩, ⟨3, ⟨#[]⟩, ⟨#[]⟩⟩] : List InsV))) → (LabAt w0 da ls) → (ls.length = dm ∧ dm ≤ 100) → (((l1 ++ l2) ++ ([⟨5, ⟨#[]⟩, ⟨#[]⟩⟩, ⟨3, ⟨#[]⟩, ⟨#[]⟩⟩] : List InsV)).length = m349 ∧ m349 ≤ 100 ∧ (∀ x ∈ ((l1 ++ l2) ++ ([⟨5, ⟨#[]⟩, ⟨#[]⟩⟩, ⟨3, ⟨#[]⟩, ⟨#[]⟩⟩] : List InsV)), x.w)) → (evalN ((l1 ++ l2) ++ ([⟨5, ⟨#[]⟩, ⟨#[]⟩⟩, ⟨3, ⟨#[]⟩, ⟨#[]⟩⟩] : List InsV)) ls = false) → Calls Try.prog 19 #[.slice (some ⟨a349, 0, none⟩) m349 c349, .slice da dm de] w0 fun r w' => r = .returned (.bool false) ∧ Below w0.heap.size w0 w' := fun w0 l1 da dm de ls l2 a349 m349 c349 n0 n1 n2 n3 n4 => by rw [← n4]; exact implPolE (some ⟨a349, 0, none⟩) c349 m349 ((l1 ++ l2) ++ ([⟨5, ⟨#[]⟩, ⟨#[]⟩⟩, ⟨3, ⟨#[]⟩, ⟨#[]⟩⟩] : List InsV)) da de dm ls w0 n3.1 n0 (Nat.le_trans n3.2.1 (by decide)) n3.2.2 n2.1 n1 (Nat.le_trans n2.2 (by decide))
  have hC56 : ∀ w0 (l1 : List InsV) (da : Option Addr) (dm : Nat) (de : Nat) (ls : List LabV) (l2 : List InsV) (a354 : Nat) (m354 : Nat) (c354 : Nat), (InsAt w0 (some ⟨a354, 0, none⟩) ((l1 ++ l2) ++ ([⟨5, ⟨#[]⟩, ⟨#[]⟩⟩, ⟨3, ⟨#[]⟩, ⟨#[]⟩⟩] : List InsV))) → (LabAt w0 da ls) → (ls.length = dm ∧ dm ≤ 100) → (((l1 ++ l2) ++ ([⟨5, ⟨#[]⟩, ⟨#[]⟩⟩, ⟨3, ⟨#[]⟩, ⟨#[]⟩⟩] : List InsV)).length = m354 ∧ m354 ≤ 100 ∧ (∀ x ∈ ((l1 ++ l2) ++ ([⟨5, ⟨#[]⟩, ⟨#[]⟩⟩, ⟨3, ⟨#[]⟩, ⟨#[]⟩⟩] : List InsV)), x.w)) → (evalN ((l1 ++ l2) ++ ([⟨5, ⟨#[]⟩, ⟨#[]⟩⟩, ⟨3, ⟨#[]⟩, ⟨#[]⟩⟩] : List InsV)) ls = false) → Calls Try.prog 19 #[.slice (some ⟨a354, 0, none⟩) m354 c354, .slice da dm de] w0 fun r w' => r = .returned (.bool false) ∧ Below w0.heap.size w0 w' := fun w0 l1 da dm de ls l2 a354 m354 c354 n0 n1 n2 n3 n4 => by rw [← n4]; exact implPolE (some ⟨a354, 0, none⟩) c354 m354 ((l1 ++ l2) ++ ([⟨5, ⟨#[]⟩, ⟨#[]⟩⟩, ⟨3, ⟨#[]⟩, ⟨#[]⟩⟩] : List InsV)) da de dm ls w0 n3.1 n0 (Nat.le_trans n3.2.1 (by decide)) n3.2.2 n2.1 n1 (Nat.le_trans n2.2 (by decide))
  have hC57 : ∀ w0 (l1 : List InsV) (da : Option Addr) (dm : Nat) (de : Nat) (ls : List LabV) (l2 : List InsV) (a383 : Nat) (m383 : Nat) (c383 : Nat), (InsAt w0 (some ⟨a383, 0, none⟩) ((((l1 ++ ([⟨3, ⟨#[]⟩, ⟨#[]⟩⟩] : List InsV)) ++ l2) ++ ([⟨3, ⟨#[]⟩, ⟨#[]⟩⟩] : List InsV)) ++ ([⟨5, ⟨#[]⟩, ⟨#[]⟩⟩] : List InsV))) → (LabAt w0 da ls) → (ls.length = dm ∧ dm ≤ 100) → (((((l1 ++ ([⟨3, ⟨#[]⟩, ⟨#[]⟩⟩] : List InsV)) ++ l2) ++ ([⟨3, ⟨#[]⟩, ⟨#[]⟩⟩] : List InsV)) ++ ([⟨5, ⟨#[]⟩, ⟨#[]⟩⟩] : List InsV)).length = m383 ∧ m383 ≤ 100 ∧ (∀ x ∈ ((((l1 ++ ([⟨3, ⟨#[]⟩, ⟨#[]⟩⟩] : List InsV)) ++ l2) ++ ([⟨3, ⟨#[]⟩, ⟨#[]⟩⟩] : List InsV)) ++ ([⟨5, ⟨#[]⟩, ⟨#[]⟩⟩] : List InsV)), x.w)) → (evalN ((((l1 ++ ([⟨3, ⟨#[]⟩, ⟨#[]⟩⟩] : List InsV)) ++ l2) ++ ([⟨3, ⟨#[]⟩, ⟨#[]⟩⟩] : List InsV)) ++ ([⟨5, ⟨#[]⟩, ⟨#[]⟩⟩] : List InsV)) ls = false) → Calls Try.prog 19 #[.slice (some ⟨a383, 0, none⟩) m383 c383, .slice da dm de] w0 fun r w' => r = .returned (.bool false) ∧ Below w0.heap.size w0 w' := fun w0 l1 da dm de ls l2 a383 m383 c383 n0 n1 n2 n3 n4 => by rw [← n4]; exact implPolE (some ⟨a383, 0, none⟩) c383 m383 ((((l1 ++ ([⟨3, ⟨#[]⟩, ⟨#[]⟩⟩] : List InsV)) ++ l2) ++ ([⟨3, ⟨#[]⟩, ⟨#[]⟩⟩] : List InsV)) ++ ([⟨5, ⟨#[]⟩, ⟨#[]⟩⟩] : List InsV)) da de dm ls w0 n3.1 n0 (Nat.le_trans n3.2.1 (by decide)) n3.2.2 n2.1 n1 (Nat.le_trans n2.2 (by decide))
  have hC58 : ∀ w0 (l1 : List InsV) (da : Option Addr) (dm : Nat) (de : Nat) (ls : List LabV) (l2 : List InsV) (a390 : Nat) (m390 : Nat) (c390 : Nat), (InsAt w0 (some ⟨a390, 0, none⟩) ((((l1 ++ ([⟨3, ⟨#[]⟩, ⟨#[]⟩⟩] : List InsV)) ++ l2) ++ ([⟨3, ⟨#[]⟩, ⟨#[]⟩⟩] : List InsV)) ++ ([⟨4, ⟨#[]⟩, ⟨#[]⟩⟩] : List InsV))) → (LabAt w0 da ls) → (ls.length = dm ∧ dm ≤ 100) → (((((l1 ++ ([⟨3, ⟨#[]⟩, ⟨#[]⟩⟩] : List InsV)) ++ l2) ++ ([⟨3, ⟨#[]⟩, ⟨#[]⟩⟩] : List InsV)) ++ ([⟨4, ⟨#[]⟩, ⟨#[]⟩⟩] : List InsV)).length = m390 ∧ m390 ≤ 100 ∧ (∀ x ∈ ((((l1 ++ ([⟨3, ⟨#[]⟩, ⟨#[]⟩⟩] : List InsV)) ++ l2) ++ ([⟨3, ⟨#[]⟩, ⟨#[]⟩⟩] : List InsV)) ++ ([⟨4, ⟨#[]⟩, ⟨#[]⟩⟩] : List InsV)), x.w)) → (evalN ((((l1 ++ ([⟨3, ⟨#[]⟩, ⟨#[]⟩⟩] : List InsV)) ++ l2) ++ ([⟨3, ⟨#[]⟩, ⟨#[]⟩⟩] : List InsV)) ++ ([⟨4, ⟨#[]⟩, ⟨#[]⟩⟩] : List InsV)) ls = false) → Calls Try.prog 19 #[.slice (some ⟨a390, 0, none⟩) m390 c390, .slice da dm de] w0 fun r w' => r = .returned (.bool false) ∧ Below w0.heap.size w0 w' := fun w0 l1 da dm de ls l2 a390 m390 c390 n0 n1 n2 n3 n4 => by rw [← n4]; exact implPolE (some ⟨a390, 0, none⟩) c390 m390 ((((l1 ++ ([⟨3, ⟨#[]⟩, ⟨#[]⟩⟩] : List InsV)) ++ l2) ++ ([⟨3, ⟨#[]⟩, ⟨#[]⟩⟩] : List InsV)) ++ ([⟨4, ⟨#[]⟩, ⟨#[]⟩⟩] : List InsV)) da de dm ls w0 n3.1 n0 (Nat.le_trans n3.2.1 (by decide)) n3.2.2 n2.1 n1 (Nat.le_trans n2.2 (by decide))
  have hC59 : ∀ w0 (l1 : List InsV) (da : Option Addr) (dm : Nat) (de : Nat) (ls : List LabV) (a397 : Nat) (m397 : Nat) (c397 : Nat), (InsAt w0 (some ⟨a397, 0, none⟩) (l1 ++ ([⟨3, ⟨#[]⟩, ⟨#[]⟩⟩, ⟨3, ⟨#[]⟩, ⟨#[]⟩⟩] : List InsV))) → (LabAt w0 da ls) → (ls.length = dm ∧ dm ≤ 100) → ((l1 ++ ([⟨3, ⟨#[]⟩, ⟨#[]⟩⟩, ⟨3, ⟨#[]⟩, ⟨#[]⟩⟩] : List InsV)).length = m397 ∧ m397 ≤ 100 ∧ (∀ x ∈ (l1 ++ ([⟨3, ⟨#[]⟩, ⟨#[]⟩⟩, ⟨3, ⟨#[]⟩, ⟨#[]⟩⟩] : List InsV)), x.w)) → (evalN (l1 ++ ([⟨3, ⟨#[]⟩, ⟨#[]⟩⟩, ⟨3, ⟨#[]⟩, ⟨#[]⟩⟩] : List InsV)) ls = true) → Calls Try.prog 19 #[.slice (some ⟨a397, 0, none⟩) m397 c397, .slice da dm de] w0 fun r w' => r = .returned (.bool true) ∧ Below w0.heap.size w0 w' := fun w0 l1 da dm de ls a397 m397 c397 n0 n1 n2 n3 n4 => by rw [← n4]; exact implPolE (some ⟨a397, 0, none⟩) c397 m397 (l1 ++ ([⟨3, ⟨#[]⟩, ⟨#[]⟩⟩, ⟨3, ⟨#[]⟩, ⟨#[]⟩⟩] : List InsV)) da de dm ls w0 n3.1 n0 (Nat.le_trans n3.2.1 (by decide)) n3.2.2 n2.1 n1 (Nat.le_trans n2.2 (by decide))
  have hC60 : ∀ w0 (l1 : List InsV) (da : Option Addr) (dm : Nat) (de : Nat) (ls : List LabV) (a401 : Nat) (m401 : Nat) (c401 : Nat), (InsAt w0 (some ⟨a401, 0, none⟩) (l1 ++ ([⟨3, ⟨#[]⟩, ⟨#[]⟩⟩, ⟨3, ⟨#[]⟩, ⟨#[]⟩⟩] : List InsV))) → (LabAt w0 da ls) → (ls.length = dm ∧ dm ≤ 100) → ((l1 ++ ([⟨3, ⟨#[]⟩, ⟨#[]⟩⟩, ⟨3, ⟨#[]⟩, ⟨#[]⟩⟩] : List InsV)).length = m401 ∧ m401 ≤ 100 ∧ (∀ x ∈ (l1 ++ ([⟨3, ⟨#[]⟩, ⟨#[]⟩⟩, ⟨3, ⟨#[]⟩, ⟨#[]⟩⟩] : List InsV)), x.w)) → (evalN (l1 ++ ([⟨3, ⟨#[]⟩, ⟨#[]⟩⟩, ⟨3, ⟨#[]⟩, ⟨#[]⟩⟩] : List InsV)) ls = true) → Calls Try.prog 19 #[.slice (some ⟨a401, 0, none⟩) m401 c401, .slice da dm de] w0 fun r w' => r = .returned (.bool true) ∧ Below w0.heap.size w0 w' := fun w0 l1 da dm de ls a401 m401 c401 n0 n1 n2 n3 n4 => by rw [← n4]; exact implPolE (some ⟨a401, 0, none⟩) c401 m401 (l1 ++ ([⟨3, ⟨#[]⟩, ⟨#[]⟩⟩, ⟨3, ⟨#[]⟩, ⟨#[]⟩⟩] : List InsV)) da de dm ls w0 n3.1 n0 (Nat.le_trans n3.2.1 (by decide)) n3.2.2 n2.1 n1 (Nat.le_trans n2.2 (by decide))
  have hC61 : ∀ w0 (l1 : List InsV) (da : Option Addr) (dm : Nat) (de : Nat) (ls : List LabV) (a406 : Nat) (m406 : Nat) (c406 : Nat), (InsAt w0 (some ⟨a406, 0, none⟩) (l1 ++ ([⟨3, ⟨#[]⟩, ⟨#[]⟩⟩, ⟨3, ⟨#[]⟩, ⟨#[]⟩⟩] : List InsV))) → (LabAt w0 da ls) → (ls.length = dm ∧ dm ≤ 100) → ((l1 ++ ([⟨3, ⟨#[]⟩, ⟨#[]⟩⟩, ⟨3, ⟨#[]⟩, ⟨#[]⟩⟩] : List InsV)).length = m406 ∧ m406 ≤ 100 ∧ (∀ x ∈ (l1 ++ ([⟨3, ⟨#[]⟩, ⟨#[]⟩⟩, ⟨3, ⟨#[]⟩, ⟨#[]⟩⟩] : List InsV)), x.w)) → (evalN (l1 ++ ([⟨3, ⟨#[]⟩, ⟨#[]⟩⟩, ⟨3, ⟨#[]⟩, ⟨#[]⟩⟩] : List InsV)) ls = true) → Calls Try.prog 19 #[.slice (some ⟨a406, 0, none⟩) m406 c406, .slice da dm de] w0 fun r w' => r = .returned (.bool true) ∧ Below w0.heap.size w0 w' := fun w0 l1 da dm de ls a406 m406 c406 n0 n1 n2 n3 n4 => by rw [← n4]; exact implPolE (some ⟨a406, 0, none⟩) c406 m406 (l1 ++ ([⟨3, ⟨#[]⟩, ⟨#[]⟩⟩, ⟨3, ⟨#[]⟩, ⟨#[]⟩⟩] : List InsV)) da de dm ls w0 n3.1 n0 (Nat.le_trans n3.2.1 (by decide)) n3.2.2 n2.1 n1 (Nat.le_trans n2.2 (by decide))
  intro HS0 g g2 d_n1 d_n2 qX n1_0 w1 pa pn pc l1 da dm de ls Hp1 HS1 n2_0 w2 qa qn qc l2 ea em ee es Hp2 HS2 kX1 aX1 kX aX y1 y2 hY
  have HY := hidP hY
  have HA := hidP hY.one
  have HB := hidP hY.two
  have HN1 : Hid (l1 ≠ []) := fun e => by have h := (node_some hY.r1).1; rw [e] at h; exact absurd h (by decide)
  have HN2 : Hid (l2 ≠ []) := fun e => by have h := (node_some hY.r2).1; rw [e] at h; exact absurd h (by decide)
  clear hY
  obtain ⟨p9, o9, rfl⟩ := ins_some (Sta.t (i := 1) HS2 rfl :).1 HN1.out
  obtain ⟨q9, r9, rfl⟩ := ins_some (Sta.t (i := 0) HS2 rfl :).1 HN2.out
  have hp1 := Hp1.out.1
  have hp11 := Hp1.out.2.1
  have hp2 := Hp2.out.1
  have hp22 := Hp2.out.2.1
  have hpl := HY.out.len
  have ew1 : IntKind.i64.wrap ((pn : Int) + (qn : Int)) = (pn : Int) + (qn : Int) := by simp [IntKind.wrap, IntKind.signed, IntKind.bits]; omega
  have ew2 : IntKind.i64.wrap ((pn : Int) + (qn : Int) + 3) = (pn : Int) + (qn : Int) + 3 := by simp [IntKind.wrap, IntKind.signed, IntKind.bits]; omega
  have dl : decide ((60 : Int) < (pn : Int) + (qn : Int) + 3) = false := decide_eq_false (by omega)
  go_upto_region 12 with (first
    | (go_at_call 19; have n311_0 : InsAt w2 (some ⟨p9, o9, none⟩) l1 := (Sta.t (i := 1) HS2 rfl :).1; have n311_1 : LabAt w2 da ls := (Sta.t (i := 1) HS2 rfl :).2; have n311_2 : ls.length = dm ∧ dm ≤ 100 := (And.intro Hp1.out.2.2.2.1 Hp1.out.2.2.2.2.1); have n311_3 : l1.length = pn ∧ pn ≤ 100 ∧ (∀ x ∈ l1, x.w) := (And.intro Hp1.out.1 (And.intro Hp1.out.2.1 Hp1.out.2.2.1)); (with_reducible refine (hC38 w2 pn pc l1 da dm de ls p9 o9 n311_0 n311_1 n311_2 n311_3 HA.out).mono ?_); rintro r w311 ⟨rfl, hB311⟩; have HS311 := Sta.call HS2 hB311; clear hB311)
    | (go_at_call 19; have n312_0 : InsAt w311 (some ⟨q9, r9, none⟩) l2 := (Sta.t (i := 0) HS311 rfl :).1; have n312_1 : LabAt w311 da ls := (Sta.t (i := 1) HS311 rfl :).2; have n312_2 : ls.length = dm ∧ dm ≤ 100 := (And.intro Hp1.out.2.2.2.1 Hp1.out.2.2.2.2.1); have n312_3 : l2.length = qn ∧ qn ≤ 100 ∧ (∀ x ∈ l2, x.w) := (And.intro Hp2.out.1 (And.intro Hp2.out.2.1 Hp2.out.2.2.1)); (with_reducible refine (hC26 w311 da dm de ls qn qc l2 q9 r9 n312_0 n312_1 n312_2 n312_3 HB.out).mono ?_); rintro r w312 ⟨rfl, hB312⟩; have HS312 := Sta.call HS311 hB312; clear hB312)
    | (go_at_call 17; have n313_0 : InsAt w312 (some ⟨p9, o9, none⟩) l1 := (Sta.t (i := 1) HS312 rfl :).1; have n313_1 : LabAt w312 da ls := (Sta.t (i := 1) HS312 rfl :).2; have n313_2 : ls.length = dm ∧ dm ≤ 100 := (And.intro Hp1.out.2.2.2.1 Hp1.out.2.2.2.2.1); have n313_3 : l1.length = pn ∧ pn ≤ 100 ∧ (∀ x ∈ l1, x.w) := (And.intro Hp1.out.1 (And.intro Hp1.out.2.1 Hp1.out.2.2.1)); (with_reducible refine (hC39 w312 pn pc l1 da dm de ls p9 o9 n313_0 n313_1 n313_2 n313_3 HA.out).mono ?_); rintro r w313 ⟨rfl, hB313⟩; have HS313 := Sta.call HS312 hB313; clear hB313)
    | (go_at_call 12; have n314_0 : InsAt w313 (some ⟨p9, o9, none⟩) l1 := (Sta.t (i := 1) HS313 rfl :).1; have n314_1 : l1.length = pn ∧ pn ≤ 100 ∧ (∀ x ∈ l1, x.w) := (And.intro Hp1.out.1 (And.intro Hp1.out.2.1 Hp1.out.2.2.1)); have n314_2 : nodeN l1 = some y1 := (HY.out.r1); (with_reducible refine (hC13 w313 pn pc l1 y1 p9 o9 n314_0 n314_1 n314_2).mono ?_); rintro r w314 ⟨rfl, hB314⟩; have HS314 := Sta.call HS313 hB314; clear hB314)
    | (go_at_call 12; have n315_0 : InsAt w314 (some ⟨q9, r9, none⟩) l2 := (Sta.t (i := 0) HS314 rfl :).1; have n315_1 : l2.length = qn ∧ qn ≤ 100 ∧ (∀ x ∈ l2, x.w) := (And.intro Hp2.out.1 (And.intro Hp2.out.2.1 Hp2.out.2.2.1)); have n315_2 : nodeN l2 = some y2 := (HY.out.r2); (with_reducible refine (hC14 w314 qn qc l2 y2 q9 r9 n315_0 n315_1 n315_2).mono ?_); rintro r w315 ⟨rfl, hB315⟩; have HS315 := Sta.call HS314 hB315; clear hB315)
    | ((with_reducible refine wpList_allocV (w := w315) (by with_unfolding_all rfl) 41 (by with_unfolding_all rfl) [.int .i64 0, .string ⟨#[]⟩, .string ⟨#[]⟩] Try.zT_implIns ?_); intro w316 hA316 hB316 hS316; clear hS316; have HS316 := Sta.new HS315 hA316 hB316 (by simp); clear hA316 hB316)
    | ((with_reducible refine wpList_storeS (w := w316) (by with_unfolding_all rfl) 41 (.tmp 11) (.tmp 65) (by with_unfolding_all rfl) w315.heap.size [.int .i64 0, .string ⟨#[]⟩, .string ⟨#[]⟩] [.int .i64 3, .string ⟨#[]⟩, .string ⟨#[]⟩] (by with_unfolding_all rfl) (by with_unfolding_all rfl) (Sta.r (i := 0) HS316 (by with_unfolding_all rfl)) 3 Try.sT_implIns (by with_unfolding_all rfl) (by with_unfolding_all rfl) (by with_unfolding_all rfl) ?_); intro w317 hA317 hO317; have HS317 := Sta.put 0 HS316 rfl hA317 (by simp) hO317; clear hA317 hO317))
  · skip
    have HS319 : Hid (Sta [] w [(w315.heap.size, [.int .i64 3, .string ⟨#[]⟩, .string ⟨#[]⟩])] [⟨fun k => (Value.slice none 0 0).ownBlock = some k, fun w' => InsO w' w.heap.size (.slice none 0 0) ([])⟩, ⟨fun k => w1.heap.size ≤ k ∧ k < w2.heap.size, fun w2 => InsAt w2 (some ⟨q9, r9, none⟩) l2 ∧ LabAt w2 ea es⟩, ⟨fun k => w.heap.size ≤ k ∧ k < w1.heap.size, fun w2 => InsAt w2 (some ⟨p9, o9, none⟩) l1 ∧ LabAt w2 da ls⟩, ⟨fun k => k < w.heap.size, fun w' => Bytes w' a1 n1 ∧ Bytes w' a2 n2⟩] w317) := Sta.own0 w.heap.size 41 3 HS317
    have hO320 := World.ownsRow_made (base := w.heap.size) (size := 3) (e := 41) w317 #[] 0 (Sta.size HS319) (by decide) (by simp)
    have hG320 := World.grownBy_alloc w317 (.cells #[] 41) (Value.slice none 0 0).ownBlock
    have HS320 := Sta.app 0 HS319 rfl (Nat.le_refl _) hO320 hG320 (Or.inr rfl)
    clear hO320 hG320
    go_wp2_with (first
      | ((with_reducible refine wpList_appendInsM (W := (w317.alloc (.cells #[] 41))) (by with_unfolding_all rfl) (.tmp 66) (.tmp 67) (by with_unfolding_all rfl) w.heap.size (.slice (some ⟨w317.heap.size, 0, none⟩) 0 0) ([]) p9 o9 pn pc l1 (by with_unfolding_all rfl) (Sta.t (i := 0) HS320 rfl) (by with_unfolding_all rfl) Hp1.out.1 (Sta.t (i := 2) HS320 rfl :).1 (by have hx := Hp1.out.1; have h1 := HY.out.len; have h2 := Hp1.out.1; have h3 := Hp2.out.1; simp only [List.length_append, List.length_cons, List.length_nil] at *; omega) (Sta.size HS320) ?_); intro v321 w321 hO321 hG321 hb321; obtain ⟨a321, m321, c321, hm321, rfl⟩ := InsO.formS hO321 (app_ne HN1.out); have HS321 := Sta.app 0 HS320 rfl (Nat.le_refl _) hO321 hG321 hb321; have Hm321 := hidP hm321; clear hO321 hG321 hb321 hm321)
      | ((with_reducible refine wpList_appendInsM (W := w321) (by with_unfolding_all rfl) (.tmp 68) (.tmp 69) (by with_unfolding_all rfl) w.heap.size (.slice (some ⟨a321, 0, none⟩) m321 c321) l1 q9 r9 qn qc l2 (by with_unfolding_all rfl) (Sta.t (i := 0) HS321 rfl) (by with_unfolding_all rfl) Hp2.out.1 (Sta.t (i := 1) HS321 rfl :).1 (by have hx := Hp2.out.1; have h1 := HY.out.len; have h2 := Hp1.out.1; have h3 := Hp2.out.1; simp only [List.length_append, List.length_cons, List.length_nil] at *; omega) (Sta.size HS321) ?_); intro v322 w322 hO322 hG322 hb322; obtain ⟨a322, m322, c322, hm322, rfl⟩ := InsO.formS hO322 (app_ne HN2.out); have HS322 := Sta.app 0 HS321 rfl (Nat.le_refl _) hO322 hG322 hb322; have Hm322 := hidP hm322; clear hO322 hG322 hb322 hm322))
    have HS323 : Hid (Sta [] w [(w315.heap.size, [.int .i64 3, .string ⟨#[]⟩, .string ⟨#[]⟩])] [⟨fun k => (Value.slice none 0 0).ownBlock = some k, fun w' => InsO w' w.heap.size (.slice none 0 0) ([])⟩, ⟨fun k => (Value.slice (some ⟨a322, 0, none⟩) m322 c322).ownBlock = some k, fun w' => InsO w' w.heap.size (.slice (some ⟨a322, 0, none⟩) m322 c322) (l1 ++ l2)⟩, ⟨fun k => w1.heap.size ≤ k ∧ k < w2.heap.size, fun w2 => InsAt w2 (some ⟨q9, r9, none⟩) l2 ∧ LabAt w2 ea es⟩, ⟨fun k => w.heap.size ≤ k ∧ k < w1.heap.size, fun w2 => InsAt w2 (some ⟨p9, o9, none⟩) l1 ∧ LabAt w2 da ls⟩, ⟨fun k => k < w.heap.size, fun w' => Bytes w' a1 n1 ∧ Bytes w' a2 n2⟩] w322) := Sta.own0 w.heap.size 41 3 HS322
    try simp only [Act.put, List.setIfInBounds_toArray, List.set_cons_zero, List.set_cons_succ]
    go_cut [13] (fun v0 wx => v0 = .bool false ∧ Hid (Sta [] w [(w315.heap.size, [.int .i64 3, .string ⟨#[]⟩, .string ⟨#[]⟩])] [⟨fun k => (Value.slice (some ⟨a322, 0, none⟩) m322 c322).ownBlock = some k, fun w' => InsO w' w.heap.size (.slice (some ⟨a322, 0, none⟩) m322 c322) (l1 ++ l2)⟩, ⟨fun k => w1.heap.size ≤ k ∧ k < w2.heap.size, fun w2 => InsAt w2 (some ⟨q9, r9, none⟩) l2 ∧ LabAt w2 ea es⟩, ⟨fun k => w.heap.size ≤ k ∧ k < w1.heap.size, fun w2 => InsAt w2 (some ⟨p9, o9, none⟩) l1 ∧ LabAt w2 da ls⟩, ⟨fun k => k < w.heap.size, fun w' => Bytes w' a1 n1 ∧ Bytes w' a2 n2⟩] wx))
    case first =>
      go_wp2_with fail
      have HS324 := Sta.drew HS323
      refine wp_region_held_drew (S := fun w' => w'.cell? ⟨w315.heap.size, 0, none⟩ = some (.int .i64 3) ∧ w'.cell? ⟨w315.heap.size, 1, none⟩ = some (.string ⟨#[]⟩) ∧ w'.cell? ⟨w315.heap.size, 2, none⟩ = some (.string ⟨#[]⟩)) (by kernel_rfl) ⟨Sta.c (i := 0) HS324 rfl rfl, Sta.c (i := 0) HS324 rfl rfl, Sta.c (i := 0) HS324 rfl rfl⟩ (fun hHeld => ?_)
      generalize w322.drew = w324 at *
      refine wpAnyH_take (i := 1) (oi := ⟨_, _, _, _, _, _⟩) (v := .slice (some ⟨a322, 0, none⟩) m322 c322) rfl (by kernel_rfl) (by kernel_rfl) (by kernel_rfl) (fun _ _ _ h => h) (Or.inl ⟨wanted_free rfl, fun w' hSw => ?_⟩) hHeld ?_
      · go_simp
      try simp only [Act.put, List.setIfInBounds_toArray, List.set_cons_zero, List.set_cons_succ]
      refine wpAnyH_take (i := 3) (oi := ⟨_, _, _, _, _, _⟩) (v := .agg #[.int .i64 4, .string ⟨#[]⟩, .string ⟨#[]⟩]) rfl (by kernel_rfl) (by kernel_rfl) (by kernel_rfl) (fun _ _ _ h => h) (Or.inl ⟨wanted_free rfl, fun w' hSw => ?_⟩) hHeld ?_
      · go_simp
      try simp only [Act.put, List.setIfInBounds_toArray, List.set_cons_zero, List.set_cons_succ]
      refine wpAnyH_take (i := 4) (oi := ⟨_, _, _, _, _, _⟩) (v := .agg #[.int .i64 3, .string ⟨#[]⟩, .string ⟨#[]⟩]) rfl (by kernel_rfl) (by kernel_rfl) (by kernel_rfl) (fun _ _ _ h => h) (Or.inl ⟨wanted_free rfl, fun w' hSw => ?_⟩) hHeld ?_
      · obtain ⟨s0, s1, s2⟩ := hSw
        go_simp
      try simp only [Act.put, List.setIfInBounds_toArray, List.set_cons_zero, List.set_cons_succ]
      refine wpAnyH_take (i := 7) (oi := ⟨_, _, _, _, _, _⟩) (v := .slice da dm de) rfl (by kernel_rfl) (by kernel_rfl) (by kernel_rfl) (fun _ _ _ h => h) (Or.inl ⟨wanted_free rfl, fun w' hSw => ?_⟩) hHeld ?_
      · go_simp
      try simp only [Act.put, List.setIfInBounds_toArray, List.set_cons_zero, List.set_cons_succ]
      refine wpAnyH_ready (rs := [0, 5]) (by kernel_rfl) (by simp) (AllReadyH.cons (o := ⟨_, _, _, _, _, _⟩) rfl (fun K hK => ?_) (AllReadyH.cons (o := ⟨_, _, _, _, _, _⟩) rfl (fun K hK => ?_) AllReadyH.nil))
      · as_aux_lemma =>
        rewrite [if_pos (wanted_free rfl)]
        with_reducible refine wp_buildIns0 (by with_unfolding_all rfl) w.heap.size (Sta.size HS324) ?_
        intro w325 hO325 hG325
        have HS325 := Sta.app 0 HS324 rfl (Nat.le_refl _) hO325 hG325 (Or.inr rfl)
        clear hO325 hG325
        refine hK.out _ _ ⟨Sta.c (i := 0) HS325 rfl rfl, Sta.c (i := 0) HS325 rfl rfl, Sta.c (i := 0) HS325 rfl rfl⟩ (fun hHeld => ?_)
        clear hK K
        try simp only [Act.put, List.setIfInBounds_toArray, List.set_cons_zero, List.set_cons_succ]
        refine wpAnyH_ready (rs := [2, 5]) (by kernel_rfl) (by simp) (AllReadyH.cons (o := ⟨_, _, _, _, _, _⟩) rfl (fun K hK => ?_) (AllReadyH.cons (o := ⟨_, _, _, _, _, _⟩) rfl (fun K hK => ?_) AllReadyH.nil))
        · as_aux_lemma =>
          rewrite [if_pos (wanted_free rfl)]
          with_reducible refine wp_appendInsM (W := w325) (.tmp 71) (.tmp 72) (by with_unfolding_all rfl) w.heap.size (.slice (some ⟨w324.heap.size, 0, none⟩) 0 0) ([]) a322 0 m322 c322 (l1 ++ l2) (by with_unfolding_all rfl) (Sta.t (i := 0) HS325 rfl) (by with_unfolding_all rfl) Hm322.out (InsO.row (Sta.t (i := 1) HS325 rfl)).1.ins (by have hx := Hm322.out; have h1 := HY.out.len; have h2 := Hp1.out.1; have h3 := Hp2.out.1; simp only [List.length_append, List.length_cons, List.length_nil] at *; omega) (Sta.size HS325) ?_
          intro v326 w326 hO326 hG326 hb326
          obtain ⟨a326, m326, c326, hm326, rfl⟩ := InsO.formS hO326 (app_ne (app_ne HN2.out))
          have HS326 := Sta.app 0 HS325 rfl (Nat.le_refl _) hO326 hG326 hb326
          have Hm326 := hidP hm326
          clear hO326 hG326 hb326 hm326
          refine hK.out _ _ ⟨Sta.c (i := 0) HS326 rfl rfl, Sta.c (i := 0) HS326 rfl rfl, Sta.c (i := 0) HS326 rfl rfl⟩ (fun hHeld => ?_)
          clear hK K
          try simp only [Act.put, List.setIfInBounds_toArray, List.set_cons_zero, List.set_cons_succ]
          refine wpAnyH_ready (rs := [5]) (by kernel_rfl) (by simp) (AllReadyH.cons (o := ⟨_, _, _, _, _, _⟩) rfl (fun K hK => ?_) AllReadyH.nil)
          rewrite [if_pos (wanted_free rfl)]
          with_reducible refine wp_buildIns2 (.tmp 74) (.tmp 75) (by with_unfolding_all rfl) 4 (⟨#[]⟩) (⟨#[]⟩) 3 (⟨#[]⟩) (⟨#[]⟩) (by with_unfolding_all rfl) (by with_unfolding_all rfl) ?_
          intro w327 hA327 hB327
          have HS327 := Sta.new HS326 hA327 hB327 (by simp)
          clear hA327 hB327
          refine hK.out _ _ ⟨Sta.c (i := 1) HS327 rfl rfl, Sta.c (i := 1) HS327 rfl rfl, Sta.c (i := 1) HS327 rfl rfl⟩ (fun hHeld => ?_)
          clear hK K
          try simp only [Act.put, List.setIfInBounds_toArray, List.set_cons_zero, List.set_cons_succ]
          refine wpAnyH_ready (rs := [6]) (by kernel_rfl) (by simp) (AllReadyH.cons (o := ⟨_, _, _, _, _, _⟩) rfl (fun K hK => ?_) AllReadyH.nil)
          rewrite [if_pos (wanted_free rfl)]
          with_reducible refine wp_appendInsM (W := w327) (.tmp 73) (.tmp 76) (by with_unfolding_all rfl) w.heap.size (.slice (some ⟨a326, 0, none⟩) m326 c326) (l1 ++ l2) w326.heap.size 0 2 2 ([⟨4, ⟨#[]⟩, ⟨#[]⟩⟩, ⟨3, ⟨#[]⟩, ⟨#[]⟩⟩] : List InsV) (by with_unfolding_all rfl) (Sta.t (i := 0) HS327 rfl) (by with_unfolding_all rfl) rfl (RowV.ins (l := [⟨4, ⟨#[]⟩, ⟨#[]⟩⟩, ⟨3, ⟨#[]⟩, ⟨#[]⟩⟩]) (Sta.r (i := 0) HS327 (by with_unfolding_all rfl))) (by have hx := True.intro; have h1 := HY.out.len; have h2 := Hp1.out.1; have h3 := Hp2.out.1; simp only [List.length_append, List.length_cons, List.length_nil] at *; omega) (Sta.size HS327) ?_
          intro v328 w328 hO328 hG328 hb328
          obtain ⟨a328, m328, c328, hm328, rfl⟩ := InsO.formS hO328 (app_ne (by simp))
          have HS328 := Sta.app 0 HS327 rfl (Nat.le_refl _) hO328 hG328 hb328
          have Hm328 := hidP hm328
          clear hO328 hG328 hb328 hm328
          refine hK.out _ _ ⟨Sta.c (i := 1) HS328 rfl rfl, Sta.c (i := 1) HS328 rfl rfl, Sta.c (i := 1) HS328 rfl rfl⟩ (fun hHeld => ?_)
          clear hK K
          try simp only [Act.put, List.setIfInBounds_toArray, List.set_cons_zero, List.set_cons_succ]
          refine wpAnyH_ready (rs := [8]) (by kernel_rfl) (by simp) (AllReadyH.cons (o := ⟨_, _, _, _, _, _⟩) rfl (fun K hK => ?_) AllReadyH.nil)
          rewrite [if_pos (wanted_free rfl)]
          go_simp
          have n329_0 : InsAt w328 (some ⟨a328, 0, none⟩) ((l1 ++ l2) ++ ([⟨4, ⟨#[]⟩, ⟨#[]⟩⟩, ⟨3, ⟨#[]⟩, ⟨#[]⟩⟩] : List InsV)) := (InsO.row (Sta.t (i := 0) HS328 rfl)).1.ins
          have n329_1 : LabAt w328 da ls := (Sta.t (i := 3) HS328 rfl :).2
          have n329_2 : ls.length = dm ∧ dm ≤ 100 := (And.intro Hp1.out.2.2.2.1 Hp1.out.2.2.2.2.1)
          have n329_3 : ((l1 ++ l2) ++ ([⟨4, ⟨#[]⟩, ⟨#[]⟩⟩, ⟨3, ⟨#[]⟩, ⟨#[]⟩⟩] : List InsV)).length = m328 ∧ m328 ≤ 100 ∧ (∀ x ∈ ((l1 ++ l2) ++ ([⟨4, ⟨#[]⟩, ⟨#[]⟩⟩, ⟨3, ⟨#[]⟩, ⟨#[]⟩⟩] : List InsV)), x.w) := (len_w Hm328.out (by have h1 := HY.out.len; simp; omega) (w_app (w_app Hp1.out.2.2.1 Hp2.out.2.2.1) (w_two w_4 w_3)))
          have n329_4 : evalN ((l1 ++ l2) ++ ([⟨4, ⟨#[]⟩, ⟨#[]⟩⟩, ⟨3, ⟨#[]⟩, ⟨#[]⟩⟩] : List InsV)) ls = false := (HY.out.x)
          (with_reducible refine (hC51 w328 l1 da dm de ls l2 a328 m328 c328 n329_0 n329_1 n329_2 n329_3 n329_4).mono ?_)
          rintro r w329 ⟨rfl, hB329⟩
          have HS329 := Sta.call HS328 hB329
          clear hB329
          go_wp2_with fail
          refine hK.out _ _ ⟨Sta.c (i := 1) HS329 rfl rfl, Sta.c (i := 1) HS329 rfl rfl, Sta.c (i := 1) HS329 rfl rfl⟩ (fun hHeld => ?_)
          clear hK K
          try simp only [Act.put, List.setIfInBounds_toArray, List.set_cons_zero, List.set_cons_succ]
          refine wpAnyH_take (i := 9) (oi := ⟨_, _, _, _, _, _⟩) (v := .bool false) rfl (by kernel_rfl) (by kernel_rfl) (by kernel_rfl) (fun _ _ _ h => h) (Or.inl ⟨wanted_free rfl, fun w' hSw => ?_⟩) hHeld ?_
          · go_simp
          try simp only [Act.put, List.setIfInBounds_toArray, List.set_cons_zero, List.set_cons_succ]
          refine wpAnyH_done (by kernel_rfl) ?_ _
          clear hHeld
          go_wp2_with fail
          go_meet
          exact ⟨rfl, Sta.drop 1 1 HS329⟩
        · as_aux_lemma =>
          rewrite [if_pos (wanted_free rfl)]
          with_reducible refine wp_buildIns2 (.tmp 74) (.tmp 75) (by with_unfolding_all rfl) 4 (⟨#[]⟩) (⟨#[]⟩) 3 (⟨#[]⟩) (⟨#[]⟩) (by with_unfolding_all rfl) (by with_unfolding_all rfl) ?_
          intro w330 hA330 hB330
          have HS330 := Sta.new HS325 hA330 hB330 (by simp)
          clear hA330 hB330
          refine hK.out _ _ ⟨Sta.c (i := 1) HS330 rfl rfl, Sta.c (i := 1) HS330 rfl rfl, Sta.c (i := 1) HS330 rfl rfl⟩ (fun hHeld => ?_)
          clear hK K
          try simp only [Act.put, List.setIfInBounds_toArray, List.set_cons_zero, List.set_cons_succ]
          refine wpAnyH_ready (rs := [2]) (by kernel_rfl) (by simp) (AllReadyH.cons (o := ⟨_, _, _, _, _, _⟩) rfl (fun K hK => ?_) AllReadyH.nil)
          rewrite [if_pos (wanted_free rfl)]
          with_reducible refine wp_appendInsM (W := w330) (.tmp 71) (.tmp 72) (by with_unfolding_all rfl) w.heap.size (.slice (some ⟨w324.heap.size, 0, none⟩) 0 0) ([]) a322 0 m322 c322 (l1 ++ l2) (by with_unfolding_all rfl) (Sta.t (i := 0) HS330 rfl) (by with_unfolding_all rfl) Hm322.out (InsO.row (Sta.t (i := 1) HS330 rfl)).1.ins (by have hx := Hm322.out; have h1 := HY.out.len; have h2 := Hp1.out.1; have h3 := Hp2.out.1; simp only [List.length_append, List.length_cons, List.length_nil] at *; omega) (Sta.size HS330) ?_
          intro v331 w331 hO331 hG331 hb331
          obtain ⟨a331, m331, c331, hm331, rfl⟩ := InsO.formS hO331 (app_ne (app_ne HN2.out))
          have HS331 := Sta.app 0 HS330 rfl (Nat.le_refl _) hO331 hG331 hb331
          have Hm331 := hidP hm331
          clear hO331 hG331 hb331 hm331
          refine hK.out _ _ ⟨Sta.c (i := 1) HS331 rfl rfl, Sta.c (i := 1) HS331 rfl rfl, Sta.c (i := 1) HS331 rfl rfl⟩ (fun hHeld => ?_)
          clear hK K
          try simp only [Act.put, List.setIfInBounds_toArray, List.set_cons_zero, List.set_cons_succ]
          refine wpAnyH_ready (rs := [6]) (by kernel_rfl) (by simp) (AllReadyH.cons (o := ⟨_, _, _, _, _, _⟩) rfl (fun K hK => ?_) AllReadyH.nil)
          rewrite [if_pos (wanted_free rfl)]
          with_reducible refine wp_appendInsM (W := w331) (.tmp 73) (.tmp 76) (by with_unfolding_all rfl) w.heap.size (.slice (some ⟨a331, 0, none⟩) m331 c331) (l1 ++ l2) w325.heap.size 0 2 2 ([⟨4, ⟨#[]⟩, ⟨#[]⟩⟩, ⟨3, ⟨#[]⟩, ⟨#[]⟩⟩] : List InsV) (by with_unfolding_all rfl) (Sta.t (i := 0) HS331 rfl) (by with_unfolding_all rfl) rfl (RowV.ins (l := [⟨4, ⟨#[]⟩, ⟨#[]⟩⟩, ⟨3, ⟨#[]⟩, ⟨#[]⟩⟩]) (Sta.r (i := 0) HS331 (by with_unfolding_all rfl))) (by have hx := True.intro; have h1 := HY.out.len; have h2 := Hp1.out.1; have h3 := Hp2.out.1; simp only [List.length_append, List.length_cons, List.length_nil] at *; omega) (Sta.size HS331) ?_
          intro v332 w332 hO332 hG332 hb332
          obtain ⟨a332, m332, c332, hm332, rfl⟩ := InsO.formS hO332 (app_ne (by simp))
          have HS332 := Sta.app 0 HS331 rfl (Nat.le_refl _) hO332 hG332 hb332
          have Hm332 := hidP hm332
          clear hO332 hG332 hb332 hm332
          refine hK.out _ _ ⟨Sta.c (i := 1) HS332 rfl rfl, Sta.c (i := 1) HS332 rfl rfl, Sta.c (i := 1) HS332 rfl rfl⟩ (fun hHeld => ?_)
          clear hK K
          try simp only [Act.put, List.setIfInBounds_toArray, List.set_cons_zero, List.set_cons_succ]
          refine wpAnyH_ready (rs := [8]) (by kernel_rfl) (by simp) (AllReadyH.cons (o := ⟨_, _, _, _, _, _⟩) rfl (fun K hK => ?_) AllReadyH.nil)
          rewrite [if_pos (wanted_free rfl)]
          go_simp
          have n333_0 : InsAt w332 (some ⟨a332, 0, none⟩) ((l1 ++ l2) ++ ([⟨4, ⟨#[]⟩, ⟨#[]⟩⟩, ⟨3, ⟨#[]⟩, ⟨#[]⟩⟩] : List InsV)) := (InsO.row (Sta.t (i := 0) HS332 rfl)).1.ins
          have n333_1 : LabAt w332 da ls := (Sta.t (i := 3) HS332 rfl :).2
          have n333_2 : ls.length = dm ∧ dm ≤ 100 := (And.intro Hp1.out.2.2.2.1 Hp1.out.2.2.2.2.1)
          have n333_3 : ((l1 ++ l2) ++ ([⟨4, ⟨#[]⟩, ⟨#[]⟩⟩, ⟨3, ⟨#[]⟩, ⟨#[]⟩⟩] : List InsV)).length = m332 ∧ m332 ≤ 100 ∧ (∀ x ∈ ((l1 ++ l2) ++ ([⟨4, ⟨#[]⟩, ⟨#[]⟩⟩, ⟨3, ⟨#[]⟩, ⟨#[]⟩⟩] : List InsV)), x.w) := (len_w Hm332.out (by have h1 := HY.out.len; simp; omega) (w_app (w_app Hp1.out.2.2.1 Hp2.out.2.2.1) (w_two w_4 w_3)))
          have n333_4 : evalN ((l1 ++ l2) ++ ([⟨4, ⟨#[]⟩, ⟨#[]⟩⟩, ⟨3, ⟨#[]⟩, ⟨#[]⟩⟩] : List InsV)) ls = false := (HY.out.x)
          (with_reducible refine (hC52 w332 l1 da dm de ls l2 a332 m332 c332 n333_0 n333_1 n333_2 n333_3 n333_4).mono ?_)
          rintro r w333 ⟨rfl, hB333⟩
          have HS333 := Sta.call HS332 hB333
          clear hB333
          go_wp2_with fail
          refine hK.out _ _ ⟨Sta.c (i := 1) HS333 rfl rfl, Sta.c (i := 1) HS333 rfl rfl, Sta.c (i := 1) HS333 rfl rfl⟩ (fun hHeld => ?_)
          clear hK K
          try simp only [Act.put, List.setIfInBounds_toArray, List.set_cons_zero, List.set_cons_succ]
          refine wpAnyH_take (i := 9) (oi := ⟨_, _, _, _, _, _⟩) (v := .bool false) rfl (by kernel_rfl) (by kernel_rfl) (by kernel_rfl) (fun _ _ _ h => h) (Or.inl ⟨wanted_free rfl, fun w' hSw => ?_⟩) hHeld ?_
          · go_simp
          try simp only [Act.put, List.setIfInBounds_toArray, List.set_cons_zero, List.set_cons_succ]
          refine wpAnyH_done (by kernel_rfl) ?_ _
          clear hHeld
          go_wp2_with fail
          go_meet
          exact ⟨rfl, Sta.drop 1 1 HS333⟩
      · as_aux_lemma =>
        rewrite [if_pos (wanted_free rfl)]
        with_reducible refine wp_buildIns2 (.tmp 74) (.tmp 75) (by with_unfolding_all rfl) 4 (⟨#[]⟩) (⟨#[]⟩) 3 (⟨#[]⟩) (⟨#[]⟩) (by with_unfolding_all rfl) (by with_unfolding_all rfl) ?_
        intro w334 hA334 hB334
        have HS334 := Sta.new HS324 hA334 hB334 (by simp)
        clear hA334 hB334
        refine hK.out _ _ ⟨Sta.c (i := 1) HS334 rfl rfl, Sta.c (i := 1) HS334 rfl rfl, Sta.c (i := 1) HS334 rfl rfl⟩ (fun hHeld => ?_)
        clear hK K
        try simp only [Act.put, List.setIfInBounds_toArray, List.set_cons_zero, List.set_cons_succ]
        refine wpAnyH_ready (rs := [0]) (by kernel_rfl) (by simp) (AllReadyH.cons (o := ⟨_, _, _, _, _, _⟩) rfl (fun K hK => ?_) AllReadyH.nil)
        rewrite [if_pos (wanted_free rfl)]
        with_reducible refine wp_buildIns0 (by with_unfolding_all rfl) w.heap.size (Sta.size HS334) ?_
        intro w335 hO335 hG335
        have HS335 := Sta.app 0 HS334 rfl (Nat.le_refl _) hO335 hG335 (Or.inr rfl)
        clear hO335 hG335
        refine hK.out _ _ ⟨Sta.c (i := 1) HS335 rfl rfl, Sta.c (i := 1) HS335 rfl rfl, Sta.c (i := 1) HS335 rfl rfl⟩ (fun hHeld => ?_)
        clear hK K
        try simp only [Act.put, List.setIfInBounds_toArray, List.set_cons_zero, List.set_cons_succ]
        refine wpAnyH_ready (rs := [2]) (by kernel_rfl) (by simp) (AllReadyH.cons (o := ⟨_, _, _, _, _, _⟩) rfl (fun K hK => ?_) AllReadyH.nil)
        rewrite [if_pos (wanted_free rfl)]
        with_reducible refine wp_appendInsM (W := w335) (.tmp 71) (.tmp 72) (by with_unfolding_all rfl) w.heap.size (.slice (some ⟨w334.heap.size, 0, none⟩) 0 0) ([]) a322 0 m322 c322 (l1 ++ l2) (by with_unfolding_all rfl) (Sta.t (i := 0) HS335 rfl) (by with_unfolding_all rfl) Hm322.out (InsO.row (Sta.t (i := 1) HS335 rfl)).1.ins (by have hx := Hm322.out; have h1 := HY.out.len; have h2 := Hp1.out.1; have h3 := Hp2.out.1; simp only [List.length_append, List.length_cons, List.length_nil] at *; omega) (Sta.size HS335) ?_
        intro v336 w336 hO336 hG336 hb336
        obtain ⟨a336, m336, c336, hm336, rfl⟩ := InsO.formS hO336 (app_ne (app_ne HN2.out))
        have HS336 := Sta.app 0 HS335 rfl (Nat.le_refl _) hO336 hG336 hb336
        have Hm336 := hidP hm336
        clear hO336 hG336 hb336 hm336
        refine hK.out _ _ ⟨Sta.c (i := 1) HS336 rfl rfl, Sta.c (i := 1) HS336 rfl rfl, Sta.c (i := 1) HS336 rfl rfl⟩ (fun hHeld => ?_)
        clear hK K
        try simp only [Act.put, List.setIfInBounds_toArray, List.set_cons_zero, List.set_cons_succ]
        refine wpAnyH_ready (rs := [6]) (by kernel_rfl) (by simp) (AllReadyH.cons (o := ⟨_, _, _, _, _, _⟩) rfl (fun K hK => ?_) AllReadyH.nil)
        rewrite [if_pos (wanted_free rfl)]
        with_reducible refine wp_appendInsM (W := w336) (.tmp 73) (.tmp 76) (by with_unfolding_all rfl) w.heap.size (.slice (some ⟨a336, 0, none⟩) m336 c336) (l1 ++ l2) w324.heap.size 0 2 2 ([⟨4, ⟨#[]⟩, ⟨#[]⟩⟩, ⟨3, ⟨#[]⟩, ⟨#[]⟩⟩] : List InsV) (by with_unfolding_all rfl) (Sta.t (i := 0) HS336 rfl) (by with_unfolding_all rfl) rfl (RowV.ins (l := [⟨4, ⟨#[]⟩, ⟨#[]⟩⟩, ⟨3, ⟨#[]⟩, ⟨#[]⟩⟩]) (Sta.r (i := 0) HS336 (by with_unfolding_all rfl))) (by have hx := True.intro; have h1 := HY.out.len; have h2 := Hp1.out.1; have h3 := Hp2.out.1; simp only [List.length_append, List.length_cons, List.length_nil] at *; omega) (Sta.size HS336) ?_
        intro v337 w337 hO337 hG337 hb337
        obtain ⟨a337, m337, c337, hm337, rfl⟩ := InsO.formS hO337 (app_ne (by simp))
        have HS337 := Sta.app 0 HS336 rfl (Nat.le_refl _) hO337 hG337 hb337
        have Hm337 := hidP hm337
        clear hO337 hG337 hb337 hm337
        refine hK.out _ _ ⟨Sta.c (i := 1) HS337 rfl rfl, Sta.c (i := 1) HS337 rfl rfl, Sta.c (i := 1) HS337 rfl rfl⟩ (fun hHeld => ?_)
        clear hK K
        try simp only [Act.put, List.setIfInBounds_toArray, List.set_cons_zero, List.set_cons_succ]
        refine wpAnyH_ready (rs := [8]) (by kernel_rfl) (by simp) (AllReadyH.cons (o := ⟨_, _, _, _, _, _⟩) rfl (fun K hK => ?_) AllReadyH.nil)
        rewrite [if_pos (wanted_free rfl)]
        go_simp
        have n338_0 : InsAt w337 (some ⟨a337, 0, none⟩) ((l1 ++ l2) ++ ([⟨4, ⟨#[]⟩, ⟨#[]⟩⟩, ⟨3, ⟨#[]⟩, ⟨#[]⟩⟩] : List InsV)) := (InsO.row (Sta.t (i := 0) HS337 rfl)).1.ins
        have n338_1 : LabAt w337 da ls := (Sta.t (i := 3) HS337 rfl :).2
        have n338_2 : ls.length = dm ∧ dm ≤ 100 := (And.intro Hp1.out.2.2.2.1 Hp1.out.2.2.2.2.1)
        have n338_3 : ((l1 ++ l2) ++ ([⟨4, ⟨#[]⟩, ⟨#[]⟩⟩, ⟨3, ⟨#[]⟩, ⟨#[]⟩⟩] : List InsV)).length = m337 ∧ m337 ≤ 100 ∧ (∀ x ∈ ((l1 ++ l2) ++ ([⟨4, ⟨#[]⟩, ⟨#[]⟩⟩, ⟨3, ⟨#[]⟩, ⟨#[]⟩⟩] : List InsV)), x.w) := (len_w Hm337.out (by have h1 := HY.out.len; simp; omega) (w_app (w_app Hp1.out.2.2.1 Hp2.out.2.2.1) (w_two w_4 w_3)))
        have n338_4 : evalN ((l1 ++ l2) ++ ([⟨4, ⟨#[]⟩, ⟨#[]⟩⟩, ⟨3, ⟨#[]⟩, ⟨#[]⟩⟩] : List InsV)) ls = false := (HY.out.x)
        (with_reducible refine (hC53 w337 l1 da dm de ls l2 a337 m337 c337 n338_0 n338_1 n338_2 n338_3 n338_4).mono ?_)
        rintro r w338 ⟨rfl, hB338⟩
        have HS338 := Sta.call HS337 hB338
        clear hB338
        go_wp2_with fail
        refine hK.out _ _ ⟨Sta.c (i := 1) HS338 rfl rfl, Sta.c (i := 1) HS338 rfl rfl, Sta.c (i := 1) HS338 rfl rfl⟩ (fun hHeld => ?_)
        clear hK K
        try simp only [Act.put, List.setIfInBounds_toArray, List.set_cons_zero, List.set_cons_succ]
        refine wpAnyH_take (i := 9) (oi := ⟨_, _, _, _, _, _⟩) (v := .bool false) rfl (by kernel_rfl) (by kernel_rfl) (by kernel_rfl) (fun _ _ _ h => h) (Or.inl ⟨wanted_free rfl, fun w' hSw => ?_⟩) hHeld ?_
        · go_simp
        try simp only [Act.put, List.setIfInBounds_toArray, List.set_cons_zero, List.set_cons_succ]
        refine wpAnyH_done (by kernel_rfl) ?_ _
        clear hHeld
        go_wp2_with fail
        go_meet
        exact ⟨rfl, Sta.drop 1 1 HS338⟩
    case rest =>
      obtain ⟨rfl, HS339⟩ := hcut
      rename Go.World => wl339
      go_wp2_with fail
      have HS340 : Hid (Sta [] w [(w315.heap.size, [.int .i64 3, .string ⟨#[]⟩, .string ⟨#[]⟩])] [⟨fun k => (Value.slice none 0 0).ownBlock = some k, fun w' => InsO w' w.heap.size (.slice none 0 0) ([])⟩, ⟨fun k => (Value.slice (some ⟨a322, 0, none⟩) m322 c322).ownBlock = some k, fun w' => InsO w' w.heap.size (.slice (some ⟨a322, 0, none⟩) m322 c322) (l1 ++ l2)⟩, ⟨fun k => w1.heap.size ≤ k ∧ k < w2.heap.size, fun w2 => InsAt w2 (some ⟨q9, r9, none⟩) l2 ∧ LabAt w2 ea es⟩, ⟨fun k => w.heap.size ≤ k ∧ k < w1.heap.size, fun w2 => InsAt w2 (some ⟨p9, o9, none⟩) l1 ∧ LabAt w2 da ls⟩, ⟨fun k => k < w.heap.size, fun w' => Bytes w' a1 n1 ∧ Bytes w' a2 n2⟩] wl339) := Sta.own0 w.heap.size 41 3 HS339
      try simp only [Act.put, List.setIfInBounds_toArray, List.set_cons_zero, List.set_cons_succ]
      go_cut [14] (fun v0 wx => v0 = .bool false ∧ Hid (Sta [] w [(w315.heap.size, [.int .i64 3, .string ⟨#[]⟩, .string ⟨#[]⟩])] [⟨fun k => (Value.slice (some ⟨a322, 0, none⟩) m322 c322).ownBlock = some k, fun w' => InsO w' w.heap.size (.slice (some ⟨a322, 0, none⟩) m322 c322) (l1 ++ l2)⟩, ⟨fun k => w1.heap.size ≤ k ∧ k < w2.heap.size, fun w2 => InsAt w2 (some ⟨q9, r9, none⟩) l2 ∧ LabAt w2 ea es⟩, ⟨fun k => w.heap.size ≤ k ∧ k < w1.heap.size, fun w2 => InsAt w2 (some ⟨p9, o9, none⟩) l1 ∧ LabAt w2 da ls⟩, ⟨fun k => k < w.heap.size, fun w' => Bytes w' a1 n1 ∧ Bytes w' a2 n2⟩] wx))
      case first =>
        go_wp2_with fail
        have HS341 := Sta.drew HS340
        refine wp_region_held_drew (S := fun w' => w'.cell? ⟨w315.heap.size, 0, none⟩ = some (.int .i64 3) ∧ w'.cell? ⟨w315.heap.size, 1, none⟩ = some (.string ⟨#[]⟩) ∧ w'.cell? ⟨w315.heap.size, 2, none⟩ = some (.string ⟨#[]⟩)) (by kernel_rfl) ⟨Sta.c (i := 0) HS341 rfl rfl, Sta.c (i := 0) HS341 rfl rfl, Sta.c (i := 0) HS341 rfl rfl⟩ (fun hHeld => ?_)
        generalize wl339.drew = w341 at *
        refine wpAnyH_take (i := 1) (oi := ⟨_, _, _, _, _, _⟩) (v := .slice (some ⟨a322, 0, none⟩) m322 c322) rfl (by kernel_rfl) (by kernel_rfl) (by kernel_rfl) (fun _ _ _ h => h) (Or.inl ⟨wanted_free rfl, fun w' hSw => ?_⟩) hHeld ?_
        · go_simp
        try simp only [Act.put, List.setIfInBounds_toArray, List.set_cons_zero, List.set_cons_succ]
        refine wpAnyH_take (i := 3) (oi := ⟨_, _, _, _, _, _⟩) (v := .agg #[.int .i64 5, .string ⟨#[]⟩, .string ⟨#[]⟩]) rfl (by kernel_rfl) (by kernel_rfl) (by kernel_rfl) (fun _ _ _ h => h) (Or.inl ⟨wanted_free rfl, fun w' hSw => ?_⟩) hHeld ?_
        · go_simp
        try simp only [Act.put, List.setIfInBounds_toArray, List.set_cons_zero, List.set_cons_succ]
        refine wpAnyH_take (i := 4) (oi := ⟨_, _, _, _, _, _⟩) (v := .agg #[.int .i64 3, .string ⟨#[]⟩, .string ⟨#[]⟩]) rfl (by kernel_rfl) (by kernel_rfl) (by kernel_rfl) (fun _ _ _ h => h) (Or.inl ⟨wanted_free rfl, fun w' hSw => ?_⟩) hHeld ?_
        · obtain ⟨s0, s1, s2⟩ := hSw
          go_simp
        try simp only [Act.put, List.setIfInBounds_toArray, List.set_cons_zero, List.set_cons_succ]
        refine wpAnyH_take (i := 7) (oi := ⟨_, _, _, _, _, _⟩) (v := .slice da dm de) rfl (by kernel_rfl) (by kernel_rfl) (by kernel_rfl) (fun _ _ _ h => h) (Or.inl ⟨wanted_free rfl, fun w' hSw => ?_⟩) hHeld ?_
        · go_simp
        try simp only [Act.put, List.setIfInBounds_toArray, List.set_cons_zero, List.set_cons_succ]
        refine wpAnyH_ready (rs := [0, 5]) (by kernel_rfl) (by simp) (AllReadyH.cons (o := ⟨_, _, _, _, _, _⟩) rfl (fun K hK => ?_) (AllReadyH.cons (o := ⟨_, _, _, _, _, _⟩) rfl (fun K hK => ?_) AllReadyH.nil))
        · as_aux_lemma =>
          rewrite [if_pos (wanted_free rfl)]
          with_reducible refine wp_buildIns0 (by with_unfolding_all rfl) w.heap.size (Sta.size HS341) ?_
          intro w342 hO342 hG342
          have HS342 := Sta.app 0 HS341 rfl (Nat.le_refl _) hO342 hG342 (Or.inr rfl)
          clear hO342 hG342
          refine hK.out _ _ ⟨Sta.c (i := 0) HS342 rfl rfl, Sta.c (i := 0) HS342 rfl rfl, Sta.c (i := 0) HS342 rfl rfl⟩ (fun hHeld => ?_)
          clear hK K
          try simp only [Act.put, List.setIfInBounds_toArray, List.set_cons_zero, List.set_cons_succ]
          refine wpAnyH_ready (rs := [2, 5]) (by kernel_rfl) (by simp) (AllReadyH.cons (o := ⟨_, _, _, _, _, _⟩) rfl (fun K hK => ?_) (AllReadyH.cons (o := ⟨_, _, _, _, _, _⟩) rfl (fun K hK => ?_) AllReadyH.nil))
          · as_aux_lemma =>
            rewrite [if_pos (wanted_free rfl)]
            with_reducible refine wp_appendInsM (W := w342) (.tmp 80) (.tmp 81) (by with_unfolding_all rfl) w.heap.size (.slice (some ⟨w341.heap.size, 0, none⟩) 0 0) ([]) a322 0 m322 c322 (l1 ++ l2) (by with_unfolding_all rfl) (Sta.t (i := 0) HS342 rfl) (by with_unfolding_all rfl) Hm322.out (InsO.row (Sta.t (i := 1) HS342 rfl)).1.ins (by have hx := Hm322.out; have h1 := HY.out.len; have h2 := Hp1.out.1; have h3 := Hp2.out.1; simp only [List.length_append, List.length_cons, List.length_nil] at *; omega) (Sta.size HS342) ?_
            intro v343 w343 hO343 hG343 hb343
            obtain ⟨a343, m343, c343, hm343, rfl⟩ := InsO.formS hO343 (app_ne (app_ne HN2.out))
            have HS343 := Sta.app 0 HS342 rfl (Nat.le_refl _) hO343 hG343 hb343
            have Hm343 := hidP hm343
            clear hO343 hG343 hb343 hm343
            refine hK.out _ _ ⟨Sta.c (i := 0) HS343 rfl rfl, Sta.c (i := 0) HS343 rfl rfl, Sta.c (i := 0) HS343 rfl rfl⟩ (fun hHeld => ?_)
            clear hK K
            try simp only [Act.put, List.setIfInBounds_toArray, List.set_cons_zero, List.set_cons_succ]
            refine wpAnyH_ready (rs := [5]) (by kernel_rfl) (by simp) (AllReadyH.cons (o := ⟨_, _, _, _, _, _⟩) rfl (fun K hK => ?_) AllReadyH.nil)
            rewrite [if_pos (wanted_free rfl)]
            with_reducible refine wp_buildIns2 (.tmp 83) (.tmp 84) (by with_unfolding_all rfl) 5 (⟨#[]⟩) (⟨#[]⟩) 3 (⟨#[]⟩) (⟨#[]⟩) (by with_unfolding_all rfl) (by with_unfolding_all rfl) ?_
            intro w344 hA344 hB344
            have HS344 := Sta.new HS343 hA344 hB344 (by simp)
            clear hA344 hB344
            refine hK.out _ _ ⟨Sta.c (i := 1) HS344 rfl rfl, Sta.c (i := 1) HS344 rfl rfl, Sta.c (i := 1) HS344 rfl rfl⟩ (fun hHeld => ?_)
            clear hK K
            try simp only [Act.put, List.setIfInBounds_toArray, List.set_cons_zero, List.set_cons_succ]
            refine wpAnyH_ready (rs := [6]) (by kernel_rfl) (by simp) (AllReadyH.cons (o := ⟨_, _, _, _, _, _⟩) rfl (fun K hK => ?_) AllReadyH.nil)
            rewrite [if_pos (wanted_free rfl)]
            with_reducible refine wp_appendInsM (W := w344) (.tmp 82) (.tmp 85) (by with_unfolding_all rfl) w.heap.size (.slice (some ⟨a343, 0, none⟩) m343 c343) (l1 ++ l2) w343.heap.size 0 2 2 ([⟨5, ⟨#[]⟩, ⟨#[]⟩⟩, ⟨3, ⟨#[]⟩, ⟨#[]⟩⟩] : List InsV) (by with_unfolding_all rfl) (Sta.t (i := 0) HS344 rfl) (by with_unfolding_all rfl) rfl (RowV.ins (l := [⟨5, ⟨#[]⟩, ⟨#[]⟩⟩, ⟨3, ⟨#[]⟩, ⟨#[]⟩⟩]) (Sta.r (i := 0) HS344 (by with_unfolding_all rfl))) (by have hx := True.intro; have h1 := HY.out.len; have h2 := Hp1.out.1; have h3 := Hp2.out.1; simp only [List.length_append, List.length_cons, List.length_nil] at *; omega) (Sta.size HS344) ?_
            intro v345 w345 hO345 hG345 hb345
            obtain ⟨a345, m345, c345, hm345, rfl⟩ := InsO.formS hO345 (app_ne (by simp))
            have HS345 := Sta.app 0 HS344 rfl (Nat.le_refl _) hO345 hG345 hb345
            have Hm345 := hidP hm345
            clear hO345 hG345 hb345 hm345
            refine hK.out _ _ ⟨Sta.c (i := 1) HS345 rfl rfl, Sta.c (i := 1) HS345 rfl rfl, Sta.c (i := 1) HS345 rfl rfl⟩ (fun hHeld => ?_)
            clear hK K
            try simp only [Act.put, List.setIfInBounds_toArray, List.set_cons_zero, List.set_cons_succ]
            refine wpAnyH_ready (rs := [8]) (by kernel_rfl) (by simp) (AllReadyH.cons (o := ⟨_, _, _, _, _, _⟩) rfl (fun K hK => ?_) AllReadyH.nil)
            rewrite [if_pos (wanted_free rfl)]
            go_simp
            have n346_0 : InsAt w345 (some ⟨a345, 0, none⟩) ((l1 ++ l2) ++ ([⟨5, ⟨#[]⟩, ⟨#[]⟩⟩, ⟨3, ⟨#[]⟩, ⟨#[]⟩⟩] : List InsV)) := (InsO.row (Sta.t (i := 0) HS345 rfl)).1.ins
            have n346_1 : LabAt w345 da ls := (Sta.t (i := 3) HS345 rfl :).2
            have n346_2 : ls.length = dm ∧ dm ≤ 100 := (And.intro Hp1.out.2.2.2.1 Hp1.out.2.2.2.2.1)
            have n346_3 : ((l1 ++ l2) ++ ([⟨5, ⟨#[]⟩, ⟨#[]⟩⟩, ⟨3, ⟨#[]⟩, ⟨#[]⟩⟩] : List InsV)).length = m345 ∧ m345 ≤ 100 ∧ (∀ x ∈ ((l1 ++ l2) ++ ([⟨5, ⟨#[]⟩, ⟨#[]⟩⟩, ⟨3, ⟨#[]⟩, ⟨#[]⟩⟩] : List InsV)), x.w) := (len_w Hm345.out (by have h1 := HY.out.len; simp; omega) (w_app (w_app Hp1.out.2.2.1 Hp2.out.2.2.1) (w_two w_5 w_3)))
            have n346_4 : evalN ((l1 ++ l2) ++ ([⟨5, ⟨#[]⟩, ⟨#[]⟩⟩, ⟨3, ⟨#[]⟩, ⟨#[]⟩⟩] : List InsV)) ls = false := (HY.out.y)
            (with_reducible refine (hC54 w345 l1 da dm de ls l2 a345 m345 c345 n346_0 n346_1 n346_2 n346_3 n346_4).mono ?_)
            rintro r w346 ⟨rfl, hB346⟩
            have HS346 := Sta.call HS345 hB346
            clear hB346
            go_wp2_with fail
            refine hK.out _ _ ⟨Sta.c (i := 1) HS346 rfl rfl, Sta.c (i := 1) HS346 rfl rfl, Sta.c (i := 1) HS346 rfl rfl⟩ (fun hHeld => ?_)
            clear hK K
            try simp only [Act.put, List.setIfInBounds_toArray, List.set_cons_zero, List.set_cons_succ]
            refine wpAnyH_take (i := 9) (oi := ⟨_, _, _, _, _, _⟩) (v := .bool false) rfl (by kernel_rfl) (by kernel_rfl) (by kernel_rfl) (fun _ _ _ h => h) (Or.inl ⟨wanted_free rfl, fun w' hSw => ?_⟩) hHeld ?_
            · go_simp
            try simp only [Act.put, List.setIfInBounds_toArray, List.set_cons_zero, List.set_cons_succ]
            refine wpAnyH_done (by kernel_rfl) ?_ _
            clear hHeld
            go_wp2_with fail
            go_meet
            exact ⟨rfl, Sta.drop 1 1 HS346⟩
          · as_aux_lemma =>
            rewrite [if_pos (wanted_free rfl)]
            with_reducible refine wp_buildIns2 (.tmp 83) (.tmp 84) (by with_unfolding_all rfl) 5 (⟨#[]⟩) (⟨#[]⟩) 3 (⟨#[]⟩) (⟨#[]⟩) (by with_unfolding_all rfl) (by with_unfolding_all rfl) ?_
            intro w347 hA347 hB347
            have HS347 := Sta.new HS342 hA347 hB347 (by simp)
            clear hA347 hB347
            refine hK.out _ _ ⟨Sta.c (i := 1) HS347 rfl rfl, Sta.c (i := 1) HS347 rfl rfl, Sta.c (i := 1) HS347 rfl rfl⟩ (fun hHeld => ?_)
            clear hK K
            try simp only [Act.put, List.setIfInBounds_toArray, List.set_cons_zero, List.set_cons_succ]
            refine wpAnyH_ready (rs := [2]) (by kernel_rfl) (by simp) (AllReadyH.cons (o := ⟨_, _, _, _, _, _⟩) rfl (fun K hK => ?_) AllReadyH.nil)
            rewrite [if_pos (wanted_free rfl)]
            with_reducible refine wp_appendInsM (W := w347) (.tmp 80) (.tmp 81) (by with_unfolding_all rfl) w.heap.size (.slice (some ⟨w341.heap.size, 0, none⟩) 0 0) ([]) a322 0 m322 c322 (l1 ++ l2) (by with_unfolding_all rfl) (Sta.t (i := 0) HS347 rfl) (by with_unfolding_all rfl) Hm322.out (InsO.row (Sta.t (i := 1) HS347 rfl)).1.ins (by have hx := Hm322.out; have h1 := HY.out.len; have h2 := Hp1.out.1; have h3 := Hp2.out.1; simp only [List.length_append, List.length_cons, List.length_nil] at *; omega) (Sta.size HS347) ?_
            intro v348 w348 hO348 hG348 hb348
            obtain ⟨a348, m348, c348, hm348, rfl⟩ := InsO.formS hO348 (app_ne (app_ne HN2.out))
            have HS348 := Sta.app 0 HS347 rfl (Nat.le_refl _) hO348 hG348 hb348
            have Hm348 := hidP hm348
            clear hO348 hG348 hb348 hm348
            refine hK.out _ _ ⟨Sta.c (i := 1) HS348 rfl rfl, Sta.c (i := 1) HS348 rfl rfl, Sta.c (i := 1) HS348 rfl rfl⟩ (fun hHeld => ?_)
            clear hK K
            try simp only [Act.put, List.setIfInBounds_toArray, List.set_cons_zero, List.set_cons_succ]
            refine wpAnyH_ready (rs := [6]) (by kernel_rfl) (by simp) (AllReadyH.cons (o := ⟨_, _, _, _, _, _⟩) rfl (fun K hK => ?_) AllReadyH.nil)
            rewrite [if_pos (wanted_free rfl)]
            with_reducible refine wp_appendInsM (W := w348) (.tmp 82) (.tmp 85) (by with_unfolding_all rfl) w.heap.size (.slice (some ⟨a348, 0, none⟩) m348 c348) (l1 ++ l2) w342.heap.size 0 2 2 ([⟨5, ⟨#[]⟩, ⟨#[]⟩⟩, ⟨3, ⟨#[]⟩, ⟨#[]⟩⟩] : List InsV) (by with_unfolding_all rfl) (Sta.t (i := 0) HS348 rfl) (by with_unfolding_all rfl) rfl (RowV.ins (l := [⟨5, ⟨#[]⟩, ⟨#[]⟩⟩, ⟨3, ⟨#[]⟩, ⟨#[]⟩⟩]) (Sta.r (i := 0) HS348 (by with_unfolding_all rfl))) (by have hx := True.intro; have h1 := HY.out.len; have h2 := Hp1.out.1; have h3 := Hp2.out.1; simp only [List.length_append, List.length_cons, List.length_nil] at *; omega) (Sta.size HS348) ?_
            intro v349 w349 hO349 hG349 hb349
            obtain ⟨a349, m349, c349, hm349, rfl⟩ := InsO.formS hO349 (app_ne (by simp))
            have HS349 := Sta.app 0 HS348 rfl (Nat.le_refl _) hO349 hG349 hb349
            have Hm349 := hidP hm349
            clear hO349 hG349 hb349 hm349
            refine hK.out _ _ ⟨Sta.c (i := 1) HS349 rfl rfl, Sta.c (i := 1) HS349 rfl rfl, Sta.c (i := 1) HS349 rfl rfl⟩ (fun hHeld => ?_)
            clear hK K
            try simp only [Act.put, List.setIfInBounds_toArray, List.set_cons_zero, List.set_cons_succ]
            refine wpAnyH_ready (rs := [8]) (by kernel_rfl) (by simp) (AllReadyH.cons (o := ⟨_, _, _, _, _, _⟩) rfl (fun K hK => ?_) AllReadyH.nil)
            rewrite [if_pos (wanted_free rfl)]
            go_simp
            have n350_0 : InsAt w349 (some ⟨a349, 0, none⟩) ((l1 ++ l2) ++ ([⟨5, ⟨#[]⟩, ⟨#[]⟩⟩, ⟨3, ⟨#[]⟩, ⟨#[]⟩⟩] : List InsV)) := (InsO.row (Sta.t (i := 0) HS349 rfl)).1.ins
            have n350_1 : LabAt w349 da ls := (Sta.t (i := 3) HS349 rfl :).2
            have n350_2 : ls.length = dm ∧ dm ≤ 100 := (And.intro Hp1.out.2.2.2.1 Hp1.out.2.2.2.2.1)
            have n350_3 : ((l1 ++ l2) ++ ([⟨5, ⟨#[]⟩, ⟨#[]⟩⟩, ⟨3, ⟨#[]⟩, ⟨#[]⟩⟩] : List InsV)).length = m349 ∧ m349 ≤ 100 ∧ (∀ x ∈ ((l1 ++ l2) ++ ([⟨5, ⟨#[]⟩, ⟨#[]⟩⟩, ⟨3, ⟨#[]⟩, ⟨#[]⟩⟩] : List InsV)), x.w) := (len_w Hm349.out (by have h1 := HY.out.len; simp; omega) (w_app (w_app Hp1.out.2.2.1 Hp2.out.2.2.1) (w_two w_5 w_3)))
            have n350_4 : evalN ((l1 ++ l2) ++ ([⟨5, ⟨#[]⟩, ⟨#[]⟩⟩, ⟨3, ⟨#[]⟩, ⟨#[]⟩⟩] : List InsV)) ls = false := (HY.out.y)
            (with_reducible refine (hC55 w349 l1 da dm de ls l2 a349 m349 c349 n350_0 n350_1 n350_2 n350_3 n350_4).mono ?_)
            rintro r w350 ⟨rfl, hB350⟩
            have HS350 := Sta.call HS349 hB350
            clear hB350
            go_wp2_with fail
            refine hK.out _ _ ⟨Sta.c (i := 1) HS350 rfl rfl, Sta.c (i := 1) HS350 rfl rfl, Sta.c (i := 1) HS350 rfl rfl⟩ (fun hHeld => ?_)
            clear hK K
            try simp only [Act.put, List.setIfInBounds_toArray, List.set_cons_zero, List.set_cons_succ]
            refine wpAnyH_take (i := 9) (oi := ⟨_, _, _, _, _, _⟩) (v := .bool false) rfl (by kernel_rfl) (by kernel_rfl) (by kernel_rfl) (fun _ _ _ h => h) (Or.inl ⟨wanted_free rfl, fun w' hSw => ?_⟩) hHeld ?_
            · go_simp
            try simp only [Act.put, List.setIfInBounds_toArray, List.set_cons_zero, List.set_cons_succ]
            refine wpAnyH_done (by kernel_rfl) ?_ _
            clear hHeld
            go_wp2_with fail
            go_meet
            exact ⟨rfl, Sta.drop 1 1 HS350⟩
        · as_aux_lemma =>
          rewrite [if_pos (wanted_free rfl)]
          with_reducible refine wp_buildIns2 (.tmp 83) (.tmp 84) (by with_unfolding_all rfl) 5 (⟨#[]⟩) (⟨#[]⟩) 3 (⟨#[]⟩) (⟨#[]⟩) (by with_unfolding_all rfl) (by with_unfolding_all rfl) ?_
          intro w351 hA351 hB351
          have HS351 := Sta.new HS341 hA351 hB351 (by simp)
          clear hA351 hB351
          refine hK.out _ _ ⟨Sta.c (i := 1) HS351 rfl rfl, Sta.c (i := 1) HS351 rfl rfl, Sta.c (i := 1) HS351 rfl rfl⟩ (fun hHeld => ?_)
          clear hK K
          try simp only [Act.put, List.setIfInBounds_toArray, List.set_cons_zero, List.set_cons_succ]
          refine wpAnyH_ready (rs := [0]) (by kernel_rfl) (by simp) (AllReadyH.cons (o := ⟨_, _, _, _, _, _⟩) rfl (fun K hK => ?_) AllReadyH.nil)
          rewrite [if_pos (wanted_free rfl)]
          with_reducible refine wp_buildIns0 (by with_unfolding_all rfl) w.heap.size (Sta.size HS351) ?_
          intro w352 hO352 hG352
          have HS352 := Sta.app 0 HS351 rfl (Nat.le_refl _) hO352 hG352 (Or.inr rfl)
          clear hO352 hG352
          refine hK.out _ _ ⟨Sta.c (i := 1) HS352 rfl rfl, Sta.c (i := 1) HS352 rfl rfl, Sta.c (i := 1) HS352 rfl rfl⟩ (fun hHeld => ?_)
          clear hK K
          try simp only [Act.put, List.setIfInBounds_toArray, List.set_cons_zero, List.set_cons_succ]
          refine wpAnyH_ready (rs := [2]) (by kernel_rfl) (by simp) (AllReadyH.cons (o := ⟨_, _, _, _, _, _⟩) rfl (fun K hK => ?_) AllReadyH.nil)
          rewrite [if_pos (wanted_free rfl)]
          with_reducible refine wp_appendInsM (W := w352) (.tmp 80) (.tmp 81) (by with_unfolding_all rfl) w.heap.size (.slice (some ⟨w351.heap.size, 0, none⟩) 0 0) ([]) a322 0 m322 c322 (l1 ++ l2) (by with_unfolding_all rfl) (Sta.t (i := 0) HS352 rfl) (by with_unfolding_all rfl) Hm322.out (InsO.row (Sta.t (i := 1) HS352 rfl)).1.ins (by have hx := Hm322.out; have h1 := HY.out.len; have h2 := Hp1.out.1; have h3 := Hp2.out.1; simp only [List.length_append, List.length_cons, List.length_nil] at *; omega) (Sta.size HS352) ?_
          intro v353 w353 hO353 hG353 hb353
          obtain ⟨a353, m353, c353, hm353, rfl⟩ := InsO.formS hO353 (app_ne (app_ne HN2.out))
          have HS353 := Sta.app 0 HS352 rfl (Nat.le_refl _) hO353 hG353 hb353
          have Hm353 := hidP hm353
          clear hO353 hG353 hb353 hm353
          refine hK.out _ _ ⟨Sta.c (i := 1) HS353 rfl rfl, Sta.c (i := 1) HS353 rfl rfl, Sta.c (i := 1) HS353 rfl rfl⟩ (fun hHeld => ?_)
          clear hK K
          try simp only [Act.put, List.setIfInBounds_toArray, List.set_cons_zero, List.set_cons_succ]
          refine wpAnyH_ready (rs := [6]) (by kernel_rfl) (by simp) (AllReadyH.cons (o := ⟨_, _, _, _, _, _⟩) rfl (fun K hK => ?_) AllReadyH.nil)
          rewrite [if_pos (wanted_free rfl)]
          with_reducible refine wp_appendInsM (W := w353) (.tmp 82) (.tmp 85) (by with_unfolding_all rfl) w.heap.size (.slice (some ⟨a353, 0, none⟩) m353 c353) (l1 ++ l2) w341.heap.size 0 2 2 ([⟨5, ⟨#[]⟩, ⟨#[]⟩⟩, ⟨3, ⟨#[]⟩, ⟨#[]⟩⟩] : List InsV) (by with_unfolding_all rfl) (Sta.t (i := 0) HS353 rfl) (by with_unfolding_all rfl) rfl (RowV.ins (l := [⟨5, ⟨#[]⟩, ⟨#[]⟩⟩, ⟨3, ⟨#[]⟩, ⟨#[]⟩⟩]) (Sta.r (i := 0) HS353 (by with_unfolding_all rfl))) (by have hx := True.intro; have h1 := HY.out.len; have h2 := Hp1.out.1; have h3 := Hp2.out.1; simp only [List.length_append, List.length_cons, List.length_nil] at *; omega) (Sta.size HS353) ?_
          intro v354 w354 hO354 hG354 hb354
          obtain ⟨a354, m354, c354, hm354, rfl⟩ := InsO.formS hO354 (app_ne (by simp))
          have HS354 := Sta.app 0 HS353 rfl (Nat.le_refl _) hO354 hG354 hb354
          have Hm354 := hidP hm354
          clear hO354 hG354 hb354 hm354
          refine hK.out _ _ ⟨Sta.c (i := 1) HS354 rfl rfl, Sta.c (i := 1) HS354 rfl rfl, Sta.c (i := 1) HS354 rfl rfl⟩ (fun hHeld => ?_)
          clear hK K
          try simp only [Act.put, List.setIfInBounds_toArray, List.set_cons_zero, List.set_cons_succ]
          refine wpAnyH_ready (rs := [8]) (by kernel_rfl) (by simp) (AllReadyH.cons (o := ⟨_, _, _, _, _, _⟩) rfl (fun K hK => ?_) AllReadyH.nil)
          rewrite [if_pos (wanted_free rfl)]
          go_simp
          have n355_0 : InsAt w354 (some ⟨a354, 0, none⟩) ((l1 ++ l2) ++ ([⟨5, ⟨#[]⟩, ⟨#[]⟩⟩, ⟨3, ⟨#[]⟩, ⟨#[]⟩⟩] : List InsV)) := (InsO.row (Sta.t (i := 0) HS354 rfl)).1.ins
          have n355_1 : LabAt w354 da ls := (Sta.t (i := 3) HS354 rfl :).2
          have n355_2 : ls.length = dm ∧ dm ≤ 100 := (And.intro Hp1.out.2.2.2.1 Hp1.out.2.2.2.2.1)
          have n355_3 : ((l1 ++ l2) ++ ([⟨5, ⟨#[]⟩, ⟨#[]⟩⟩, ⟨3, ⟨#[]⟩, ⟨#[]⟩⟩] : List InsV)).length = m354 ∧ m354 ≤ 100 ∧ (∀ x ∈ ((l1 ++ l2) ++ ([⟨5, ⟨#[]⟩, ⟨#[]⟩⟩, ⟨3, ⟨#[]⟩, ⟨#[]⟩⟩] : List InsV)), x.w) := (len_w Hm354.out (by have h1 := HY.out.len; simp; omega) (w_app (w_app Hp1.out.2.2.1 Hp2.out.2.2.1) (w_two w_5 w_3)))
          have n355_4 : evalN ((l1 ++ l2) ++ ([⟨5, ⟨#[]⟩, ⟨#[]⟩⟩, ⟨3, ⟨#[]⟩, ⟨#[]⟩⟩] : List InsV)) ls = false := (HY.out.y)
          (with_reducible refine (hC56 w354 l1 da dm de ls l2 a354 m354 c354 n355_0 n355_1 n355_2 n355_3 n355_4).mono ?_)
          rintro r w355 ⟨rfl, hB355⟩
          have HS355 := Sta.call HS354 hB355
          clear hB355
          go_wp2_with fail
          refine hK.out _ _ ⟨Sta.c (i := 1) HS355 rfl rfl, Sta.c (i := 1) HS355 rfl rfl, Sta.c (i := 1) HS355 rfl rfl⟩ (fun hHeld => ?_)
          clear hK K
          try simp only [Act.put, List.setIfInBounds_toArray, List.set_cons_zero, List.set_cons_succ]
          refine wpAnyH_take (i := 9) (oi := ⟨_, _, _, _, _, _⟩) (v := .bool false) rfl (by kernel_rfl) (by kernel_rfl) (by kernel_rfl) (fun _ _ _ h => h) (Or.inl ⟨wanted_free rfl, fun w' hSw => ?_⟩) hHeld ?_
          · go_simp
          try simp only [Act.put, List.setIfInBounds_toArray, List.set_cons_zero, List.set_cons_succ]
          refine wpAnyH_done (by kernel_rfl) ?_ _
          clear hHeld
          go_wp2_with fail
          go_meet
          exact ⟨rfl, Sta.drop 1 1 HS355⟩
      case rest =>
        obtain ⟨rfl, HS356⟩ := hcut
        rename Go.World => wl356
        go_wp2_with fail
        have HS357 : Hid (Sta [] w [(w315.heap.size, [.int .i64 3, .string ⟨#[]⟩, .string ⟨#[]⟩])] [⟨fun k => (Value.slice none 0 0).ownBlock = some k, fun w' => InsO w' w.heap.size (.slice none 0 0) ([])⟩, ⟨fun k => (Value.slice (some ⟨a322, 0, none⟩) m322 c322).ownBlock = some k, fun w' => InsO w' w.heap.size (.slice (some ⟨a322, 0, none⟩) m322 c322) (l1 ++ l2)⟩, ⟨fun k => w1.heap.size ≤ k ∧ k < w2.heap.size, fun w2 => InsAt w2 (some ⟨q9, r9, none⟩) l2 ∧ LabAt w2 ea es⟩, ⟨fun k => w.heap.size ≤ k ∧ k < w1.heap.size, fun w2 => InsAt w2 (some ⟨p9, o9, none⟩) l1 ∧ LabAt w2 da ls⟩, ⟨fun k => k < w.heap.size, fun w' => Bytes w' a1 n1 ∧ Bytes w' a2 n2⟩] wl356) := Sta.own0 w.heap.size 41 3 HS356
        try simp only [Act.put, List.setIfInBounds_toArray, List.set_cons_zero, List.set_cons_succ]
        go_cut [15] (fun v0 wx => ∃ (g15 : Nat) (m15 : Nat) (k15 : Nat), v0 = .slice (some ⟨g15, 0, none⟩) m15 k15 ∧ Hid ((l1 ++ ([⟨3, ⟨#[]⟩, ⟨#[]⟩⟩] : List InsV)).length = m15) ∧ Hid (Sta [] w [(w315.heap.size, [.int .i64 3, .string ⟨#[]⟩, .string ⟨#[]⟩])] [⟨fun k => (Value.slice (some ⟨g15, 0, none⟩) m15 k15).ownBlock = some k, fun w' => InsO w' w.heap.size (.slice (some ⟨g15, 0, none⟩) m15 k15) (l1 ++ ([⟨3, ⟨#[]⟩, ⟨#[]⟩⟩] : List InsV))⟩, ⟨fun k => (Value.slice (some ⟨a322, 0, none⟩) m322 c322).ownBlock = some k, fun w' => InsO w' w.heap.size (.slice (some ⟨a322, 0, none⟩) m322 c322) (l1 ++ l2)⟩, ⟨fun k => w1.heap.size ≤ k ∧ k < w2.heap.size, fun w2 => InsAt w2 (some ⟨q9, r9, none⟩) l2 ∧ LabAt w2 ea es⟩, ⟨fun k => w.heap.size ≤ k ∧ k < w1.heap.size, fun w2 => InsAt w2 (some ⟨p9, o9, none⟩) l1 ∧ LabAt w2 da ls⟩, ⟨fun k => k < w.heap.size, fun w' => Bytes w' a1 n1 ∧ Bytes w' a2 n2⟩] wx))
        case first =>
          go_wp2_with fail
          have HS358 := Sta.drew HS357
          refine wp_region_held_drew (S := fun w' => w'.cell? ⟨w315.heap.size, 0, none⟩ = some (.int .i64 3) ∧ w'.cell? ⟨w315.heap.size, 1, none⟩ = some (.string ⟨#[]⟩) ∧ w'.cell? ⟨w315.heap.size, 2, none⟩ = some (.string ⟨#[]⟩)) (by kernel_rfl) ⟨Sta.c (i := 0) HS358 rfl rfl, Sta.c (i := 0) HS358 rfl rfl, Sta.c (i := 0) HS358 rfl rfl⟩ (fun hHeld => ?_)
          generalize wl356.drew = w358 at *
          refine wpAnyH_take (i := 1) (oi := ⟨_, _, _, _, _, _⟩) (v := .slice (some ⟨p9, o9, none⟩) pn pc) rfl (by kernel_rfl) (by kernel_rfl) (by kernel_rfl) (fun _ _ _ h => h) (Or.inl ⟨wanted_free rfl, fun w' hSw => ?_⟩) hHeld ?_
          · go_simp
          try simp only [Act.put, List.setIfInBounds_toArray, List.set_cons_zero, List.set_cons_succ]
          refine wpAnyH_take (i := 3) (oi := ⟨_, _, _, _, _, _⟩) (v := .agg #[.int .i64 3, .string ⟨#[]⟩, .string ⟨#[]⟩]) rfl (by kernel_rfl) (by kernel_rfl) (by kernel_rfl) (fun _ _ _ h => h) (Or.inl ⟨wanted_free rfl, fun w' hSw => ?_⟩) hHeld ?_
          · obtain ⟨s0, s1, s2⟩ := hSw
            go_simp
          try simp only [Act.put, List.setIfInBounds_toArray, List.set_cons_zero, List.set_cons_succ]
          refine wpAnyH_ready (rs := [0, 4]) (by kernel_rfl) (by simp) (AllReadyH.cons (o := ⟨_, _, _, _, _, _⟩) rfl (fun K hK => ?_) (AllReadyH.cons (o := ⟨_, _, _, _, _, _⟩) rfl (fun K hK => ?_) AllReadyH.nil))
          · as_aux_lemma =>
            rewrite [if_pos (wanted_free rfl)]
            with_reducible refine wp_buildIns0 (by with_unfolding_all rfl) w.heap.size (Sta.size HS358) ?_
            intro w359 hO359 hG359
            have HS359 := Sta.app 0 HS358 rfl (Nat.le_refl _) hO359 hG359 (Or.inr rfl)
            clear hO359 hG359
            refine hK.out _ _ ⟨Sta.c (i := 0) HS359 rfl rfl, Sta.c (i := 0) HS359 rfl rfl, Sta.c (i := 0) HS359 rfl rfl⟩ (fun hHeld => ?_)
            clear hK K
            try simp only [Act.put, List.setIfInBounds_toArray, List.set_cons_zero, List.set_cons_succ]
            refine wpAnyH_ready (rs := [2, 4]) (by kernel_rfl) (by simp) (AllReadyH.cons (o := ⟨_, _, _, _, _, _⟩) rfl (fun K hK => ?_) (AllReadyH.cons (o := ⟨_, _, _, _, _, _⟩) rfl (fun K hK => ?_) AllReadyH.nil))
            · as_aux_lemma =>
              rewrite [if_pos (wanted_free rfl)]
              with_reducible refine wp_appendInsM (W := w359) (.tmp 89) (.tmp 90) (by with_unfolding_all rfl) w.heap.size (.slice (some ⟨w358.heap.size, 0, none⟩) 0 0) ([]) p9 o9 pn pc l1 (by with_unfolding_all rfl) (Sta.t (i := 0) HS359 rfl) (by with_unfolding_all rfl) Hp1.out.1 (Sta.t (i := 3) HS359 rfl :).1 (by have hx := Hp1.out.1; have h1 := HY.out.len; have h2 := Hp1.out.1; have h3 := Hp2.out.1; simp only [List.length_append, List.length_cons, List.length_nil] at *; omega) (Sta.size HS359) ?_
              intro v360 w360 hO360 hG360 hb360
              obtain ⟨a360, m360, c360, hm360, rfl⟩ := InsO.formS hO360 (app_ne HN1.out)
              have HS360 := Sta.app 0 HS359 rfl (Nat.le_refl _) hO360 hG360 hb360
              have Hm360 := hidP hm360
              clear hO360 hG360 hb360 hm360
              refine hK.out _ _ ⟨Sta.c (i := 0) HS360 rfl rfl, Sta.c (i := 0) HS360 rfl rfl, Sta.c (i := 0) HS360 rfl rfl⟩ (fun hHeld => ?_)
              clear hK K
              try simp only [Act.put, List.setIfInBounds_toArray, List.set_cons_zero, List.set_cons_succ]
              refine wpAnyH_ready (rs := [4]) (by kernel_rfl) (by simp) (AllReadyH.cons (o := ⟨_, _, _, _, _, _⟩) rfl (fun K hK => ?_) AllReadyH.nil)
              rewrite [if_pos (wanted_free rfl)]
              with_reducible refine wp_buildIns (.tmp 92) (by with_unfolding_all rfl) 3 (⟨#[]⟩) (⟨#[]⟩) (by with_unfolding_all rfl) ?_
              intro w361 hA361 hB361
              have HS361 := Sta.new HS360 hA361 hB361 (by simp [insv])
              clear hA361 hB361
              refine hK.out _ _ ⟨Sta.c (i := 1) HS361 rfl rfl, Sta.c (i := 1) HS361 rfl rfl, Sta.c (i := 1) HS361 rfl rfl⟩ (fun hHeld => ?_)
              clear hK K
              try simp only [Act.put, List.setIfInBounds_toArray, List.set_cons_zero, List.set_cons_succ]
              refine wpAnyH_ready (rs := [5]) (by kernel_rfl) (by simp) (AllReadyH.cons (o := ⟨_, _, _, _, _, _⟩) rfl (fun K hK => ?_) AllReadyH.nil)
              rewrite [if_pos (wanted_free rfl)]
              with_reducible refine wp_appendInsM (W := w361) (.tmp 91) (.tmp 93) (by with_unfolding_all rfl) w.heap.size (.slice (some ⟨a360, 0, none⟩) m360 c360) l1 w360.heap.size 0 1 1 ([⟨3, ⟨#[]⟩, ⟨#[]⟩⟩] : List InsV) (by with_unfolding_all rfl) (Sta.t (i := 0) HS361 rfl) (by with_unfolding_all rfl) rfl (RowV.ins (l := [⟨3, ⟨#[]⟩, ⟨#[]⟩⟩]) (Sta.r (i := 0) HS361 (by with_unfolding_all rfl))) (by have hx := True.intro; have h1 := HY.out.len; have h2 := Hp1.out.1; have h3 := Hp2.out.1; simp only [List.length_append, List.length_cons, List.length_nil] at *; omega) (Sta.size HS361) ?_
              intro v362 w362 hO362 hG362 hb362
              obtain ⟨a362, m362, c362, hm362, rfl⟩ := InsO.formS hO362 (app_ne (by simp))
              have HS362 := Sta.app 0 HS361 rfl (Nat.le_refl _) hO362 hG362 hb362
              have Hm362 := hidP hm362
              clear hO362 hG362 hb362 hm362
              refine hK.out _ _ ⟨Sta.c (i := 1) HS362 rfl rfl, Sta.c (i := 1) HS362 rfl rfl, Sta.c (i := 1) HS362 rfl rfl⟩ (fun hHeld => ?_)
              clear hK K
              try simp only [Act.put, List.setIfInBounds_toArray, List.set_cons_zero, List.set_cons_succ]
              refine wpAnyH_take (i := 6) (oi := ⟨_, _, _, _, _, _⟩) (v := .slice (some ⟨a362, 0, none⟩) m362 c362) rfl (by kernel_rfl) (by kernel_rfl) (by kernel_rfl) (fun _ _ _ h => h) (Or.inl ⟨wanted_free rfl, fun w' hSw => ?_⟩) hHeld ?_
              · go_simp
              try simp only [Act.put, List.setIfInBounds_toArray, List.set_cons_zero, List.set_cons_succ]
              refine wpAnyH_done (by kernel_rfl) ?_ _
              clear hHeld
              go_wp2_with fail
              go_meet
              exact ⟨a362, m362, c362, rfl, Hm362, Sta.drop 1 0 HS362⟩
            · as_aux_lemma =>
              rewrite [if_pos (wanted_free rfl)]
              with_reducible refine wp_buildIns (.tmp 92) (by with_unfolding_all rfl) 3 (⟨#[]⟩) (⟨#[]⟩) (by with_unfolding_all rfl) ?_
              intro w363 hA363 hB363
              have HS363 := Sta.new HS359 hA363 hB363 (by simp [insv])
              clear hA363 hB363
              refine hK.out _ _ ⟨Sta.c (i := 1) HS363 rfl rfl, Sta.c (i := 1) HS363 rfl rfl, Sta.c (i := 1) HS363 rfl rfl⟩ (fun hHeld => ?_)
              clear hK K
              try simp only [Act.put, List.setIfInBounds_toArray, List.set_cons_zero, List.set_cons_succ]
              refine wpAnyH_ready (rs := [2]) (by kernel_rfl) (by simp) (AllReadyH.cons (o := ⟨_, _, _, _, _, _⟩) rfl (fun K hK => ?_) AllReadyH.nil)
              rewrite [if_pos (wanted_free rfl)]
              with_reducible refine wp_appendInsM (W := w363) (.tmp 89) (.tmp 90) (by with_unfolding_all rfl) w.heap.size (.slice (some ⟨w358.heap.size, 0, none⟩) 0 0) ([]) p9 o9 pn pc l1 (by with_unfolding_all rfl) (Sta.t (i := 0) HS363 rfl) (by with_unfolding_all rfl) Hp1.out.1 (Sta.t (i := 3) HS363 rfl :).1 (by have hx := Hp1.out.1; have h1 := HY.out.len; have h2 := Hp1.out.1; have h3 := Hp2.out.1; simp only [List.length_append, List.length_cons, List.length_nil] at *; omega) (Sta.size HS363) ?_
              intro v364 w364 hO364 hG364 hb364
              obtain ⟨a364, m364, c364, hm364, rfl⟩ := InsO.formS hO364 (app_ne HN1.out)
              have HS364 := Sta.app 0 HS363 rfl (Nat.le_refl _) hO364 hG364 hb364
              have Hm364 := hidP hm364
              clear hO364 hG364 hb364 hm364
              refine hK.out _ _ ⟨Sta.c (i := 1) HS364 rfl rfl, Sta.c (i := 1) HS364 rfl rfl, Sta.c (i := 1) HS364 rfl rfl⟩ (fun hHeld => ?_)
              clear hK K
              try simp only [Act.put, List.setIfInBounds_toArray, List.set_cons_zero, List.set_cons_succ]
              refine wpAnyH_ready (rs := [5]) (by kernel_rfl) (by simp) (AllReadyH.cons (o := ⟨_, _, _, _, _, _⟩) rfl (fun K hK => ?_) AllReadyH.nil)
              rewrite [if_pos (wanted_free rfl)]
              with_reducible refine wp_appendInsM (W := w364) (.tmp 91) (.tmp 93) (by with_unfolding_all rfl) w.heap.size (.slice (some ⟨a364, 0, none⟩) m364 c364) l1 w359.heap.size 0 1 1 ([⟨3, ⟨#[]⟩, ⟨#[]⟩⟩] : List InsV) (by with_unfolding_all rfl) (Sta.t (i := 0) HS364 rfl) (by with_unfolding_all rfl) rfl (RowV.ins (l := [⟨3, ⟨#[]⟩, ⟨#[]⟩⟩]) (Sta.r (i := 0) HS364 (by with_unfolding_all rfl))) (by have hx := True.intro; have h1 := HY.out.len; have h2 := Hp1.out.1; have h3 := Hp2.out.1; simp only [List.length_append, List.length_cons, List.length_nil] at *; omega) (Sta.size HS364) ?_
              intro v365 w365 hO365 hG365 hb365
              obtain ⟨a365, m365, c365, hm365, rfl⟩ := InsO.formS hO365 (app_ne (by simp))
              have HS365 := Sta.app 0 HS364 rfl (Nat.le_refl _) hO365 hG365 hb365
              have Hm365 := hidP hm365
              clear hO365 hG365 hb365 hm365
              refine hK.out _ _ ⟨Sta.c (i := 1) HS365 rfl rfl, Sta.c (i := 1) HS365 rfl rfl, Sta.c (i := 1) HS365 rfl rfl⟩ (fun hHeld => ?_)
              clear hK K
              try simp only [Act.put, List.setIfInBounds_toArray, List.set_cons_zero, List.set_cons_succ]
              refine wpAnyH_take (i := 6) (oi := ⟨_, _, _, _, _, _⟩) (v := .slice (some ⟨a365, 0, none⟩) m365 c365) rfl (by kernel_rfl) (by kernel_rfl) (by kernel_rfl) (fun _ _ _ h => h) (Or.inl ⟨wanted_free rfl, fun w' hSw => ?_⟩) hHeld ?_
              · go_simp
              try simp only [Act.put, List.setIfInBounds_toArray, List.set_cons_zero, List.set_cons_succ]
              refine wpAnyH_done (by kernel_rfl) ?_ _
              clear hHeld
              go_wp2_with fail
              go_meet
              exact ⟨a365, m365, c365, rfl, Hm365, Sta.drop 1 0 HS365⟩
          · as_aux_lemma =>
            rewrite [if_pos (wanted_free rfl)]
            with_reducible refine wp_buildIns (.tmp 92) (by with_unfolding_all rfl) 3 (⟨#[]⟩) (⟨#[]⟩) (by with_unfolding_all rfl) ?_
            intro w366 hA366 hB366
            have HS366 := Sta.new HS358 hA366 hB366 (by simp [insv])
            clear hA366 hB366
            refine hK.out _ _ ⟨Sta.c (i := 1) HS366 rfl rfl, Sta.c (i := 1) HS366 rfl rfl, Sta.c (i := 1) HS366 rfl rfl⟩ (fun hHeld => ?_)
            clear hK K
            try simp only [Act.put, List.setIfInBounds_toArray, List.set_cons_zero, List.set_cons_succ]
            refine wpAnyH_ready (rs := [0]) (by kernel_rfl) (by simp) (AllReadyH.cons (o := ⟨_, _, _, _, _, _⟩) rfl (fun K hK => ?_) AllReadyH.nil)
            rewrite [if_pos (wanted_free rfl)]
            with_reducible refine wp_buildIns0 (by with_unfolding_all rfl) w.heap.size (Sta.size HS366) ?_
            intro w367 hO367 hG367
            have HS367 := Sta.app 0 HS366 rfl (Nat.le_refl _) hO367 hG367 (Or.inr rfl)
            clear hO367 hG367
            refine hK.out _ _ ⟨Sta.c (i := 1) HS367 rfl rfl, Sta.c (i := 1) HS367 rfl rfl, Sta.c (i := 1) HS367 rfl rfl⟩ (fun hHeld => ?_)
            clear hK K
            try simp only [Act.put, List.setIfInBounds_toArray, List.set_cons_zero, List.set_cons_succ]
            refine wpAnyH_ready (rs := [2]) (by kernel_rfl) (by simp) (AllReadyH.cons (o := ⟨_, _, _, _, _, _⟩) rfl (fun K hK => ?_) AllReadyH.nil)
            rewrite [if_pos (wanted_free rfl)]
            with_reducible refine wp_appendInsM (W := w367) (.tmp 89) (.tmp 90) (by with_unfolding_all rfl) w.heap.size (.slice (some ⟨w366.heap.size, 0, none⟩) 0 0) ([]) p9 o9 pn pc l1 (by with_unfolding_all rfl) (Sta.t (i := 0) HS367 rfl) (by with_unfolding_all rfl) Hp1.out.1 (Sta.t (i := 3) HS367 rfl :).1 (by have hx := Hp1.out.1; have h1 := HY.out.len; have h2 := Hp1.out.1; have h3 := Hp2.out.1; simp only [List.length_append, List.length_cons, List.length_nil] at *; omega) (Sta.size HS367) ?_
            intro v368 w368 hO368 hG368 hb368
            obtain ⟨a368, m368, c368, hm368, rfl⟩ := InsO.formS hO368 (app_ne HN1.out)
            have HS368 := Sta.app 0 HS367 rfl (Nat.le_refl _) hO368 hG368 hb368
            have Hm368 := hidP hm368
            clear hO368 hG368 hb368 hm368
            refine hK.out _ _ ⟨Sta.c (i := 1) HS368 rfl rfl, Sta.c (i := 1) HS368 rfl rfl, Sta.c (i := 1) HS368 rfl rfl⟩ (fun hHeld => ?_)
            clear hK K
            try simp only [Act.put, List.setIfInBounds_toArray, List.set_cons_zero, List.set_cons_succ]
            refine wpAnyH_ready (rs := [5]) (by kernel_rfl) (by simp) (AllReadyH.cons (o := ⟨_, _, _, _, _, _⟩) rfl (fun K hK => ?_) AllReadyH.nil)
            rewrite [if_pos (wanted_free rfl)]
            with_reducible refine wp_appendInsM (W := w368) (.tmp 91) (.tmp 93) (by with_unfolding_all rfl) w.heap.size (.slice (some ⟨a368, 0, none⟩) m368 c368) l1 w358.heap.size 0 1 1 ([⟨3, ⟨#[]⟩, ⟨#[]⟩⟩] : List InsV) (by with_unfolding_all rfl) (Sta.t (i := 0) HS368 rfl) (by with_unfolding_all rfl) rfl (RowV.ins (l := [⟨3, ⟨#[]⟩, ⟨#[]⟩⟩]) (Sta.r (i := 0) HS368 (by with_unfolding_all rfl))) (by have hx := True.intro; have h1 := HY.out.len; have h2 := Hp1.out.1; have h3 := Hp2.out.1; simp only [List.length_append, List.length_cons, List.length_nil] at *; omega) (Sta.size HS368) ?_
            intro v369 w369 hO369 hG369 hb369
            obtain ⟨a369, m369, c369, hm369, rfl⟩ := InsO.formS hO369 (app_ne (by simp))
            have HS369 := Sta.app 0 HS368 rfl (Nat.le_refl _) hO369 hG369 hb369
            have Hm369 := hidP hm369
            clear hO369 hG369 hb369 hm369
            refine hK.out _ _ ⟨Sta.c (i := 1) HS369 rfl rfl, Sta.c (i := 1) HS369 rfl rfl, Sta.c (i := 1) HS369 rfl rfl⟩ (fun hHeld => ?_)
            clear hK K
            try simp only [Act.put, List.setIfInBounds_toArray, List.set_cons_zero, List.set_cons_succ]
            refine wpAnyH_take (i := 6) (oi := ⟨_, _, _, _, _, _⟩) (v := .slice (some ⟨a369, 0, none⟩) m369 c369) rfl (by kernel_rfl) (by kernel_rfl) (by kernel_rfl) (fun _ _ _ h => h) (Or.inl ⟨wanted_free rfl, fun w' hSw => ?_⟩) hHeld ?_
            · go_simp
            try simp only [Act.put, List.setIfInBounds_toArray, List.set_cons_zero, List.set_cons_succ]
            refine wpAnyH_done (by kernel_rfl) ?_ _
            clear hHeld
            go_wp2_with fail
            go_meet
            exact ⟨a369, m369, c369, rfl, Hm369, Sta.drop 1 0 HS369⟩
        case rest =>
          obtain ⟨g15, m15, k15, rfl, H15, HS370⟩ := hcut
          rename Go.World => wl370
          go_wp2_with fail
          try simp only [Act.put, List.setIfInBounds_toArray, List.set_cons_zero, List.set_cons_succ]
          go_cut [15] (fun v0 wx => ∃ (g16 : Nat) (m16 : Nat) (k16 : Nat), v0 = .slice (some ⟨g16, 0, none⟩) m16 k16 ∧ Hid ((((l1 ++ ([⟨3, ⟨#[]⟩, ⟨#[]⟩⟩] : List InsV)) ++ l2) ++ ([⟨3, ⟨#[]⟩, ⟨#[]⟩⟩] : List InsV)).length = m16) ∧ Hid (Sta [] w [(w315.heap.size, [.int .i64 3, .string ⟨#[]⟩, .string ⟨#[]⟩])] [⟨fun k => (Value.slice (some ⟨g16, 0, none⟩) m16 k16).ownBlock = some k, fun w' => InsO w' w.heap.size (.slice (some ⟨g16, 0, none⟩) m16 k16) (((l1 ++ ([⟨3, ⟨#[]⟩, ⟨#[]⟩⟩] : List InsV)) ++ l2) ++ ([⟨3, ⟨#[]⟩, ⟨#[]⟩⟩] : List InsV))⟩, ⟨fun k => (Value.slice (some ⟨a322, 0, none⟩) m322 c322).ownBlock = some k, fun w' => InsO w' w.heap.size (.slice (some ⟨a322, 0, none⟩) m322 c322) (l1 ++ l2)⟩, ⟨fun k => w1.heap.size ≤ k ∧ k < w2.heap.size, fun w2 => InsAt w2 (some ⟨q9, r9, none⟩) l2 ∧ LabAt w2 ea es⟩, ⟨fun k => w.heap.size ≤ k ∧ k < w1.heap.size, fun w2 => InsAt w2 (some ⟨p9, o9, none⟩) l1 ∧ LabAt w2 da ls⟩, ⟨fun k => k < w.heap.size, fun w' => Bytes w' a1 n1 ∧ Bytes w' a2 n2⟩] wx))
          case first =>
            go_wp2_with fail
            have HS371 := Sta.drew HS370
            refine wp_region_held_drew (S := fun w' => w'.cell? ⟨w315.heap.size, 0, none⟩ = some (.int .i64 3) ∧ w'.cell? ⟨w315.heap.size, 1, none⟩ = some (.string ⟨#[]⟩) ∧ w'.cell? ⟨w315.heap.size, 2, none⟩ = some (.string ⟨#[]⟩)) (by kernel_rfl) ⟨Sta.c (i := 0) HS371 rfl rfl, Sta.c (i := 0) HS371 rfl rfl, Sta.c (i := 0) HS371 rfl rfl⟩ (fun hHeld => ?_)
            generalize wl370.drew = w371 at *
            refine wpAnyH_take (i := 0) (oi := ⟨_, _, _, _, _, _⟩) (v := .slice (some ⟨g15, 0, none⟩) m15 k15) rfl (by kernel_rfl) (by kernel_rfl) (by kernel_rfl) (fun _ _ _ h => h) (Or.inl ⟨wanted_free rfl, fun w' hSw => ?_⟩) hHeld ?_
            · go_simp
            try simp only [Act.put, List.setIfInBounds_toArray, List.set_cons_zero, List.set_cons_succ]
            refine wpAnyH_take (i := 1) (oi := ⟨_, _, _, _, _, _⟩) (v := .slice (some ⟨q9, r9, none⟩) qn qc) rfl (by kernel_rfl) (by kernel_rfl) (by kernel_rfl) (fun _ _ _ h => h) (Or.inl ⟨wanted_free rfl, fun w' hSw => ?_⟩) hHeld ?_
            · go_simp
            try simp only [Act.put, List.setIfInBounds_toArray, List.set_cons_zero, List.set_cons_succ]
            refine wpAnyH_take (i := 3) (oi := ⟨_, _, _, _, _, _⟩) (v := .agg #[.int .i64 3, .string ⟨#[]⟩, .string ⟨#[]⟩]) rfl (by kernel_rfl) (by kernel_rfl) (by kernel_rfl) (fun _ _ _ h => h) (Or.inl ⟨wanted_free rfl, fun w' hSw => ?_⟩) hHeld ?_
            · obtain ⟨s0, s1, s2⟩ := hSw
              go_simp
            try simp only [Act.put, List.setIfInBounds_toArray, List.set_cons_zero, List.set_cons_succ]
            refine wpAnyH_ready (rs := [2, 4]) (by kernel_rfl) (by simp) (AllReadyH.cons (o := ⟨_, _, _, _, _, _⟩) rfl (fun K hK => ?_) (AllReadyH.cons (o := ⟨_, _, _, _, _, _⟩) rfl (fun K hK => ?_) AllReadyH.nil))
            · as_aux_lemma =>
              rewrite [if_pos (wanted_free rfl)]
              with_reducible refine wp_appendInsM (W := w371) (.tmp 95) (.tmp 96) (by with_unfolding_all rfl) w.heap.size (.slice (some ⟨g15, 0, none⟩) m15 k15) (l1 ++ ([⟨3, ⟨#[]⟩, ⟨#[]⟩⟩] : List InsV)) q9 r9 qn qc l2 (by with_unfolding_all rfl) (Sta.t (i := 0) HS371 rfl) (by with_unfolding_all rfl) Hp2.out.1 (Sta.t (i := 2) HS371 rfl :).1 (by have hx := Hp2.out.1; have h1 := HY.out.len; have h2 := Hp1.out.1; have h3 := Hp2.out.1; simp only [List.length_append, List.length_cons, List.length_nil] at *; omega) (Sta.size HS371) ?_
              intro v372 w372 hO372 hG372 hb372
              obtain ⟨a372, m372, c372, hm372, rfl⟩ := InsO.formS hO372 (app_ne HN2.out)
              have HS372 := Sta.app 0 HS371 rfl (Nat.le_refl _) hO372 hG372 hb372
              have Hm372 := hidP hm372
              clear hO372 hG372 hb372 hm372
              refine hK.out _ _ ⟨Sta.c (i := 0) HS372 rfl rfl, Sta.c (i := 0) HS372 rfl rfl, Sta.c (i := 0) HS372 rfl rfl⟩ (fun hHeld => ?_)
              clear hK K
              try simp only [Act.put, List.setIfInBounds_toArray, List.set_cons_zero, List.set_cons_succ]
              refine wpAnyH_ready (rs := [4]) (by kernel_rfl) (by simp) (AllReadyH.cons (o := ⟨_, _, _, _, _, _⟩) rfl (fun K hK => ?_) AllReadyH.nil)
              rewrite [if_pos (wanted_free rfl)]
              with_reducible refine wp_buildIns (.tmp 98) (by with_unfolding_all rfl) 3 (⟨#[]⟩) (⟨#[]⟩) (by with_unfolding_all rfl) ?_
              intro w373 hA373 hB373
              have HS373 := Sta.new HS372 hA373 hB373 (by simp [insv])
              clear hA373 hB373
              refine hK.out _ _ ⟨Sta.c (i := 1) HS373 rfl rfl, Sta.c (i := 1) HS373 rfl rfl, Sta.c (i := 1) HS373 rfl rfl⟩ (fun hHeld => ?_)
              clear hK K
              try simp only [Act.put, List.setIfInBounds_toArray, List.set_cons_zero, List.set_cons_succ]
              refine wpAnyH_ready (rs := [5]) (by kernel_rfl) (by simp) (AllReadyH.cons (o := ⟨_, _, _, _, _, _⟩) rfl (fun K hK => ?_) AllReadyH.nil)
              rewrite [if_pos (wanted_free rfl)]
              with_reducible refine wp_appendInsM (W := w373) (.tmp 97) (.tmp 99) (by with_unfolding_all rfl) w.heap.size (.slice (some ⟨a372, 0, none⟩) m372 c372) ((l1 ++ ([⟨3, ⟨#[]⟩, ⟨#[]⟩⟩] : List InsV)) ++ l2) w372.heap.size 0 1 1 ([⟨3, ⟨#[]⟩, ⟨#[]⟩⟩] : List InsV) (by with_unfolding_all rfl) (Sta.t (i := 0) HS373 rfl) (by with_unfolding_all rfl) rfl (RowV.ins (l := [⟨3, ⟨#[]⟩, ⟨#[]⟩⟩]) (Sta.r (i := 0) HS373 (by with_unfolding_all rfl))) (by have hx := True.intro; have h1 := HY.out.len; have h2 := Hp1.out.1; have h3 := Hp2.out.1; simp only [List.length_append, List.length_cons, List.length_nil] at *; omega) (Sta.size HS373) ?_
              intro v374 w374 hO374 hG374 hb374
              obtain ⟨a374, m374, c374, hm374, rfl⟩ := InsO.formS hO374 (app_ne (by simp))
              have HS374 := Sta.app 0 HS373 rfl (Nat.le_refl _) hO374 hG374 hb374
              have Hm374 := hidP hm374
              clear hO374 hG374 hb374 hm374
              refine hK.out _ _ ⟨Sta.c (i := 1) HS374 rfl rfl, Sta.c (i := 1) HS374 rfl rfl, Sta.c (i := 1) HS374 rfl rfl⟩ (fun hHeld => ?_)
              clear hK K
              try simp only [Act.put, List.setIfInBounds_toArray, List.set_cons_zero, List.set_cons_succ]
              refine wpAnyH_take (i := 6) (oi := ⟨_, _, _, _, _, _⟩) (v := .slice (some ⟨a374, 0, none⟩) m374 c374) rfl (by kernel_rfl) (by kernel_rfl) (by kernel_rfl) (fun _ _ _ h => h) (Or.inl ⟨wanted_free rfl, fun w' hSw => ?_⟩) hHeld ?_
              · go_simp
              try simp only [Act.put, List.setIfInBounds_toArray, List.set_cons_zero, List.set_cons_succ]
              refine wpAnyH_done (by kernel_rfl) ?_ _
              clear hHeld
              go_wp2_with fail
              go_meet
              exact ⟨a374, m374, c374, rfl, Hm374, Sta.drop 1 0 HS374⟩
            · as_aux_lemma =>
              rewrite [if_pos (wanted_free rfl)]
              with_reducible refine wp_buildIns (.tmp 98) (by with_unfolding_all rfl) 3 (⟨#[]⟩) (⟨#[]⟩) (by with_unfolding_all rfl) ?_
              intro w375 hA375 hB375
              have HS375 := Sta.new HS371 hA375 hB375 (by simp [insv])
              clear hA375 hB375
              refine hK.out _ _ ⟨Sta.c (i := 1) HS375 rfl rfl, Sta.c (i := 1) HS375 rfl rfl, Sta.c (i := 1) HS375 rfl rfl⟩ (fun hHeld => ?_)
              clear hK K
              try simp only [Act.put, List.setIfInBounds_toArray, List.set_cons_zero, List.set_cons_succ]
              refine wpAnyH_ready (rs := [2]) (by kernel_rfl) (by simp) (AllReadyH.cons (o := ⟨_, _, _, _, _, _⟩) rfl (fun K hK => ?_) AllReadyH.nil)
              rewrite [if_pos (wanted_free rfl)]
              with_reducible refine wp_appendInsM (W := w375) (.tmp 95) (.tmp 96) (by with_unfolding_all rfl) w.heap.size (.slice (some ⟨g15, 0, none⟩) m15 k15) (l1 ++ ([⟨3, ⟨#[]⟩, ⟨#[]⟩⟩] : List InsV)) q9 r9 qn qc l2 (by with_unfolding_all rfl) (Sta.t (i := 0) HS375 rfl) (by with_unfolding_all rfl) Hp2.out.1 (Sta.t (i := 2) HS375 rfl :).1 (by have hx := Hp2.out.1; have h1 := HY.out.len; have h2 := Hp1.out.1; have h3 := Hp2.out.1; simp only [List.length_append, List.length_cons, List.length_nil] at *; omega) (Sta.size HS375) ?_
              intro v376 w376 hO376 hG376 hb376
              obtain ⟨a376, m376, c376, hm376, rfl⟩ := InsO.formS hO376 (app_ne HN2.out)
              have HS376 := Sta.app 0 HS375 rfl (Nat.le_refl _) hO376 hG376 hb376
              have Hm376 := hidP hm376
              clear hO376 hG376 hb376 hm376
              refine hK.out _ _ ⟨Sta.c (i := 1) HS376 rfl rfl, Sta.c (i := 1) HS376 rfl rfl, Sta.c (i := 1) HS376 rfl rfl⟩ (fun hHeld => ?_)
              clear hK K
              try simp only [Act.put, List.setIfInBounds_toArray, List.set_cons_zero, List.set_cons_succ]
              refine wpAnyH_ready (rs := [5]) (by kernel_rfl) (by simp) (AllReadyH.cons (o := ⟨_, _, _, _, _, _⟩) rfl (fun K hK => ?_) AllReadyH.nil)
              rewrite [if_pos (wanted_free rfl)]
              with_reducible refine wp_appendInsM (W := w376) (.tmp 97) (.tmp 99) (by with_unfolding_all rfl) w.heap.size (.slice (some ⟨a376, 0, none⟩) m376 c376) ((l1 ++ ([⟨3, ⟨#[]⟩, ⟨#[]⟩⟩] : List InsV)) ++ l2) w371.heap.size 0 1 1 ([⟨3, ⟨#[]⟩, ⟨#[]⟩⟩] : List InsV) (by with_unfolding_all rfl) (Sta.t (i := 0) HS376 rfl) (by with_unfolding_all rfl) rfl (RowV.ins (l := [⟨3, ⟨#[]⟩, ⟨#[]⟩⟩]) (Sta.r (i := 0) HS376 (by with_unfolding_all rfl))) (by have hx := True.intro; have h1 := HY.out.len; have h2 := Hp1.out.1; have h3 := Hp2.out.1; simp only [List.length_append, List.length_cons, List.length_nil] at *; omega) (Sta.size HS376) ?_
              intro v377 w377 hO377 hG377 hb377
              obtain ⟨a377, m377, c377, hm377, rfl⟩ := InsO.formS hO377 (app_ne (by simp))
              have HS377 := Sta.app 0 HS376 rfl (Nat.le_refl _) hO377 hG377 hb377
              have Hm377 := hidP hm377
              clear hO377 hG377 hb377 hm377
              refine hK.out _ _ ⟨Sta.c (i := 1) HS377 rfl rfl, Sta.c (i := 1) HS377 rfl rfl, Sta.c (i := 1) HS377 rfl rfl⟩ (fun hHeld => ?_)
              clear hK K
              try simp only [Act.put, List.setIfInBounds_toArray, List.set_cons_zero, List.set_cons_succ]
              refine wpAnyH_take (i := 6) (oi := ⟨_, _, _, _, _, _⟩) (v := .slice (some ⟨a377, 0, none⟩) m377 c377) rfl (by kernel_rfl) (by kernel_rfl) (by kernel_rfl) (fun _ _ _ h => h) (Or.inl ⟨wanted_free rfl, fun w' hSw => ?_⟩) hHeld ?_
              · go_simp
              try simp only [Act.put, List.setIfInBounds_toArray, List.set_cons_zero, List.set_cons_succ]
              refine wpAnyH_done (by kernel_rfl) ?_ _
              clear hHeld
              go_wp2_with fail
              go_meet
              exact ⟨a377, m377, c377, rfl, Hm377, Sta.drop 1 0 HS377⟩
          case rest =>
            obtain ⟨g16, m16, k16, rfl, H16, HS378⟩ := hcut
            rename Go.World => wl378
            · skip
              have HS379 : Hid (Sta [] w [(w315.heap.size, [.int .i64 3, .string ⟨#[]⟩, .string ⟨#[]⟩])] [⟨fun k => (Value.slice none 0 0).ownBlock = some k, fun w' => InsO w' w.heap.size (.slice none 0 0) ([])⟩, ⟨fun k => (Value.slice (some ⟨g16, 0, none⟩) m16 k16).ownBlock = some k, fun w' => InsO w' w.heap.size (.slice (some ⟨g16, 0, none⟩) m16 k16) (((l1 ++ ([⟨3, ⟨#[]⟩, ⟨#[]⟩⟩] : List InsV)) ++ l2) ++ ([⟨3, ⟨#[]⟩, ⟨#[]⟩⟩] : List InsV))⟩, ⟨fun k => (Value.slice (some ⟨a322, 0, none⟩) m322 c322).ownBlock = some k, fun w' => InsO w' w.heap.size (.slice (some ⟨a322, 0, none⟩) m322 c322) (l1 ++ l2)⟩, ⟨fun k => w1.heap.size ≤ k ∧ k < w2.heap.size, fun w2 => InsAt w2 (some ⟨q9, r9, none⟩) l2 ∧ LabAt w2 ea es⟩, ⟨fun k => w.heap.size ≤ k ∧ k < w1.heap.size, fun w2 => InsAt w2 (some ⟨p9, o9, none⟩) l1 ∧ LabAt w2 da ls⟩, ⟨fun k => k < w.heap.size, fun w' => Bytes w' a1 n1 ∧ Bytes w' a2 n2⟩] wl378) := Sta.own0 w.heap.size 41 3 HS378
              have hO380 := World.ownsRow_made (base := w.heap.size) (size := 3) (e := 41) wl378 #[] 0 (Sta.size HS379) (by decide) (by simp)
              have hG380 := World.grownBy_alloc wl378 (.cells #[] 41) (Value.slice none 0 0).ownBlock
              have HS380 := Sta.app 0 HS379 rfl (Nat.le_refl _) hO380 hG380 (Or.inr rfl)
              clear hO380 hG380
              go_upto_region 18 with (first
                | ((with_reducible refine wpList_appendInsM (W := (wl378.alloc (.cells #[] 41))) (by with_unfolding_all rfl) (.tmp 101) (.tmp 102) (by with_unfolding_all rfl) w.heap.size (.slice (some ⟨wl378.heap.size, 0, none⟩) 0 0) ([]) g16 0 m16 k16 (((l1 ++ ([⟨3, ⟨#[]⟩, ⟨#[]⟩⟩] : List InsV)) ++ l2) ++ ([⟨3, ⟨#[]⟩, ⟨#[]⟩⟩] : List InsV)) (by with_unfolding_all rfl) (Sta.t (i := 0) HS380 rfl) (by with_unfolding_all rfl) H16.out (InsO.row (Sta.t (i := 1) HS380 rfl)).1.ins (by have hx := H16.out; have h1 := HY.out.len; have h2 := Hp1.out.1; have h3 := Hp2.out.1; simp only [List.length_append, List.length_cons, List.length_nil] at *; omega) (Sta.size HS380) ?_); intro v381 w381 hO381 hG381 hb381; obtain ⟨a381, m381, c381, hm381, rfl⟩ := InsO.formS hO381 (app_ne (app_ne (by simp))); have HS381 := Sta.app 0 HS380 rfl (Nat.le_refl _) hO381 hG381 hb381; have Hm381 := hidP hm381; clear hO381 hG381 hb381 hm381)
                | ((with_reducible refine wpList_buildIns (w := w381) (by with_unfolding_all rfl) (.tmp 104) (by with_unfolding_all rfl) 5 (⟨#[]⟩) (⟨#[]⟩) (by with_unfolding_all rfl) ?_); intro w382 hA382 hB382; have HS382 := Sta.new HS381 hA382 hB382 (by simp [insv]); clear hA382 hB382)
                | ((with_reducible refine wpList_appendInsM (W := w382) (by with_unfolding_all rfl) (.tmp 103) (.tmp 105) (by with_unfolding_all rfl) w.heap.size (.slice (some ⟨a381, 0, none⟩) m381 c381) (((l1 ++ ([⟨3, ⟨#[]⟩, ⟨#[]⟩⟩] : List InsV)) ++ l2) ++ ([⟨3, ⟨#[]⟩, ⟨#[]⟩⟩] : List InsV)) w381.heap.size 0 1 1 ([⟨5, ⟨#[]⟩, ⟨#[]⟩⟩] : List InsV) (by with_unfolding_all rfl) (Sta.t (i := 0) HS382 rfl) (by with_unfolding_all rfl) rfl (RowV.ins (l := [⟨5, ⟨#[]⟩, ⟨#[]⟩⟩]) (Sta.r (i := 0) HS382 (by with_unfolding_all rfl))) (by have hx := True.intro; have h1 := HY.out.len; have h2 := Hp1.out.1; have h3 := Hp2.out.1; simp only [List.length_append, List.length_cons, List.length_nil] at *; omega) (Sta.size HS382) ?_); intro v383 w383 hO383 hG383 hb383; obtain ⟨a383, m383, c383, hm383, rfl⟩ := InsO.formS hO383 (app_ne (by simp)); have HS383 := Sta.app 0 HS382 rfl (Nat.le_refl _) hO383 hG383 hb383; have Hm383 := hidP hm383; clear hO383 hG383 hb383 hm383)
                | (go_at_call 19; have n384_0 : InsAt w383 (some ⟨a383, 0, none⟩) ((((l1 ++ ([⟨3, ⟨#[]⟩, ⟨#[]⟩⟩] : List InsV)) ++ l2) ++ ([⟨3, ⟨#[]⟩, ⟨#[]⟩⟩] : List InsV)) ++ ([⟨5, ⟨#[]⟩, ⟨#[]⟩⟩] : List InsV)) := (InsO.row (Sta.t (i := 0) HS383 rfl)).1.ins; have n384_1 : LabAt w383 da ls := (Sta.t (i := 4) HS383 rfl :).2; have n384_2 : ls.length = dm ∧ dm ≤ 100 := (And.intro Hp1.out.2.2.2.1 Hp1.out.2.2.2.2.1); have n384_3 : ((((l1 ++ ([⟨3, ⟨#[]⟩, ⟨#[]⟩⟩] : List InsV)) ++ l2) ++ ([⟨3, ⟨#[]⟩, ⟨#[]⟩⟩] : List InsV)) ++ ([⟨5, ⟨#[]⟩, ⟨#[]⟩⟩] : List InsV)).length = m383 ∧ m383 ≤ 100 ∧ (∀ x ∈ ((((l1 ++ ([⟨3, ⟨#[]⟩, ⟨#[]⟩⟩] : List InsV)) ++ l2) ++ ([⟨3, ⟨#[]⟩, ⟨#[]⟩⟩] : List InsV)) ++ ([⟨5, ⟨#[]⟩, ⟨#[]⟩⟩] : List InsV)), x.w) := (len_w Hm383.out (by have h1 := HY.out.len; simp; omega) (w_app (w_app (w_app (w_app Hp1.out.2.2.1 (w_one w_3)) Hp2.out.2.2.1) (w_one w_3)) (w_one w_5))); have n384_4 : evalN ((((l1 ++ ([⟨3, ⟨#[]⟩, ⟨#[]⟩⟩] : List InsV)) ++ l2) ++ ([⟨3, ⟨#[]⟩, ⟨#[]⟩⟩] : List InsV)) ++ ([⟨5, ⟨#[]⟩, ⟨#[]⟩⟩] : List InsV)) ls = false := (HY.out.u); (with_reducible refine (hC57 w383 l1 da dm de ls l2 a383 m383 c383 n384_0 n384_1 n384_2 n384_3 n384_4).mono ?_); rintro r w384 ⟨rfl, hB384⟩; have HS384 := Sta.call HS383 hB384; clear hB384))
              · skip
                have HS386 : Hid (Sta [] w [(w381.heap.size, [.int .i64 5, .string ⟨#[]⟩, .string ⟨#[]⟩]), (w315.heap.size, [.int .i64 3, .string ⟨#[]⟩, .string ⟨#[]⟩])] [⟨fun k => (Value.slice none 0 0).ownBlock = some k, fun w' => InsO w' w.heap.size (.slice none 0 0) ([])⟩, ⟨fun k => (Value.slice (some ⟨a383, 0, none⟩) m383 c383).ownBlock = some k, fun w' => InsO w' w.heap.size (.slice (some ⟨a383, 0, none⟩) m383 c383) ((((l1 ++ ([⟨3, ⟨#[]⟩, ⟨#[]⟩⟩] : List InsV)) ++ l2) ++ ([⟨3, ⟨#[]⟩, ⟨#[]⟩⟩] : List InsV)) ++ ([⟨5, ⟨#[]⟩, ⟨#[]⟩⟩] : List InsV))⟩, ⟨fun k => (Value.slice (some ⟨g16, 0, none⟩) m16 k16).ownBlock = some k, fun w' => InsO w' w.heap.size (.slice (some ⟨g16, 0, none⟩) m16 k16) (((l1 ++ ([⟨3, ⟨#[]⟩, ⟨#[]⟩⟩] : List InsV)) ++ l2) ++ ([⟨3, ⟨#[]⟩, ⟨#[]⟩⟩] : List InsV))⟩, ⟨fun k => (Value.slice (some ⟨a322, 0, none⟩) m322 c322).ownBlock = some k, fun w' => InsO w' w.heap.size (.slice (some ⟨a322, 0, none⟩) m322 c322) (l1 ++ l2)⟩, ⟨fun k => w1.heap.size ≤ k ∧ k < w2.heap.size, fun w2 => InsAt w2 (some ⟨q9, r9, none⟩) l2 ∧ LabAt w2 ea es⟩, ⟨fun k => w.heap.size ≤ k ∧ k < w1.heap.size, fun w2 => InsAt w2 (some ⟨p9, o9, none⟩) l1 ∧ LabAt w2 da ls⟩, ⟨fun k => k < w.heap.size, fun w' => Bytes w' a1 n1 ∧ Bytes w' a2 n2⟩] w384) := Sta.own0 w.heap.size 41 3 HS384
                have hO387 := World.ownsRow_made (base := w.heap.size) (size := 3) (e := 41) w384 #[] 0 (Sta.size HS386) (by decide) (by simp)
                have hG387 := World.grownBy_alloc w384 (.cells #[] 41) (Value.slice none 0 0).ownBlock
                have HS387 := Sta.app 0 HS386 rfl (Nat.le_refl _) hO387 hG387 (Or.inr rfl)
                clear hO387 hG387
                go_wp2_with (first
                  | ((with_reducible refine wpList_appendInsM (W := (w384.alloc (.cells #[] 41))) (by with_unfolding_all rfl) (.tmp 109) (.tmp 110) (by with_unfolding_all rfl) w.heap.size (.slice (some ⟨w384.heap.size, 0, none⟩) 0 0) ([]) g16 0 m16 k16 (((l1 ++ ([⟨3, ⟨#[]⟩, ⟨#[]⟩⟩] : List InsV)) ++ l2) ++ ([⟨3, ⟨#[]⟩, ⟨#[]⟩⟩] : List InsV)) (by with_unfolding_all rfl) (Sta.t (i := 0) HS387 rfl) (by with_unfolding_all rfl) H16.out (InsO.row (Sta.t (i := 2) HS387 rfl)).1.ins (by have hx := H16.out; have h1 := HY.out.len; have h2 := Hp1.out.1; have h3 := Hp2.out.1; simp only [List.length_append, List.length_cons, List.length_nil] at *; omega) (Sta.size HS387) ?_); intro v388 w388 hO388 hG388 hb388; obtain ⟨a388, m388, c388, hm388, rfl⟩ := InsO.formS hO388 (app_ne (app_ne (by simp))); have HS388 := Sta.app 0 HS387 rfl (Nat.le_refl _) hO388 hG388 hb388; have Hm388 := hidP hm388; clear hO388 hG388 hb388 hm388)
                  | ((with_reducible refine wpList_buildIns (w := w388) (by with_unfolding_all rfl) (.tmp 112) (by with_unfolding_all rfl) 4 (⟨#[]⟩) (⟨#[]⟩) (by with_unfolding_all rfl) ?_); intro w389 hA389 hB389; have HS389 := Sta.new HS388 hA389 hB389 (by simp [insv]); clear hA389 hB389)
                  | ((with_reducible refine wpList_appendInsM (W := w389) (by with_unfolding_all rfl) (.tmp 111) (.tmp 113) (by with_unfolding_all rfl) w.heap.size (.slice (some ⟨a388, 0, none⟩) m388 c388) (((l1 ++ ([⟨3, ⟨#[]⟩, ⟨#[]⟩⟩] : List InsV)) ++ l2) ++ ([⟨3, ⟨#[]⟩, ⟨#[]⟩⟩] : List InsV)) w388.heap.size 0 1 1 ([⟨4, ⟨#[]⟩, ⟨#[]⟩⟩] : List InsV) (by with_unfolding_all rfl) (Sta.t (i := 0) HS389 rfl) (by with_unfolding_all rfl) rfl (RowV.ins (l := [⟨4, ⟨#[]⟩, ⟨#[]⟩⟩]) (Sta.r (i := 0) HS389 (by with_unfolding_all rfl))) (by have hx := True.intro; have h1 := HY.out.len; have h2 := Hp1.out.1; have h3 := Hp2.out.1; simp only [List.length_append, List.length_cons, List.length_nil] at *; omega) (Sta.size HS389) ?_); intro v390 w390 hO390 hG390 hb390; obtain ⟨a390, m390, c390, hm390, rfl⟩ := InsO.formS hO390 (app_ne (by simp)); have HS390 := Sta.app 0 HS389 rfl (Nat.le_refl _) hO390 hG390 hb390; have Hm390 := hidP hm390; clear hO390 hG390 hb390 hm390)
                  | (go_at_call 19; have n391_0 : InsAt w390 (some ⟨a390, 0, none⟩) ((((l1 ++ ([⟨3, ⟨#[]⟩, ⟨#[]⟩⟩] : List InsV)) ++ l2) ++ ([⟨3, ⟨#[]⟩, ⟨#[]⟩⟩] : List InsV)) ++ ([⟨4, ⟨#[]⟩, ⟨#[]⟩⟩] : List InsV)) := (InsO.row (Sta.t (i := 0) HS390 rfl)).1.ins; have n391_1 : LabAt w390 da ls := (Sta.t (i := 5) HS390 rfl :).2; have n391_2 : ls.length = dm ∧ dm ≤ 100 := (And.intro Hp1.out.2.2.2.1 Hp1.out.2.2.2.2.1); have n391_3 : ((((l1 ++ ([⟨3, ⟨#[]⟩, ⟨#[]⟩⟩] : List InsV)) ++ l2) ++ ([⟨3, ⟨#[]⟩, ⟨#[]⟩⟩] : List InsV)) ++ ([⟨4, ⟨#[]⟩, ⟨#[]⟩⟩] : List InsV)).length = m390 ∧ m390 ≤ 100 ∧ (∀ x ∈ ((((l1 ++ ([⟨3, ⟨#[]⟩, ⟨#[]⟩⟩] : List InsV)) ++ l2) ++ ([⟨3, ⟨#[]⟩, ⟨#[]⟩⟩] : List InsV)) ++ ([⟨4, ⟨#[]⟩, ⟨#[]⟩⟩] : List InsV)), x.w) := (len_w Hm390.out (by have h1 := HY.out.len; simp; omega) (w_app (w_app (w_app (w_app Hp1.out.2.2.1 (w_one w_3)) Hp2.out.2.2.1) (w_one w_3)) (w_one w_4))); have n391_4 : evalN ((((l1 ++ ([⟨3, ⟨#[]⟩, ⟨#[]⟩⟩] : List InsV)) ++ l2) ++ ([⟨3, ⟨#[]⟩, ⟨#[]⟩⟩] : List InsV)) ++ ([⟨4, ⟨#[]⟩, ⟨#[]⟩⟩] : List InsV)) ls = false := (HY.out.v); (with_reducible refine (hC58 w390 l1 da dm de ls l2 a390 m390 c390 n391_0 n391_1 n391_2 n391_3 n391_4).mono ?_); rintro r w391 ⟨rfl, hB391⟩; have HS391 := Sta.call HS390 hB391; clear hB391))
                have HS392 : Hid (Sta [] w [(w388.heap.size, [.int .i64 4, .string ⟨#[]⟩, .string ⟨#[]⟩]), (w381.heap.size, [.int .i64 5, .string ⟨#[]⟩, .string ⟨#[]⟩]), (w315.heap.size, [.int .i64 3, .string ⟨#[]⟩, .string ⟨#[]⟩])] [⟨fun k => (Value.slice none 0 0).ownBlock = some k, fun w' => InsO w' w.heap.size (.slice none 0 0) ([])⟩, ⟨fun k => (Value.slice (some ⟨a390, 0, none⟩) m390 c390).ownBlock = some k, fun w' => InsO w' w.heap.size (.slice (some ⟨a390, 0, none⟩) m390 c390) ((((l1 ++ ([⟨3, ⟨#[]⟩, ⟨#[]⟩⟩] : List InsV)) ++ l2) ++ ([⟨3, ⟨#[]⟩, ⟨#[]⟩⟩] : List InsV)) ++ ([⟨4, ⟨#[]⟩, ⟨#[]⟩⟩] : List InsV))⟩, ⟨fun k => (Value.slice (some ⟨a383, 0, none⟩) m383 c383).ownBlock = some k, fun w' => InsO w' w.heap.size (.slice (some ⟨a383, 0, none⟩) m383 c383) ((((l1 ++ ([⟨3, ⟨#[]⟩, ⟨#[]⟩⟩] : List InsV)) ++ l2) ++ ([⟨3, ⟨#[]⟩, ⟨#[]⟩⟩] : List InsV)) ++ ([⟨5, ⟨#[]⟩, ⟨#[]⟩⟩] : List InsV))⟩, ⟨fun k => (Value.slice (some ⟨g16, 0, none⟩) m16 k16).ownBlock = some k, fun w' => InsO w' w.heap.size (.slice (some ⟨g16, 0, none⟩) m16 k16) (((l1 ++ ([⟨3, ⟨#[]⟩, ⟨#[]⟩⟩] : List InsV)) ++ l2) ++ ([⟨3, ⟨#[]⟩, ⟨#[]⟩⟩] : List InsV))⟩, ⟨fun k => (Value.slice (some ⟨a322, 0, none⟩) m322 c322).ownBlock = some k, fun w' => InsO w' w.heap.size (.slice (some ⟨a322, 0, none⟩) m322 c322) (l1 ++ l2)⟩, ⟨fun k => w1.heap.size ≤ k ∧ k < w2.heap.size, fun w2 => InsAt w2 (some ⟨q9, r9, none⟩) l2 ∧ LabAt w2 ea es⟩, ⟨fun k => w.heap.size ≤ k ∧ k < w1.heap.size, fun w2 => InsAt w2 (some ⟨p9, o9, none⟩) l1 ∧ LabAt w2 da ls⟩, ⟨fun k => k < w.heap.size, fun w' => Bytes w' a1 n1 ∧ Bytes w' a2 n2⟩] w391) := Sta.own0 w.heap.size 41 3 HS391
                try simp only [Act.put, List.setIfInBounds_toArray, List.set_cons_zero, List.set_cons_succ]
                go_cut [18] (fun v0 wx => v0 = .bool true ∧ Hid (Sta [] w [(w388.heap.size, [.int .i64 4, .string ⟨#[]⟩, .string ⟨#[]⟩]), (w381.heap.size, [.int .i64 5, .string ⟨#[]⟩, .string ⟨#[]⟩]), (w315.heap.size, [.int .i64 3, .string ⟨#[]⟩, .string ⟨#[]⟩])] [⟨fun k => (Value.slice (some ⟨a390, 0, none⟩) m390 c390).ownBlock = some k, fun w' => InsO w' w.heap.size (.slice (some ⟨a390, 0, none⟩) m390 c390) ((((l1 ++ ([⟨3, ⟨#[]⟩, ⟨#[]⟩⟩] : List InsV)) ++ l2) ++ ([⟨3, ⟨#[]⟩, ⟨#[]⟩⟩] : List InsV)) ++ ([⟨4, ⟨#[]⟩, ⟨#[]⟩⟩] : List InsV))⟩, ⟨fun k => (Value.slice (some ⟨a383, 0, none⟩) m383 c383).ownBlock = some k, fun w' => InsO w' w.heap.size (.slice (some ⟨a383, 0, none⟩) m383 c383) ((((l1 ++ ([⟨3, ⟨#[]⟩, ⟨#[]⟩⟩] : List InsV)) ++ l2) ++ ([⟨3, ⟨#[]⟩, ⟨#[]⟩⟩] : List InsV)) ++ ([⟨5, ⟨#[]⟩, ⟨#[]⟩⟩] : List InsV))⟩, ⟨fun k => (Value.slice (some ⟨g16, 0, none⟩) m16 k16).ownBlock = some k, fun w' => InsO w' w.heap.size (.slice (some ⟨g16, 0, none⟩) m16 k16) (((l1 ++ ([⟨3, ⟨#[]⟩, ⟨#[]⟩⟩] : List InsV)) ++ l2) ++ ([⟨3, ⟨#[]⟩, ⟨#[]⟩⟩] : List InsV))⟩, ⟨fun k => (Value.slice (some ⟨a322, 0, none⟩) m322 c322).ownBlock = some k, fun w' => InsO w' w.heap.size (.slice (some ⟨a322, 0, none⟩) m322 c322) (l1 ++ l2)⟩, ⟨fun k => w1.heap.size ≤ k ∧ k < w2.heap.size, fun w2 => InsAt w2 (some ⟨q9, r9, none⟩) l2 ∧ LabAt w2 ea es⟩, ⟨fun k => w.heap.size ≤ k ∧ k < w1.heap.size, fun w2 => InsAt w2 (some ⟨p9, o9, none⟩) l1 ∧ LabAt w2 da ls⟩, ⟨fun k => k < w.heap.size, fun w' => Bytes w' a1 n1 ∧ Bytes w' a2 n2⟩] wx))
                case first =>
                  go_wp2_with fail
                  have HS393 := Sta.drew HS392
                  refine wp_region_held_drew (S := fun w' => w'.cell? ⟨w315.heap.size, 0, none⟩ = some (.int .i64 3) ∧ w'.cell? ⟨w315.heap.size, 1, none⟩ = some (.string ⟨#[]⟩) ∧ w'.cell? ⟨w315.heap.size, 2, none⟩ = some (.string ⟨#[]⟩)) (by kernel_rfl) ⟨Sta.c (i := 2) HS393 rfl rfl, Sta.c (i := 2) HS393 rfl rfl, Sta.c (i := 2) HS393 rfl rfl⟩ (fun hHeld => ?_)
                  generalize w391.drew = w393 at *
                  refine wpAnyH_take (i := 1) (oi := ⟨_, _, _, _, _, _⟩) (v := .slice (some ⟨p9, o9, none⟩) pn pc) rfl (by kernel_rfl) (by kernel_rfl) (by kernel_rfl) (fun _ _ _ h => h) (Or.inl ⟨wanted_free rfl, fun w' hSw => ?_⟩) hHeld ?_
                  · go_simp
                  try simp only [Act.put, List.setIfInBounds_toArray, List.set_cons_zero, List.set_cons_succ]
                  refine wpAnyH_take (i := 3) (oi := ⟨_, _, _, _, _, _⟩) (v := .agg #[.int .i64 3, .string ⟨#[]⟩, .string ⟨#[]⟩]) rfl (by kernel_rfl) (by kernel_rfl) (by kernel_rfl) (fun _ _ _ h => h) (Or.inl ⟨wanted_free rfl, fun w' hSw => ?_⟩) hHeld ?_
                  · obtain ⟨s0, s1, s2⟩ := hSw
                    go_simp
                  try simp only [Act.put, List.setIfInBounds_toArray, List.set_cons_zero, List.set_cons_succ]
                  refine wpAnyH_take (i := 4) (oi := ⟨_, _, _, _, _, _⟩) (v := .agg #[.int .i64 3, .string ⟨#[]⟩, .string ⟨#[]⟩]) rfl (by kernel_rfl) (by kernel_rfl) (by kernel_rfl) (fun _ _ _ h => h) (Or.inl ⟨wanted_free rfl, fun w' hSw => ?_⟩) hHeld ?_
                  · obtain ⟨s0, s1, s2⟩ := hSw
                    go_simp
                  try simp only [Act.put, List.setIfInBounds_toArray, List.set_cons_zero, List.set_cons_succ]
                  refine wpAnyH_take (i := 7) (oi := ⟨_, _, _, _, _, _⟩) (v := .slice da dm de) rfl (by kernel_rfl) (by kernel_rfl) (by kernel_rfl) (fun _ _ _ h => h) (Or.inl ⟨wanted_free rfl, fun w' hSw => ?_⟩) hHeld ?_
                  · go_simp
                  try simp only [Act.put, List.setIfInBounds_toArray, List.set_cons_zero, List.set_cons_succ]
                  refine wpAnyH_ready (rs := [0, 5]) (by kernel_rfl) (by simp) (AllReadyH.cons (o := ⟨_, _, _, _, _, _⟩) rfl (fun K hK => ?_) (AllReadyH.cons (o := ⟨_, _, _, _, _, _⟩) rfl (fun K hK => ?_) AllReadyH.nil))
                  · as_aux_lemma =>
                    rewrite [if_pos (wanted_free rfl)]
                    with_reducible refine wp_buildIns0 (by with_unfolding_all rfl) w.heap.size (Sta.size HS393) ?_
                    intro w394 hO394 hG394
                    have HS394 := Sta.app 0 HS393 rfl (Nat.le_refl _) hO394 hG394 (Or.inr rfl)
                    clear hO394 hG394
                    refine hK.out _ _ ⟨Sta.c (i := 2) HS394 rfl rfl, Sta.c (i := 2) HS394 rfl rfl, Sta.c (i := 2) HS394 rfl rfl⟩ (fun hHeld => ?_)
                    clear hK K
                    try simp only [Act.put, List.setIfInBounds_toArray, List.set_cons_zero, List.set_cons_succ]
                    refine wpAnyH_ready (rs := [2, 5]) (by kernel_rfl) (by simp) (AllReadyH.cons (o := ⟨_, _, _, _, _, _⟩) rfl (fun K hK => ?_) (AllReadyH.cons (o := ⟨_, _, _, _, _, _⟩) rfl (fun K hK => ?_) AllReadyH.nil))
                    · as_aux_lemma =>
                      rewrite [if_pos (wanted_free rfl)]
                      with_reducible refine wp_appendInsM (W := w394) (.tmp 117) (.tmp 118) (by with_unfolding_all rfl) w.heap.size (.slice (some ⟨w393.heap.size, 0, none⟩) 0 0) ([]) p9 o9 pn pc l1 (by with_unfolding_all rfl) (Sta.t (i := 0) HS394 rfl) (by with_unfolding_all rfl) Hp1.out.1 (Sta.t (i := 6) HS394 rfl :).1 (by have hx := Hp1.out.1; have h1 := HY.out.len; have h2 := Hp1.out.1; have h3 := Hp2.out.1; simp only [List.length_append, List.length_cons, List.length_nil] at *; omega) (Sta.size HS394) ?_
                      intro v395 w395 hO395 hG395 hb395
                      obtain ⟨a395, m395, c395, hm395, rfl⟩ := InsO.formS hO395 (app_ne HN1.out)
                      have HS395 := Sta.app 0 HS394 rfl (Nat.le_refl _) hO395 hG395 hb395
                      have Hm395 := hidP hm395
                      clear hO395 hG395 hb395 hm395
                      refine hK.out _ _ ⟨Sta.c (i := 2) HS395 rfl rfl, Sta.c (i := 2) HS395 rfl rfl, Sta.c (i := 2) HS395 rfl rfl⟩ (fun hHeld => ?_)
                      clear hK K
                      try simp only [Act.put, List.setIfInBounds_toArray, List.set_cons_zero, List.set_cons_succ]
                      refine wpAnyH_ready (rs := [5]) (by kernel_rfl) (by simp) (AllReadyH.cons (o := ⟨_, _, _, _, _, _⟩) rfl (fun K hK => ?_) AllReadyH.nil)
                      rewrite [if_pos (wanted_free rfl)]
                      with_reducible refine wp_buildIns2 (.tmp 120) (.tmp 121) (by with_unfolding_all rfl) 3 (⟨#[]⟩) (⟨#[]⟩) 3 (⟨#[]⟩) (⟨#[]⟩) (by with_unfolding_all rfl) (by with_unfolding_all rfl) ?_
                      intro w396 hA396 hB396
                      have HS396 := Sta.new HS395 hA396 hB396 (by simp)
                      clear hA396 hB396
                      refine hK.out _ _ ⟨Sta.c (i := 3) HS396 rfl rfl, Sta.c (i := 3) HS396 rfl rfl, Sta.c (i := 3) HS396 rfl rfl⟩ (fun hHeld => ?_)
                      clear hK K
                      try simp only [Act.put, List.setIfInBounds_toArray, List.set_cons_zero, List.set_cons_succ]
                      refine wpAnyH_ready (rs := [6]) (by kernel_rfl) (by simp) (AllReadyH.cons (o := ⟨_, _, _, _, _, _⟩) rfl (fun K hK => ?_) AllReadyH.nil)
                      rewrite [if_pos (wanted_free rfl)]
                      with_reducible refine wp_appendInsM (W := w396) (.tmp 119) (.tmp 122) (by with_unfolding_all rfl) w.heap.size (.slice (some ⟨a395, 0, none⟩) m395 c395) l1 w395.heap.size 0 2 2 ([⟨3, ⟨#[]⟩, ⟨#[]⟩⟩, ⟨3, ⟨#[]⟩, ⟨#[]⟩⟩] : List InsV) (by with_unfolding_all rfl) (Sta.t (i := 0) HS396 rfl) (by with_unfolding_all rfl) rfl (RowV.ins (l := [⟨3, ⟨#[]⟩, ⟨#[]⟩⟩, ⟨3, ⟨#[]⟩, ⟨#[]⟩⟩]) (Sta.r (i := 0) HS396 (by with_unfolding_all rfl))) (by have hx := True.intro; have h1 := HY.out.len; have h2 := Hp1.out.1; have h3 := Hp2.out.1; simp only [List.length_append, List.length_cons, List.length_nil] at *; omega) (Sta.size HS396) ?_
                      intro v397 w397 hO397 hG397 hb397
                      obtain ⟨a397, m397, c397, hm397, rfl⟩ := InsO.formS hO397 (app_ne (by simp))
                      have HS397 := Sta.app 0 HS396 rfl (Nat.le_refl _) hO397 hG397 hb397
                      have Hm397 := hidP hm397
                      clear hO397 hG397 hb397 hm397
                      refine hK.out _ _ ⟨Sta.c (i := 3) HS397 rfl rfl, Sta.c (i := 3) HS397 rfl rfl, Sta.c (i := 3) HS397 rfl rfl⟩ (fun hHeld => ?_)
                      clear hK K
                      try simp only [Act.put, List.setIfInBounds_toArray, List.set_cons_zero, List.set_cons_succ]
                      refine wpAnyH_ready (rs := [8]) (by kernel_rfl) (by simp) (AllReadyH.cons (o := ⟨_, _, _, _, _, _⟩) rfl (fun K hK => ?_) AllReadyH.nil)
                      rewrite [if_pos (wanted_free rfl)]
                      go_simp
                      have n398_0 : InsAt w397 (some ⟨a397, 0, none⟩) (l1 ++ ([⟨3, ⟨#[]⟩, ⟨#[]⟩⟩, ⟨3, ⟨#[]⟩, ⟨#[]⟩⟩] : List InsV)) := (InsO.row (Sta.t (i := 0) HS397 rfl)).1.ins
                      have n398_1 : LabAt w397 da ls := (Sta.t (i := 6) HS397 rfl :).2
                      have n398_2 : ls.length = dm ∧ dm ≤ 100 := (And.intro Hp1.out.2.2.2.1 Hp1.out.2.2.2.2.1)
                      have n398_3 : (l1 ++ ([⟨3, ⟨#[]⟩, ⟨#[]⟩⟩, ⟨3, ⟨#[]⟩, ⟨#[]⟩⟩] : List InsV)).length = m397 ∧ m397 ≤ 100 ∧ (∀ x ∈ (l1 ++ ([⟨3, ⟨#[]⟩, ⟨#[]⟩⟩, ⟨3, ⟨#[]⟩, ⟨#[]⟩⟩] : List InsV)), x.w) := (len_w Hm397.out (by have h1 := HY.out.len; simp; omega) (w_app Hp1.out.2.2.1 (w_two w_3 w_3)))
                      have n398_4 : evalN (l1 ++ ([⟨3, ⟨#[]⟩, ⟨#[]⟩⟩, ⟨3, ⟨#[]⟩, ⟨#[]⟩⟩] : List InsV)) ls = true := (HY.out.w)
                      (with_reducible refine (hC59 w397 l1 da dm de ls a397 m397 c397 n398_0 n398_1 n398_2 n398_3 n398_4).mono ?_)
                      rintro r w398 ⟨rfl, hB398⟩
                      have HS398 := Sta.call HS397 hB398
                      clear hB398
                      go_wp2_with fail
                      refine hK.out _ _ ⟨Sta.c (i := 3) HS398 rfl rfl, Sta.c (i := 3) HS398 rfl rfl, Sta.c (i := 3) HS398 rfl rfl⟩ (fun hHeld => ?_)
                      clear hK K
                      try simp only [Act.put, List.setIfInBounds_toArray, List.set_cons_zero, List.set_cons_succ]
                      refine wpAnyH_take (i := 9) (oi := ⟨_, _, _, _, _, _⟩) (v := .bool true) rfl (by kernel_rfl) (by kernel_rfl) (by kernel_rfl) (fun _ _ _ h => h) (Or.inl ⟨wanted_free rfl, fun w' hSw => ?_⟩) hHeld ?_
                      · go_simp
                      try simp only [Act.put, List.setIfInBounds_toArray, List.set_cons_zero, List.set_cons_succ]
                      refine wpAnyH_done (by kernel_rfl) ?_ _
                      clear hHeld
                      go_wp2_with fail
                      go_meet
                      exact ⟨rfl, Sta.drop 1 1 HS398⟩
                    · as_aux_lemma =>
                      rewrite [if_pos (wanted_free rfl)]
                      with_reducible refine wp_buildIns2 (.tmp 120) (.tmp 121) (by with_unfolding_all rfl) 3 (⟨#[]⟩) (⟨#[]⟩) 3 (⟨#[]⟩) (⟨#[]⟩) (by with_unfolding_all rfl) (by with_unfolding_all rfl) ?_
                      intro w399 hA399 hB399
                      have HS399 := Sta.new HS394 hA399 hB399 (by simp)
                      clear hA399 hB399
                      refine hK.out _ _ ⟨Sta.c (i := 3) HS399 rfl rfl, Sta.c (i := 3) HS399 rfl rfl, Sta.c (i := 3) HS399 rfl rfl⟩ (fun hHeld => ?_)
                      clear hK K
                      try simp only [Act.put, List.setIfInBounds_toArray, List.set_cons_zero, List.set_cons_succ]
                      refine wpAnyH_ready (rs := [2]) (by kernel_rfl) (by simp) (AllReadyH.cons (o := ⟨_, _, _, _, _, _⟩) rfl (fun K hK => ?_) AllReadyH.nil)
                      rewrite [if_pos (wanted_free rfl)]
                      with_reducible refine wp_appendInsM (W := w399) (.tmp 117) (.tmp 118) (by with_unfolding_all rfl) w.heap.size (.slice (some ⟨w393.heap.size, 0, none⟩) 0 0) ([]) p9 o9 pn pc l1 (by with_unfolding_all rfl) (Sta.t (i := 0) HS399 rfl) (by with_unfolding_all rfl) Hp1.out.1 (Sta.t (i := 6) HS399 rfl :).1 (by have hx := Hp1.out.1; have h1 := HY.out.len; have h2 := Hp1.out.1; have h3 := Hp2.out.1; simp only [List.length_append, List.length_cons, List.length_nil] at *; omega) (Sta.size HS399) ?_
                      intro v400 w400 hO400 hG400 hb400
                      obtain ⟨a400, m400, c400, hm400, rfl⟩ := InsO.formS hO400 (app_ne HN1.out)
                      have HS400 := Sta.app 0 HS399 rfl (Nat.le_refl _) hO400 hG400 hb400
                      have Hm400 := hidP hm400
                      clear hO400 hG400 hb400 hm400
                      refine hK.out _ _ ⟨Sta.c (i := 3) HS400 rfl rfl, Sta.c (i := 3) HS400 rfl rfl, Sta.c (i := 3) HS400 rfl rfl⟩ (fun hHeld => ?_)
                      clear hK K
                      try simp only [Act.put, List.setIfInBounds_toArray, List.set_cons_zero, List.set_cons_succ]
                      refine wpAnyH_ready (rs := [6]) (by kernel_rfl) (by simp) (AllReadyH.cons (o := ⟨_, _, _, _, _, _⟩) rfl (fun K hK => ?_) AllReadyH.nil)
                      rewrite [if_pos (wanted_free rfl)]
                      with_reducible refine wp_appendInsM (W := w400) (.tmp 119) (.tmp 122) (by with_unfolding_all rfl) w.heap.size (.slice (some ⟨a400, 0, none⟩) m400 c400) l1 w394.heap.size 0 2 2 ([⟨3, ⟨#[]⟩, ⟨#[]⟩⟩, ⟨3, ⟨#[]⟩, ⟨#[]⟩⟩] : List InsV) (by with_unfolding_all rfl) (Sta.t (i := 0) HS400 rfl) (by with_unfolding_all rfl) rfl (RowV.ins (l := [⟨3, ⟨#[]⟩, ⟨#[]⟩⟩, ⟨3, ⟨#[]⟩, ⟨#[]⟩⟩]) (Sta.r (i := 0) HS400 (by with_unfolding_all rfl))) (by have hx := True.intro; have h1 := HY.out.len; have h2 := Hp1.out.1; have h3 := Hp2.out.1; simp only [List.length_append, List.length_cons, List.length_nil] at *; omega) (Sta.size HS400) ?_
                      intro v401 w401 hO401 hG401 hb401
                      obtain ⟨a401, m401, c401, hm401, rfl⟩ := InsO.formS hO401 (app_ne (by simp))
                      have HS401 := Sta.app 0 HS400 rfl (Nat.le_refl _) hO401 hG401 hb401
                      have Hm401 := hidP hm401
                      clear hO401 hG401 hb401 hm401
                      refine hK.out _ _ ⟨Sta.c (i := 3) HS401 rfl rfl, Sta.c (i := 3) HS401 rfl rfl, Sta.c (i := 3) HS401 rfl rfl⟩ (fun hHeld => ?_)
                      clear hK K
                      try simp only [Act.put, List.setIfInBounds_toArray, List.set_cons_zero, List.set_cons_succ]
                      refine wpAnyH_ready (rs := [8]) (by kernel_rfl) (by simp) (AllReadyH.cons (o := ⟨_, _, _, _, _, _⟩) rfl (fun K hK => ?_) AllReadyH.nil)
                      rewrite [if_pos (wanted_free rfl)]
                      go_simp
                      have n402_0 : InsAt w401 (some ⟨a401, 0, none⟩) (l1 ++ ([⟨3, ⟨#[]⟩, ⟨#[]⟩⟩, ⟨3, ⟨#[]⟩, ⟨#[]⟩⟩] : List InsV)) := (InsO.row (Sta.t (i := 0) HS401 rfl)).1.ins
                      have n402_1 : LabAt w401 da ls := (Sta.t (i := 6) HS401 rfl :).2
                      have n402_2 : ls.length = dm ∧ dm ≤ 100 := (And.intro Hp1.out.2.2.2.1 Hp1.out.2.2.2.2.1)
                      have n402_3 : (l1 ++ ([⟨3, ⟨#[]⟩, ⟨#[]⟩⟩, ⟨3, ⟨#[]⟩, ⟨#[]⟩⟩] : List InsV)).length = m401 ∧ m401 ≤ 100 ∧ (∀ x ∈ (l1 ++ ([⟨3, ⟨#[]⟩, ⟨#[]⟩⟩, ⟨3, ⟨#[]⟩, ⟨#[]⟩⟩] : List InsV)), x.w) := (len_w Hm401.out (by have h1 := HY.out.len; simp; omega) (w_app Hp1.out.2.2.1 (w_two w_3 w_3)))
                      have n402_4 : evalN (l1 ++ ([⟨3, ⟨#[]⟩, ⟨#[]⟩⟩, ⟨3, ⟨#[]⟩, ⟨#[]⟩⟩] : List InsV)) ls = true := (HY.out.w)
                      (with_reducible refine (hC60 w401 l1 da dm de ls a401 m401 c401 n402_0 n402_1 n402_2 n402_3 n402_4).mono ?_)
                      rintro r w402 ⟨rfl, hB402⟩
                      have HS402 := Sta.call HS401 hB402
                      clear hB402
                      go_wp2_with fail
                      refine hK.out _ _ ⟨Sta.c (i := 3) HS402 rfl rfl, Sta.c (i := 3) HS402 rfl rfl, Sta.c (i := 3) HS402 rfl rfl⟩ (fun hHeld => ?_)
                      clear hK K
                      try simp only [Act.put, List.setIfInBounds_toArray, List.set_cons_zero, List.set_cons_succ]
                      refine wpAnyH_take (i := 9) (oi := ⟨_, _, _, _, _, _⟩) (v := .bool true) rfl (by kernel_rfl) (by kernel_rfl) (by kernel_rfl) (fun _ _ _ h => h) (Or.inl ⟨wanted_free rfl, fun w' hSw => ?_⟩) hHeld ?_
                      · go_simp
                      try simp only [Act.put, List.setIfInBounds_toArray, List.set_cons_zero, List.set_cons_succ]
                      refine wpAnyH_done (by kernel_rfl) ?_ _
                      clear hHeld
                      go_wp2_with fail
                      go_meet
                      exact ⟨rfl, Sta.drop 1 1 HS402⟩
                  · as_aux_lemma =>
                    rewrite [if_pos (wanted_free rfl)]
                    with_reducible refine wp_buildIns2 (.tmp 120) (.tmp 121) (by with_unfolding_all rfl) 3 (⟨#[]⟩) (⟨#[]⟩) 3 (⟨#[]⟩) (⟨#[]⟩) (by with_unfolding_all rfl) (by with_unfolding_all rfl) ?_
                    intro w403 hA403 hB403
                    have HS403 := Sta.new HS393 hA403 hB403 (by simp)
                    clear hA403 hB403
                    refine hK.out _ _ ⟨Sta.c (i := 3) HS403 rfl rfl, Sta.c (i := 3) HS403 rfl rfl, Sta.c (i := 3) HS403 rfl rfl⟩ (fun hHeld => ?_)
                    clear hK K
                    try simp only [Act.put, List.setIfInBounds_toArray, List.set_cons_zero, List.set_cons_succ]
                    refine wpAnyH_ready (rs := [0]) (by kernel_rfl) (by simp) (AllReadyH.cons (o := ⟨_, _, _, _, _, _⟩) rfl (fun K hK => ?_) AllReadyH.nil)
                    rewrite [if_pos (wanted_free rfl)]
                    with_reducible refine wp_buildIns0 (by with_unfolding_all rfl) w.heap.size (Sta.size HS403) ?_
                    intro w404 hO404 hG404
                    have HS404 := Sta.app 0 HS403 rfl (Nat.le_refl _) hO404 hG404 (Or.inr rfl)
                    clear hO404 hG404
                    refine hK.out _ _ ⟨Sta.c (i := 3) HS404 rfl rfl, Sta.c (i := 3) HS404 rfl rfl, Sta.c (i := 3) HS404 rfl rfl⟩ (fun hHeld => ?_)
                    clear hK K
                    try simp only [Act.put, List.setIfInBounds_toArray, List.set_cons_zero, List.set_cons_succ]
                    refine wpAnyH_ready (rs := [2]) (by kernel_rfl) (by simp) (AllReadyH.cons (o := ⟨_, _, _, _, _, _⟩) rfl (fun K hK => ?_) AllReadyH.nil)
                    rewrite [if_pos (wanted_free rfl)]
                    with_reducible refine wp_appendInsM (W := w404) (.tmp 117) (.tmp 118) (by with_unfolding_all rfl) w.heap.size (.slice (some ⟨w403.heap.size, 0, none⟩) 0 0) ([]) p9 o9 pn pc l1 (by with_unfolding_all rfl) (Sta.t (i := 0) HS404 rfl) (by with_unfolding_all rfl) Hp1.out.1 (Sta.t (i := 6) HS404 rfl :).1 (by have hx := Hp1.out.1; have h1 := HY.out.len; have h2 := Hp1.out.1; have h3 := Hp2.out.1; simp only [List.length_append, List.length_cons, List.length_nil] at *; omega) (Sta.size HS404) ?_
                    intro v405 w405 hO405 hG405 hb405
                    obtain ⟨a405, m405, c405, hm405, rfl⟩ := InsO.formS hO405 (app_ne HN1.out)
                    have HS405 := Sta.app 0 HS404 rfl (Nat.le_refl _) hO405 hG405 hb405
                    have Hm405 := hidP hm405
                    clear hO405 hG405 hb405 hm405
                    refine hK.out _ _ ⟨Sta.c (i := 3) HS405 rfl rfl, Sta.c (i := 3) HS405 rfl rfl, Sta.c (i := 3) HS405 rfl rfl⟩ (fun hHeld => ?_)
                    clear hK K
                    try simp only [Act.put, List.setIfInBounds_toArray, List.set_cons_zero, List.set_cons_succ]
                    refine wpAnyH_ready (rs := [6]) (by kernel_rfl) (by simp) (AllReadyH.cons (o := ⟨_, _, _, _, _, _⟩) rfl (fun K hK => ?_) AllReadyH.nil)
                    rewrite [if_pos (wanted_free rfl)]
                    with_reducible refine wp_appendInsM (W := w405) (.tmp 119) (.tmp 122) (by with_unfolding_all rfl) w.heap.size (.slice (some ⟨a405, 0, none⟩) m405 c405) l1 w393.heap.size 0 2 2 ([⟨3, ⟨#[]⟩, ⟨#[]⟩⟩, ⟨3, ⟨#[]⟩, ⟨#[]⟩⟩] : List InsV) (by with_unfolding_all rfl) (Sta.t (i := 0) HS405 rfl) (by with_unfolding_all rfl) rfl (RowV.ins (l := [⟨3, ⟨#[]⟩, ⟨#[]⟩⟩, ⟨3, ⟨#[]⟩, ⟨#[]⟩⟩]) (Sta.r (i := 0) HS405 (by with_unfolding_all rfl))) (by have hx := True.intro; have h1 := HY.out.len; have h2 := Hp1.out.1; have h3 := Hp2.out.1; simp only [List.length_append, List.length_cons, List.length_nil] at *; omega) (Sta.size HS405) ?_
                    intro v406 w406 hO406 hG406 hb406
                    obtain ⟨a406, m406, c406, hm406, rfl⟩ := InsO.formS hO406 (app_ne (by simp))
                    have HS406 := Sta.app 0 HS405 rfl (Nat.le_refl _) hO406 hG406 hb406
                    have Hm406 := hidP hm406
                    clear hO406 hG406 hb406 hm406
                    refine hK.out _ _ ⟨Sta.c (i := 3) HS406 rfl rfl, Sta.c (i := 3) HS406 rfl rfl, Sta.c (i := 3) HS406 rfl rfl⟩ (fun hHeld => ?_)
                    clear hK K
                    try simp only [Act.put, List.setIfInBounds_toArray, List.set_cons_zero, List.set_cons_succ]
                    refine wpAnyH_ready (rs := [8]) (by kernel_rfl) (by simp) (AllReadyH.cons (o := ⟨_, _, _, _, _, _⟩) rfl (fun K hK => ?_) AllReadyH.nil)
                    rewrite [if_pos (wanted_free rfl)]
                    go_simp
                    have n407_0 : InsAt w406 (some ⟨a406, 0, none⟩) (l1 ++ ([⟨3, ⟨#[]⟩, ⟨#[]⟩⟩, ⟨3, ⟨#[]⟩, ⟨#[]⟩⟩] : List InsV)) := (InsO.row (Sta.t (i := 0) HS406 rfl)).1.ins
                    have n407_1 : LabAt w406 da ls := (Sta.t (i := 6) HS406 rfl :).2
                    have n407_2 : ls.length = dm ∧ dm ≤ 100 := (And.intro Hp1.out.2.2.2.1 Hp1.out.2.2.2.2.1)
                    have n407_3 : (l1 ++ ([⟨3, ⟨#[]⟩, ⟨#[]⟩⟩, ⟨3, ⟨#[]⟩, ⟨#[]⟩⟩] : List InsV)).length = m406 ∧ m406 ≤ 100 ∧ (∀ x ∈ (l1 ++ ([⟨3, ⟨#[]⟩, ⟨#[]⟩⟩, ⟨3, ⟨#[]⟩, ⟨#[]⟩⟩] : List InsV)), x.w) := (len_w Hm406.out (by have h1 := HY.out.len; simp; omega) (w_app Hp1.out.2.2.1 (w_two w_3 w_3)))
                    have n407_4 : evalN (l1 ++ ([⟨3, ⟨#[]⟩, ⟨#[]⟩⟩, ⟨3, ⟨#[]⟩, ⟨#[]⟩⟩] : List InsV)) ls = true := (HY.out.w)
                    (with_reducible refine (hC61 w406 l1 da dm de ls a406 m406 c406 n407_0 n407_1 n407_2 n407_3 n407_4).mono ?_)
                    rintro r w407 ⟨rfl, hB407⟩
                    have HS407 := Sta.call HS406 hB407
                    clear hB407
                    go_wp2_with fail
                    refine hK.out _ _ ⟨Sta.c (i := 3) HS407 rfl rfl, Sta.c (i := 3) HS407 rfl rfl, Sta.c (i := 3) HS407 rfl rfl⟩ (fun hHeld => ?_)
                    clear hK K
                    try simp only [Act.put, List.setIfInBounds_toArray, List.set_cons_zero, List.set_cons_succ]
                    refine wpAnyH_take (i := 9) (oi := ⟨_, _, _, _, _, _⟩) (v := .bool true) rfl (by kernel_rfl) (by kernel_rfl) (by kernel_rfl) (fun _ _ _ h => h) (Or.inl ⟨wanted_free rfl, fun w' hSw => ?_⟩) hHeld ?_
                    · go_simp
                    try simp only [Act.put, List.setIfInBounds_toArray, List.set_cons_zero, List.set_cons_succ]
                    refine wpAnyH_done (by kernel_rfl) ?_ _
                    clear hHeld
                    go_wp2_with fail
                    go_meet
                    exact ⟨rfl, Sta.drop 1 1 HS407⟩
                case rest =>
                  obtain ⟨rfl, HS408⟩ := hcut
                  rename Go.World => wl408
                  go_wp2_with fail
                  go_ret
                  exact ⟨rfl, Sta.fin HS408⟩
end Go.Proofs.Ytaalegjhhpfhbaa
