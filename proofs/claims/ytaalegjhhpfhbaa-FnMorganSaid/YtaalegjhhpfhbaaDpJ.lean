/- A branch of the law FnMorgan. -/
import Derived.Test.YtaalegjhhpfhbaaDpH
import Derived.Deep.RegionHeld3
import Derived.Deep.DeepCutAuto
import Derived.Deep.CutRange
namespace Go.Proofs.Ytaalegjhhpfhbaa
open Go.RowKit
set_option linter.unusedVariables false

set_option maxRecDepth 100000 in
set_option maxHeartbeats 64000000 in
theorem morgQ1 (a1 : Option Addr) (n1 c1 : Nat) (a2 : Option Addr) (n2 c2 : Nat) (w : World) (hn1 : n1 ≤ 9223372036854775807) (hn2 : n2 ≤ 9223372036854775807) : (morgPack a1 n1 c1 a2 n2 c2 w hn1 hn2).q1 := by
  skip
  have hC10 : ∀ w0 (pn : Nat) (pc : Nat) (l1 : List InsV) (da : Option Addr) (dm : Nat) (de : Nat) (ls : List LabV) (p9 : Nat) (o9 : Nat), (InsAt w0 (some ⟨p9, o9, none⟩) l1) → (LabAt w0 da ls) → (ls.length = dm ∧ dm ≤ 100) → (l1.length = pn ∧ pn ≤ 100 ∧ (∀ x ∈ l1, x.w)) → (evalN l1 ls = false) → Calls Try.prog 19 #[.slice (some ⟨p9, o9, none⟩) pn pc, .slice da dm de] w0 fun r w' => r = .returned (.bool false) ∧ Below w0.heap.size w0 w' := fun w0 pn pc l1 da dm de ls p9 o9 n0 n1 n2 n3 n4 => by rw [← n4]; exact implPolE (some ⟨p9, o9, none⟩) pc pn l1 da de dm ls w0 n3.1 n0 (Nat.le_trans n3.2.1 (by decide)) n3.2.2 n2.1 n1 (Nat.le_trans n2.2 (by decide))
  have hC12 : ∀ w0 (pn : Nat) (pc : Nat) (l1 : List InsV) (da : Option Addr) (dm : Nat) (de : Nat) (ls : List LabV) (p9 : Nat) (o9 : Nat), (InsAt w0 (some ⟨p9, o9, none⟩) l1) → (LabAt w0 da ls) → (ls.length = dm ∧ dm ≤ 100) → (l1.length = pn ∧ pn ≤ 100 ∧ (∀ x ∈ l1, x.w)) → (evalN l1 ls = false) → Calls Try.prog 17 #[.slice (some ⟨p9, o9, none⟩) pn pc, .slice da dm de] w0 fun r w' => r = .returned (.bool false) ∧ Below w0.heap.size w0 w' := fun w0 pn pc l1 da dm de ls p9 o9 n0 n1 n2 n3 n4 => by rw [← n4]; exact specPolE (some ⟨p9, o9, none⟩) pc pn l1 da de dm ls w0 n3.1 n0 (Nat.le_trans n3.2.1 (by decide)) n3.2.2 n2.1 n1 (Nat.le_trans n2.2 (by decide))
  have hC13 : ∀ w0 (pn : Nat) (pc : Nat) (l1 : List InsV) (y1 : Nd) (p9 : Nat) (o9 : Nat), (InsAt w0 (some ⟨p9, o9, none⟩) l1) → (l1.length = pn ∧ pn ≤ 100 ∧ (∀ x ∈ l1, x.w)) → (nodeN l1 = some y1) → Calls Try.prog 12 #[.slice (some ⟨p9, o9, none⟩) pn pc] w0 fun r w' => r = .returned (.bool true) ∧ Below w0.heap.size w0 w' := fun w0 pn pc l1 y1 p9 o9 n0 n1 n2 => by have hh := specPolR (some ⟨p9, o9, none⟩) pc pn l1 w0 n1.1 n0 (Nat.le_trans n1.2.1 (by decide)) n1.2.2; rw [n2] at hh; exact hh
  have hC14 : ∀ w0 (qn : Nat) (qc : Nat) (l2 : List InsV) (y2 : Nd) (q9 : Nat) (r9 : Nat), (InsAt w0 (some ⟨q9, r9, none⟩) l2) → (l2.length = qn ∧ qn ≤ 100 ∧ (∀ x ∈ l2, x.w)) → (nodeN l2 = some y2) → Calls Try.prog 12 #[.slice (some ⟨q9, r9, none⟩) qn qc] w0 fun r w' => r = .returned (.bool true) ∧ Below w0.heap.size w0 w' := fun w0 qn qc l2 y2 q9 r9 n0 n1 n2 => by have hh := specPolR (some ⟨q9, r9, none⟩) qc qn l2 w0 n1.1 n0 (Nat.le_trans n1.2.1 (by decide)) n1.2.2; rw [n2] at hh; exact hh
  have hC26 : ∀ w0 (da : Option Addr) (dm : Nat) (de : Nat) (ls : List LabV) (qn : Nat) (qc : Nat) (l2 : List InsV) (q9 : Nat) (r9 : Nat), (InsAt w0 (some ⟨q9, r9, none⟩) l2) → (LabAt w0 da ls) → (ls.length = dm ∧ dm ≤ 100) → (l2.length = qn ∧ qn ≤ 100 ∧ (∀ x ∈ l2, x.w)) → (evalN l2 ls = true) → Calls Try.prog 19 #[.slice (some ⟨q9, r9, none⟩) qn qc, .slice da dm de] w0 fun r w' => r = .returned (.bool true) ∧ Below w0.heap.size w0 w' := fun w0 da dm de ls qn qc l2 q9 r9 n0 n1 n2 n3 n4 => by rw [← n4]; exact implPolE (some ⟨q9, r9, none⟩) qc qn l2 da de dm ls w0 n3.1 n0 (Nat.le_trans n3.2.1 (by decide)) n3.2.2 n2.1 n1 (Nat.le_trans n2.2 (by decide))
  have hC27 : ∀ w0 (l1 : List InsV) (da : Option Addr) (dm : Nat) (de : Nat) (ls : List LabV) (l2 : List InsV) (a132 : Nat) (m132 : Nat) (c132 : Nat), (InsAt w0 (some ⟨a132, 0, none⟩) ((l1 ++ l2) ++ ([⟨4, ⟨#[]⟩, ⟨#[]⟩⟩, ⟨3, ⟨#[]⟩, ⟨#[]⟩⟩] : List InsV))) → (LabAt w0 da ls) → (ls.length = dm ∧ dm ≤ 100) → (((l1 ++ l2) ++ ([⟨4, ⟨#[]⟩, ⟨#[]⟩⟩, ⟨3, ⟨#[]⟩, ⟨#[]⟩⟩] : List InsV)).length = m132 ∧ m132 ≤ 100 ∧ (∀ x ∈ ((l1 ++ l2) ++ ([⟨4, ⟨#[]⟩, ⟨#[]⟩⟩, ⟨3, ⟨#[]⟩, ⟨#[]⟩⟩] : List InsV)), x.w)) → (evalN ((l1 ++ l2) ++ ([⟨4, ⟨#[]⟩, ⟨#[]⟩⟩, ⟨3, ⟨#[]⟩, ⟨#[]⟩⟩] : List InsV)) ls = true) → Calls Try.prog 19 #[.slice (some ⟨a132, 0, none⟩) m132 c132, .slice da dm de] w0 fun r w' => r = .returned (.bool true) ∧ Below w0.heap.size w0 w' := fun w0 l1 da dm de ls l2 a132 m132 c132 n0 n1 n2 n3 n4 => by rw [← n4]; exact implPolE (some ⟨a132, 0, none⟩) c132 m132 ((l1 ++ l2) ++ ([⟨4, ⟨#[]⟩, ⟨#[]⟩⟩, ⟨3, ⟨#[]⟩, ⟨#[]⟩⟩] : List InsV)) da de dm ls w0 n3.1 n0 (Nat.le_trans n3.2.1 (by decide)) n3.2.2 n2.1 n1 (Nat.le_trans n2.2 (by decide))
  have hC28 : ∀ w0 (l1 : List InsV) (da : Option Addr) (dm : Nat) (de : Nat) (ls : List LabV) (l2 : List InsV) (a136 : Nat) (m136 : Nat) (c136 : Nat), (InsAt w0 (some ⟨a136, 0, none⟩) ((l1 ++ l2) ++ ([⟨4, ⟨#[]⟩, ⟨#[]⟩⟩, ⟨3, ⟨#[]⟩, ⟨#[]⟩⟩] : List InsV))) → (LabAt w0 da ls) → (ls.length = dm ∧ dm ≤ 100) → (((l1 ++ l2) ++ ([⟨4, ⟨#[]⟩, ⟨#[]⟩⟩, ⟨3, ⟨#[]⟩, ⟨#[]⟩⟩] : List InsV)).length = m136 ∧ m136 ≤ 100 ∧ (∀ x ∈ ((l1 ++ l2) ++ ([⟨4, ⟨#[]⟩, ⟨#[]⟩⟩, ⟨3, ⟨#[]⟩, ⟨#[]⟩⟩] : List InsV)), x.w)) → (evalN ((l1 ++ l2) ++ ([⟨4, ⟨#[]⟩, ⟨#[]⟩⟩, ⟨3, ⟨#[]⟩, ⟨#[]⟩⟩] : List InsV)) ls = true) → Calls Try.prog 19 #[.slice (some ⟨a136, 0, none⟩) m136 c136, .slice da dm de] w0 fun r w' => r = .returned (.bool true) ∧ Below w0.heap.size w0 w' := fun w0 l1 da dm de ls l2 a136 m136 c136 n0 n1 n2 n3 n4 => by rw [← n4]; exact implPolE (some ⟨a136, 0, none⟩) c136 m136 ((l1 ++ l2) ++ ([⟨4, ⟨#[]⟩, ⟨#[]⟩⟩, ⟨3, ⟨#[]⟩, ⟨#[]⟩⟩] : List InsV)) da de dm ls w0 n3.1 n0 (Nat.le_trans n3.2.1 (by decide)) n3.2.2 n2.1 n1 (Nat.le_trans n2.2 (by decide))
  have hC29 : ∀ w0 (l1 : List InsV) (da : Option Addr) (dm : Nat) (de : Nat) (ls : List LabV) (l2 : List InsV) (a141 : Nat) (m141 : Nat) (c141 : Nat), (InsAt w0 (some ⟨a141, 0, none⟩) ((l1 ++ l2) ++ ([⟨4, ⟨#[]⟩, ⟨#[]⟩⟩, ⟨3, ⟨#[]⟩, ⟨#[]⟩⟩] : List InsV))) → (LabAt w0 da ls) → (ls.length = dm ∧ dm ≤ 100) → (((l1 ++ l2) ++ ([⟨4, ⟨#[]⟩, ⟨#[]⟩⟩, ⟨3, ⟨#[]⟩, ⟨#[]⟩⟩] : List InsV)).length = m141 ∧ m141 ≤ 100 ∧ (∀ x ∈ ((l1 ++ l2) ++ ([⟨4, ⟨#[]⟩, ⟨#[]⟩⟩, ⟨3, ⟨#[]⟩, ⟨#[]⟩⟩] : List InsV)), x.w)) → (evalN ((l1 ++ l2) ++ ([⟨4, ⟨#[]⟩, ⟨#[]⟩⟩, ⟨3, ⟨#[]⟩, ⟨#[]⟩⟩] : List InsV)) ls = true) → Calls Try.prog 19 #[.slice (some ⟨a141, 0, none⟩) m141 c141, .slice da dm de] w0 fun r w' => r = .returned (.bool true) ∧ Below w0.heap.size w0 w' := fun w0 l1 da dm de ls l2 a141 m141 c141 n0 n1 n2 n3 n4 => by rw [← n4]; exact implPolE (some ⟨a141, 0, none⟩) c141 m141 ((l1 ++ l2) ++ ([⟨4, ⟨#[]⟩, ⟨#[]⟩⟩, ⟨3, ⟨#[]⟩, ⟨#[]⟩⟩] : List InsV)) da de dm ls w0 n3.1 n0 (Nat.le_trans n3.2.1 (by decide)) n3.2.2 n2.1 n1 (Nat.le_trans n2.2 (by decide))
  have hC30 : ∀ w0 (l1 : List InsV) (da : Option Addr) (dm : Nat) (de : Nat) (ls : List LabV) (l2 : List InsV) (a149 : Nat) (m149 : Nat) (c149 : Nat), (InsAt w0 (some ⟨a149, 0, none⟩) ((l1 ++ l2) ++ ([⟨5, ⟨#[]⟩, ⟨#[]⟩⟩, ⟨3, ⟨#[]⟩, ⟨#[]⟩⟩] : List InsV))) → (LabAt w0 da ls) → (ls.length = dm ∧ dm ≤ 100) → (((l1 ++ l2) ++ ([⟨5, ⟨#[]⟩, ⟨#[]⟩⟩, ⟨3, ⟨#[]⟩, ⟨#[]⟩⟩] : List InsV)).length = m149 ∧ m149 ≤ 100 ∧ (∀ x ∈ ((l1 ++ l2) ++ ([⟨5, ⟨#[]⟩, ⟨#[]⟩⟩, ⟨3, ⟨#[]⟩, ⟨#[]⟩⟩] : List InsV)), x.w)) → (evalN ((l1 ++ l2) ++ ([⟨5, ⟨#[]⟩, ⟨#[]⟩⟩, ⟨3, ⟨#[]⟩, ⟨#[]⟩⟩] : List InsV)) ls = false) → Calls Try.prog 19 #[.slice (some ⟨a149, 0, none⟩) m149 c149, .slice da dm de] w0 fun r w' => r = .returned (.bool false) ∧ Below w0.heap.size w0 w' := fun w0 l1 da dm de ls l2 a149 m149 c149 n0 n1 n2 n3 n4 => by rw [← n4]; exact implPolE (some ⟨a149, 0, none⟩) c149 m149 ((l1 ++ l2) ++ ([⟨5, ⟨#[]⟩, ⟨#[]⟩⟩, ⟨3, ⟨#[]⟩, ⟨#[]⟩⟩] : List InsV)) da de dm ls w0 n3.1 n0 (Nat.le_trans n3.2.1 (by decide)) n3.2.2 n2.1 n1 (Nat.le_trans n2.2 (by decide))
  have hC31 : ∀ w0 (l1 : List InsV) (da : Option Addr) (dm : Nat) (de : Nat) (ls : List LabV) (l2 : List InsV) (a153 : Nat) (m153 : Nat) (c153 : Nat), (InsAt w0 (some ⟨a153, 0, none⟩) ((l1 ++ l2) ++ ([⟨5, ⟨#[]⟩, ⟨#[]⟩⟩, ⟨3, ⟨#[]⟩, ⟨#[]⟩⟩] : List InsV))) → (LabAt w0 da ls) → (ls.length = dm ∧ dm ≤ 100) → (((l1 ++ l2) ++ ([⟨5, ⟨#[]⟩, ⟨#[]⟩⟩, ⟨3, ⟨#[]⟩, ⟨#[]⟩⟩] : List InsV)).length = m153 ∧ m153 ≤ 100 ∧ (∀ x ∈ ((l1 ++ l2) ++ ([⟨5, ⟨#[]⟩, ⟨#[]⟩⟩, ⟨3, ⟨#[]⟩, ⟨#[]⟩⟩] : List InsV)), x.w)) → (evalN ((l1 ++ l2) ++ ([⟨5, ⟨#[]⟩, ⟨#[]⟩⟩, ⟨3, ⟨#[]⟩, ⟨#[]⟩⟩] : List InsV)) ls = false) → Calls Try.prog 19 #[.slice (some ⟨a153, 0, none⟩) m153 c153, .slice da dm de] w0 fun r w' => r = .returned (.bool false) ∧ Below w0.heap.size w0 w' := fun w0 l1 da dm de ls l2 a153 m153 c153 n0 n1 n2 n3 n4 => by rw [← n4]; exact implPolE (some ⟨a153, 0, none⟩) c153 m153 ((l1 ++ l2) ++ ([⟨5, ⟨#[]⟩, ⟨#[]⟩⟩, ⟨3, ⟨#[]⟩, ⟨#[]⟩⟩] : List InsV)) da de dm ls w0 n3.1 n0 (Nat.le_trans n3.2.1 (by decide)) n3.2.2 n2.1 n1 (Nat.le_trans n2.2 (by decide))
  have hC32 : ∀ w0 (l1 : List InsV) (da : Option Addr) (dm : Nat) (de : Nat) (ls : List LabV) (l2 : List InsV) (a158 : Nat) (m158 : Nat) (c158 : Nat), (InsAt w0 (some ⟨a158, 0, none⟩) ((l1 ++ l2) ++ ([⟨5, ⟨#[]⟩, ⟨#[]⟩⟩, ⟨3, ⟨#[]⟩, ⟨#[]⟩⟩] : List InsV))) → (LabAt w0 da ls) → (ls.length = dm ∧ dm ≤ 100) → (((l1 ++ l2) ++ ([⟨5, ⟨#[]⟩, ⟨#[]⟩⟩, ⟨3, ⟨#[]⟩, ⟨#[]⟩⟩] : List InsV)).length = m158 ∧ m158 ≤ 100 ∧ (∀ x ∈ ((l1 ++ l2) ++ ([⟨5, ⟨#[]⟩, ⟨#[]⟩⟩, ⟨3, ⟨#[]⟩, ⟨#[]⟩⟩] : List InsV)), x.w)) → (evalN ((l1 ++ l2) ++ ([⟨5, ⟨#[]⟩, ⟨#[]⟩⟩, ⟨3, ⟨#[]⟩, ⟨#[]⟩⟩] : List InsV)) ls = false) → Calls Try.prog 19 #[.slice (some ⟨a158, 0, none⟩) m158 c158, .slice da dm de] w0 fun r w' => r = .returned (.bool false) ∧ Below w0.heap.size w0 w' := fun w0 l1 da dm de ls l2 a158 m158 c158 n0 n1 n2 n3 n4 => by rw [← n4]; exact implPolE (some ⟨a158, 0, none⟩) c158 m158 ((l1 ++ l2) ++ ([⟨5, ⟨#[]⟩, ⟨#[]⟩⟩, ⟨3, ⟨#[]⟩, ⟨#[]⟩⟩] : List InsV)) da de dm ls w0 n3.1 n0 (Nat.le_trans n3.2.1 (by decide)) n3.2.2 n2.1 n1 (Nat.le_trans n2.2 (by decide))
  have hC33 : ∀ w0 (l1 : List InsV) (da : Option Addr) (dm : Nat) (de : Nat) (ls : List LabV) (l2 : List InsV) (a187 : Nat) (m187 : Nat) (c187 : Nat), (InsAt w0 (some ⟨a187, 0, none⟩) ((((l1 ++ ([⟨3, ⟨#[]⟩, ⟨#[]⟩⟩] : List InsV)) ++ l2) ++ ([⟨3, ⟨#[]⟩, ⟨#[]⟩⟩] : List InsV)) ++ ([⟨5, ⟨#[]⟩, ⟨#[]⟩⟩] : List InsV))) → (LabAt w0 da ls) → (ls.length = dm ∧ dm ≤ 100) → (((((l1 ++ ([⟨3, ⟨#[]⟩, ⟨#[]⟩⟩] : List InsV)) ++ l2) ++ ([⟨3, ⟨#[]⟩, ⟨#[]⟩⟩] : List InsV)) ++ ([⟨5, ⟨#[]⟩, ⟨#[]⟩⟩] : List InsV)).length = m187 ∧ m187 ≤ 100 ∧ (∀ x ∈ ((((l1 ++ ([⟨3, ⟨#[]⟩, ⟨#[]⟩⟩] : List InsV)) ++ l2) ++ ([⟨3, ⟨#[]⟩, ⟨#[]⟩⟩] : List InsV)) ++ ([⟨5, ⟨#[]⟩, ⟨#[]⟩⟩] : List InsV)), x.w)) → (evalN ((((l1 ++ ([⟨3, ⟨#[]⟩, ⟨#[]⟩⟩] : List InsV)) ++ l2) ++ ([⟨3, ⟨#[]⟩, ⟨#[]⟩⟩] : List InsV)) ++ ([⟨5, ⟨#[]⟩, ⟨#[]⟩⟩] : List InsV)) ls = true) → Calls Try.prog 19 #[.slice (some ⟨a187, 0, none⟩) m187 c187, .slice da dm de] w0 fun r w' => r = .returned (.bool true) ∧ Below w0.heap.size w0 w' := fun w0 l1 da dm de ls l2 a187 m187 c187 n0 n1 n2 n3 n4 => by rw [← n4]; exact implPolE (some ⟨a187, 0, none⟩) c187 m187 ((((l1 ++ ([⟨3, ⟨#[]⟩, ⟨#[]⟩⟩] : List InsV)) ++ l2) ++ ([⟨3, ⟨#[]⟩, ⟨#[]⟩⟩] : List InsV)) ++ ([⟨5, ⟨#[]⟩, ⟨#[]⟩⟩] : List InsV)) da de dm ls w0 n3.1 n0 (Nat.le_trans n3.2.1 (by decide)) n3.2.2 n2.1 n1 (Nat.le_trans n2.2 (by decide))
  have hC34 : ∀ w0 (l1 : List InsV) (da : Option Addr) (dm : Nat) (de : Nat) (ls : List LabV) (l2 : List InsV) (a194 : Nat) (m194 : Nat) (c194 : Nat), (InsAt w0 (some ⟨a194, 0, none⟩) ((((l1 ++ ([⟨3, ⟨#[]⟩, ⟨#[]⟩⟩] : List InsV)) ++ l2) ++ ([⟨3, ⟨#[]⟩, ⟨#[]⟩⟩] : List InsV)) ++ ([⟨4, ⟨#[]⟩, ⟨#[]⟩⟩] : List InsV))) → (LabAt w0 da ls) → (ls.length = dm ∧ dm ≤ 100) → (((((l1 ++ ([⟨3, ⟨#[]⟩, ⟨#[]⟩⟩] : List InsV)) ++ l2) ++ ([⟨3, ⟨#[]⟩, ⟨#[]⟩⟩] : List InsV)) ++ ([⟨4, ⟨#[]⟩, ⟨#[]⟩⟩] : List InsV)).length = m194 ∧ m194 ≤ 100 ∧ (∀ x ∈ ((((l1 ++ ([⟨3, ⟨#[]⟩, ⟨#[]⟩⟩] : List InsV)) ++ l2) ++ ([⟨3, ⟨#[]⟩, ⟨#[]⟩⟩] : List InsV)) ++ ([⟨4, ⟨#[]⟩, ⟨#[]⟩⟩] : List InsV)), x.w)) → (evalN ((((l1 ++ ([⟨3, ⟨#[]⟩, ⟨#[]⟩⟩] : List InsV)) ++ l2) ++ ([⟨3, ⟨#[]⟩, ⟨#[]⟩⟩] : List InsV)) ++ ([⟨4, ⟨#[]⟩, ⟨#[]⟩⟩] : List InsV)) ls = false) → Calls Try.prog 19 #[.slice (some ⟨a194, 0, none⟩) m194 c194, .slice da dm de] w0 fun r w' => r = .returned (.bool false) ∧ Below w0.heap.size w0 w' := fun w0 l1 da dm de ls l2 a194 m194 c194 n0 n1 n2 n3 n4 => by rw [← n4]; exact implPolE (some ⟨a194, 0, none⟩) c194 m194 ((((l1 ++ ([⟨3, ⟨#[]⟩, ⟨#[]⟩⟩] : List InsV)) ++ l2) ++ ([⟨3, ⟨#[]⟩, ⟨#[]⟩⟩] : List InsV)) ++ ([⟨4, ⟨#[]⟩, ⟨#[]⟩⟩] : List InsV)) da de dm ls w0 n3.1 n0 (Nat.le_trans n3.2.1 (by decide)) n3.2.2 n2.1 n1 (Nat.le_trans n2.2 (by decide))
  have hC35 : ∀ w0 (l1 : List InsV) (da : Option Addr) (dm : Nat) (de : Nat) (ls : List LabV) (a201 : Nat) (m201 : Nat) (c201 : Nat), (InsAt w0 (some ⟨a201, 0, none⟩) (l1 ++ ([⟨3, ⟨#[]⟩, ⟨#[]⟩⟩, ⟨3, ⟨#[]⟩, ⟨#[]⟩⟩] : List InsV))) → (LabAt w0 da ls) → (ls.length = dm ∧ dm ≤ 100) → ((l1 ++ ([⟨3, ⟨#[]⟩, ⟨#[]⟩⟩, ⟨3, ⟨#[]⟩, ⟨#[]⟩⟩] : List InsV)).length = m201 ∧ m201 ≤ 100 ∧ (∀ x ∈ (l1 ++ ([⟨3, ⟨#[]⟩, ⟨#[]⟩⟩, ⟨3, ⟨#[]⟩, ⟨#[]⟩⟩] : List InsV)), x.w)) → (evalN (l1 ++ ([⟨3, ⟨#[]⟩, ⟨#[]⟩⟩, ⟨3, ⟨#[]⟩, ⟨#[]⟩⟩] : List InsV)) ls = false) → Calls Try.prog 19 #[.slice (some ⟨a201, 0, none⟩) m201 c201, .slice da dm de] w0 fun r w' => r = .returned (.bool false) ∧ Below w0.heap.size w0 w' := fun w0 l1 da dm de ls a201 m201 c201 n0 n1 n2 n3 n4 => by rw [← n4]; exact implPolE (some ⟨a201, 0, none⟩) c201 m201 (l1 ++ ([⟨3, ⟨#[]⟩, ⟨#[]⟩⟩, ⟨3, ⟨#[]⟩, ⟨#[]⟩⟩] : List InsV)) da de dm ls w0 n3.1 n0 (Nat.le_trans n3.2.1 (by decide)) n3.2.2 n2.1 n1 (Nat.le_trans n2.2 (by decide))
  have hC36 : ∀ w0 (l1 : List InsV) (da : Option Addr) (dm : Nat) (de : Nat) (ls : List LabV) (a205 : Nat) (m205 : Nat) (c205 : Nat), (InsAt w0 (some ⟨a205, 0, none⟩) (l1 ++ ([⟨3, ⟨#[]⟩, ⟨#[]⟩⟩, ⟨3, ⟨#[]⟩, ⟨#[]⟩⟩] : List InsV))) → (LabAt w0 da ls) → (ls.length = dm ∧ dm ≤ 100) → ((l1 ++ ([⟨3, ⟨#[]⟩, ⟨#[]⟩⟩, ⟨3, ⟨#[]⟩, ⟨#[]⟩⟩] : List InsV)).length = m205 ∧ m205 ≤ 100 ∧ (∀ x ∈ (l1 ++ ([⟨3, ⟨#[]⟩, ⟨#[]⟩⟩, ⟨3, ⟨#[]⟩, ⟨#[]⟩⟩] : List InsV)), x.w)) → (evalN (l1 ++ ([⟨3, ⟨#[]⟩, ⟨#[]⟩⟩, ⟨3, ⟨#[]⟩, ⟨#[]⟩⟩] : List InsV)) ls = false) → Calls Try.prog 19 #[.slice (some ⟨a205, 0, none⟩) m205 c205, .slice da dm de] w0 fun r w' => r = .returned (.bool false) ∧ Below w0.heap.size w0 w' := fun w0 l1 da dm de ls a205 m205 c205 n0 n1 n2 n3 n4 => by rw [← n4]; exact implPolE (some ⟨a205, 0, none⟩) c205 m205 (l1 ++ ([⟨3, ⟨#[]⟩, ⟨#[]⟩⟩, ⟨3, ⟨#[]⟩, ⟨#[]⟩⟩] : List InsV)) da de dm ls w0 n3.1 n0 (Nat.le_trans n3.2.1 (by decide)) n3.2.2 n2.1 n1 (Nat.le_trans n2.2 (by decide))
  have hC37 : ∀ w0 (l1 : List InsV) (da : Option Addr) (dm : Nat) (de : Nat) (ls : List LabV) (a210 : Nat) (m210 : Nat) (c210 : Nat), (InsAt w0 (some ⟨a210, 0, none⟩) (l1 ++ ([⟨3, ⟨#[]⟩, ⟨#[]⟩⟩, ⟨3, ⟨#[]⟩, ⟨#[]⟩⟩] : List InsV))) → (LabAt w0 da ls) → (ls.length = dm ∧ dm ≤ 100) → ((l1 ++ ([⟨3, ⟨#[]⟩, ⟨#[]⟩⟩, ⟨3, ⟨#[]⟩, ⟨#[]⟩⟩] : List InsV)).length = m210 ∧ m210 ≤ 100 ∧ (∀ x ∈ (l1 ++ ([⟨3, ⟨#[]⟩, ⟨#[]⟩⟩, ⟨3, ⟨#[]⟩, ⟨#[]⟩⟩] : List InsV)), x.w)) → (evalN (l1 ++ ([⟨3, ⟨#[]⟩, ⟨#[]⟩⟩, ⟨3, ⟨#[]⟩, ⟨#[]⟩⟩] : List InsV)) ls = false) → Calls Try.prog 19 #[.slice (some ⟨a210, 0, none⟩) m210 c210, .slice da dm de] w0 fun r w' => r = .returned (.bool false) ∧ Below w0.heap.size w0 w' := fun w0 l1 da dm de ls a210 m210 c210 n0 n1 n2 n3 n4 => by rw [← n4]; exact implPolE (some ⟨a210, 0, none⟩) c210 m210 (l1 ++ ([⟨3, ⟨#[]⟩, ⟨#[]⟩⟩, ⟨3, ⟨#[]⟩, ⟨#[]⟩⟩] : List InsV)) da de dm ls w0 n3.1 n0 (Nat.le_trans n3.2.1 (by decide)) n3.2.2 n2.1 n1 (Nat.le_trans n2.2 (by decide))
  intro HS0 g g2 d_n1 d_n2 qX n1_0 w1 pa pn pc l1 da dm de ls Hp1 HS1 n2_0 w2 qa qn qc l2 ea em ee es Hp2 HS2 kX1 aX1 kX aX y1 y2 hY
  have HY := hidP hY
  have HA := hidP hY.one
  have HB := hidP hY.two
  have HN1 : Hid (l1 ≠ []) := fun e => by have h := (node_some hY.r1).1; rw [e] at h; exact absurd h (by decide)
  have HN2 : Hid (l2 ≠ []) := fun e => by have h := (node_some hY.r2).1; rw [e] at h; exact absurd h (by decide)
  clear hY
  obtain ⟨p9, o9, rfl⟩ := ins_some (Sta.t (i := 1) HS2 rfl :).1 HN1.out
  obtain ⟨q9, r9, rfl⟩ := ins_some (Sta.t (i := 0) HS2 rfl :).1 HN2.out
  have hp1 := Hp1.out.1
  have hp11 := Hp1.out.2.1
  have hp2 := Hp2.out.1
  have hp22 := Hp2.out.2.1
  have hpl := HY.out.len
  have ew1 : IntKind.i64.wrap ((pn : Int) + (qn : Int)) = (pn : Int) + (qn : Int) := by simp [IntKind.wrap, IntKind.signed, IntKind.bits]; omega
  have ew2 : IntKind.i64.wrap ((pn : Int) + (qn : Int) + 3) = (pn : Int) + (qn : Int) + 3 := by simp [IntKind.wrap, IntKind.signed, IntKind.bits]; omega
  have dl : decide ((60 : Int) < (pn : Int) + (qn : Int) + 3) = false := decide_eq_false (by omega)
  go_upto_region 12 with (first
    | (go_at_call 19; have n115_0 : InsAt w2 (some ⟨p9, o9, none⟩) l1 := (Sta.t (i := 1) HS2 rfl :).1; have n115_1 : LabAt w2 da ls := (Sta.t (i := 1) HS2 rfl :).2; have n115_2 : ls.length = dm ∧ dm ≤ 100 := (And.intro Hp1.out.2.2.2.1 Hp1.out.2.2.2.2.1); have n115_3 : l1.length = pn ∧ pn ≤ 100 ∧ (∀ x ∈ l1, x.w) := (And.intro Hp1.out.1 (And.intro Hp1.out.2.1 Hp1.out.2.2.1)); (with_reducible refine (hC10 w2 pn pc l1 da dm de ls p9 o9 n115_0 n115_1 n115_2 n115_3 HA.out).mono ?_); rintro r w115 ⟨rfl, hB115⟩; have HS115 := Sta.call HS2 hB115; clear hB115)
    | (go_at_call 19; have n116_0 : InsAt w115 (some ⟨q9, r9, none⟩) l2 := (Sta.t (i := 0) HS115 rfl :).1; have n116_1 : LabAt w115 da ls := (Sta.t (i := 1) HS115 rfl :).2; have n116_2 : ls.length = dm ∧ dm ≤ 100 := (And.intro Hp1.out.2.2.2.1 Hp1.out.2.2.2.2.1); have n116_3 : l2.length = qn ∧ qn ≤ 100 ∧ (∀ x ∈ l2, x.w) := (And.intro Hp2.out.1 (And.intro Hp2.out.2.1 Hp2.out.2.2.1)); (with_reducible refine (hC26 w115 da dm de ls qn qc l2 q9 r9 n116_0 n116_1 n116_2 n116_3 HB.out).mono ?_); rintro r w116 ⟨rfl, hB116⟩; have HS116 := Sta.call HS115 hB116; clear hB116)
    | (go_at_call 17; have n117_0 : InsAt w116 (some ⟨p9, o9, none⟩) l1 := (Sta.t (i := 1) HS116 rfl :).1; have n117_1 : LabAt w116 da ls := (Sta.t (i := 1) HS116 rfl :).2; have n117_2 : ls.length = dm ∧ dm ≤ 100 := (And.intro Hp1.out.2.2.2.1 Hp1.out.2.2.2.2.1); have n117_3 : l1.length = pn ∧ pn ≤ 100 ∧ (∀ x ∈ l1, x.w) := (And.intro Hp1.out.1 (And.intro Hp1.out.2.1 Hp1.out.2.2.1)); (with_reducible refine (hC12 w116 pn pc l1 da dm de ls p9 o9 n117_0 n117_1 n117_2 n117_3 HA.out).mono ?_); rintro r w117 ⟨rfl, hB117⟩; have HS117 := Sta.call HS116 hB117; clear hB117)
    | (go_at_call 12; have n118_0 : InsAt w117 (some ⟨p9, o9, none⟩) l1 := (Sta.t (i := 1) HS117 rfl :).1; have n118_1 : l1.length = pn ∧ pn ≤ 100 ∧ (∀ x ∈ l1, x.w) := (And.intro Hp1.out.1 (And.intro Hp1.out.2.1 Hp1.out.2.2.1)); have n118_2 : nodeN l1 = some y1 := (HY.out.r1); (with_reducible refine (hC13 w117 pn pc l1 y1 p9 o9 n118_0 n118_1 n118_2).mono ?_); rintro r w118 ⟨rfl, hB118⟩; have HS118 := Sta.call HS117 hB118; clear hB118)
    | (go_at_call 12; have n119_0 : InsAt w118 (some ⟨q9, r9, none⟩) l2 := (Sta.t (i := 0) HS118 rfl :).1; have n119_1 : l2.length = qn ∧ qn ≤ 100 ∧ (∀ x ∈ l2, x.w) := (And.intro Hp2.out.1 (And.intro Hp2.out.2.1 Hp2.out.2.2.1)); have n119_2 : nodeN l2 = some y2 := (HY.out.r2); (with_reducible refine (hC14 w118 qn qc l2 y2 q9 r9 n119_0 n119_1 n119_2).mono ?_); rintro r w119 ⟨rfl, hB119⟩; have HS119 := Sta.call HS118 hB119; clear hB119)
    | ((with_reducible refine wpList_allocV (w := w119) (by with_unfolding_all rfl) 41 (by with_unfolding_all rfl) [.int .i64 0, .string ⟨#[]⟩, .string ⟨#[]⟩] Try.zT_implIns ?_); intro w120 hA120 hB120 hS120; clear hS120; have HS120 := Sta.new HS119 hA120 hB120 (by simp); clear hA120 hB120)
    | ((with_reducible refine wpList_storeS (w := w120) (by with_unfolding_all rfl) 41 (.tmp 11) (.tmp 65) (by with_unfolding_all rfl) w119.heap.size [.int .i64 0, .string ⟨#[]⟩, .string ⟨#[]⟩] [.int .i64 3, .string ⟨#[]⟩, .string ⟨#[]⟩] (by with_unfolding_all rfl) (by with_unfolding_all rfl) (Sta.r (i := 0) HS120 (by with_unfolding_all rfl)) 3 Try.sT_implIns (by with_unfolding_all rfl) (by with_unfolding_all rfl) (by with_unfolding_all rfl) ?_); intro w121 hA121 hO121; have HS121 := Sta.put 0 HS120 rfl hA121 (by simp) hO121; clear hA121 hO121))
  · skip
    have HS123 : Hid (Sta [] w [(w119.heap.size, [.int .i64 3, .string ⟨#[]⟩, .string ⟨#[]⟩])] [⟨fun k => (Value.slice none 0 0).ownBlock = some k, fun w' => InsO w' w.heap.size (.slice none 0 0) ([])⟩, ⟨fun k => w1.heap.size ≤ k ∧ k < w2.heap.size, fun w2 => InsAt w2 (some ⟨q9, r9, none⟩) l2 ∧ LabAt w2 ea es⟩, ⟨fun k => w.heap.size ≤ k ∧ k < w1.heap.size, fun w2 => InsAt w2 (some ⟨p9, o9, none⟩) l1 ∧ LabAt w2 da ls⟩, ⟨fun k => k < w.heap.size, fun w' => Bytes w' a1 n1 ∧ Bytes w' a2 n2⟩] w121) := Sta.own0 w.heap.size 41 3 HS121
    have hO124 := World.ownsRow_made (base := w.heap.size) (size := 3) (e := 41) w121 #[] 0 (Sta.size HS123) (by decide) (by simp)
    have hG124 := World.grownBy_alloc w121 (.cells #[] 41) (Value.slice none 0 0).ownBlock
    have HS124 := Sta.app 0 HS123 rfl (Nat.le_refl _) hO124 hG124 (Or.inr rfl)
    clear hO124 hG124
    go_wp2_with (first
      | ((with_reducible refine wpList_appendInsM (W := (w121.alloc (.cells #[] 41))) (by with_unfolding_all rfl) (.tmp 66) (.tmp 67) (by with_unfolding_all rfl) w.heap.size (.slice (some ⟨w121.heap.size, 0, none⟩) 0 0) ([]) p9 o9 pn pc l1 (by with_unfolding_all rfl) (Sta.t (i := 0) HS124 rfl) (by with_unfolding_all rfl) Hp1.out.1 (Sta.t (i := 2) HS124 rfl :).1 (by have hx := Hp1.out.1; have h1 := HY.out.len; have h2 := Hp1.out.1; have h3 := Hp2.out.1; simp only [List.length_append, List.length_cons, List.length_nil] at *; omega) (Sta.size HS124) ?_); intro v125 w125 hO125 hG125 hb125; obtain ⟨a125, m125, c125, hm125, rfl⟩ := InsO.formS hO125 (app_ne HN1.out); have HS125 := Sta.app 0 HS124 rfl (Nat.le_refl _) hO125 hG125 hb125; have Hm125 := hidP hm125; clear hO125 hG125 hb125 hm125)
      | ((with_reducible refine wpList_appendInsM (W := w125) (by with_unfolding_all rfl) (.tmp 68) (.tmp 69) (by with_unfolding_all rfl) w.heap.size (.slice (some ⟨a125, 0, none⟩) m125 c125) l1 q9 r9 qn qc l2 (by with_unfolding_all rfl) (Sta.t (i := 0) HS125 rfl) (by with_unfolding_all rfl) Hp2.out.1 (Sta.t (i := 1) HS125 rfl :).1 (by have hx := Hp2.out.1; have h1 := HY.out.len; have h2 := Hp1.out.1; have h3 := Hp2.out.1; simp only [List.length_append, List.length_cons, List.length_nil] at *; omega) (Sta.size HS125) ?_); intro v126 w126 hO126 hG126 hb126; obtain ⟨a126, m126, c126, hm126, rfl⟩ := InsO.formS hO126 (app_ne HN2.out); have HS126 := Sta.app 0 HS125 rfl (Nat.le_refl _) hO126 hG126 hb126; have Hm126 := hidP hm126; clear hO126 hG126 hb126 hm126))
    have HS127 : Hid (Sta [] w [(w119.heap.size, [.int .i64 3, .string ⟨#[]⟩, .string ⟨#[]⟩])] [⟨fun k => (Value.slice none 0 0).ownBlock = some k, fun w' => InsO w' w.heap.size (.slice none 0 0) ([])⟩, ⟨fun k => (Value.slice (some ⟨a126, 0, none⟩) m126 c126).ownBlock = some k, fun w' => InsO w' w.heap.size (.slice (some ⟨a126, 0, none⟩) m126 c126) (l1 ++ l2)⟩, ⟨fun k => w1.heap.size ≤ k ∧ k < w2.heap.size, fun w2 => InsAt w2 (some ⟨q9, r9, none⟩) l2 ∧ LabAt w2 ea es⟩, ⟨fun k => w.heap.size ≤ k ∧ k < w1.heap.size, fun w2 => InsAt w2 (some ⟨p9, o9, none⟩) l1 ∧ LabAt w2 da ls⟩, ⟨fun k => k < w.heap.size, fun w' => Bytes w' a1 n1 ∧ Bytes w' a2 n2⟩] w126) := Sta.own0 w.heap.size 41 3 HS126
    try simp only [Act.put, List.setIfInBounds_toArray, List.set_cons_zero, List.set_cons_succ]
    go_cut [13] (fun v0 wx => v0 = .bool true ∧ Hid (Sta [] w [(w119.heap.size, [.int .i64 3, .string ⟨#[]⟩, .string ⟨#[]⟩])] [⟨fun k => (Value.slice (some ⟨a126, 0, none⟩) m126 c126).ownBlock = some k, fun w' => InsO w' w.heap.size (.slice (some ⟨a126, 0, none⟩) m126 c126) (l1 ++ l2)⟩, ⟨fun k => w1.heap.size ≤ k ∧ k < w2.heap.size, fun w2 => InsAt w2 (some ⟨q9, r9, none⟩) l2 ∧ LabAt w2 ea es⟩, ⟨fun k => w.heap.size ≤ k ∧ k < w1.heap.size, fun w2 => InsAt w2 (some ⟨p9, o9, none⟩) l1 ∧ LabAt w2 da ls⟩, ⟨fun k => k < w.heap.size, fun w' => Bytes w' a1 n1 ∧ Bytes w' a2 n2⟩] wx))
    case first =>
      go_wp2_with fail
      have HS128 := Sta.drew HS127
      refine wp_region_held_drew (S := fun w' => w'.cell? ⟨w119.heap.size, 0, none⟩ = some (.int .i64 3) ∧ w'.cell? ⟨w119.heap.size, 1, none⟩ = some (.string ⟨#[]⟩) ∧ w'.cell? ⟨w119.heap.size, 2, none⟩ = some (.string ⟨#[]⟩)) (by kernel_rfl) ⟨Sta.c (i := 0) HS128 rfl rfl, Sta.c (i := 0) HS128 rfl rfl, Sta.c (i := 0) HS128 rfl rfl⟩ (fun hHeld => ?_)
      generalize w126.drew = w128 at *
      refine wpAnyH_take (i := 1) (oi := ⟨_, _, _, _, _, _⟩) (v := .slice (some ⟨a126, 0, none⟩) m126 c126) rfl (by kernel_rfl) (by kernel_rfl) (by kernel_rfl) (fun _ _ _ h => h) (Or.inl ⟨wanted_free rfl, fun w' hSw => ?_⟩) hHeld ?_
      · go_simp
      try simp only [Act.put, List.setIfInBounds_toArray, List.set_cons_zero, List.set_cons_succ]
      refine wpAnyH_take (i := 3) (oi := ⟨_, _, _, _, _, _⟩) (v := .agg #[.int .i64 4, .string ⟨#[]⟩, .string ⟨#[]⟩]) rfl (by kernel_rfl) (by kernel_rfl) (by kernel_rfl) (fun _ _ _ h => h) (Or.inl ⟨wanted_free rfl, fun w' hSw => ?_⟩) hHeld ?_
      · go_simp
      try simp only [Act.put, List.setIfInBounds_toArray, List.set_cons_zero, List.set_cons_succ]
      refine wpAnyH_take (i := 4) (oi := ⟨_, _, _, _, _, _⟩) (v := .agg #[.int .i64 3, .string ⟨#[]⟩, .string ⟨#[]⟩]) rfl (by kernel_rfl) (by kernel_rfl) (by kernel_rfl) (fun _ _ _ h => h) (Or.inl ⟨wanted_free rfl, fun w' hSw => ?_⟩) hHeld ?_
      · obtain ⟨s0, s1, s2⟩ := hSw
        go_simp
      try simp only [Act.put, List.setIfInBounds_toArray, List.set_cons_zero, List.set_cons_succ]
      refine wpAnyH_take (i := 7) (oi := ⟨_, _, _, _, _, _⟩) (v := .slice da dm de) rfl (by kernel_rfl) (by kernel_rfl) (by kernel_rfl) (fun _ _ _ h => h) (Or.inl ⟨wanted_free rfl, fun w' hSw => ?_⟩) hHeld ?_
      · go_simp
      try simp only [Act.put, List.setIfInBounds_toArray, List.set_cons_zero, List.set_cons_succ]
      refine wpAnyH_ready (rs := [0, 5]) (by kernel_rfl) (by simp) (AllReadyH.cons (o := ⟨_, _, _, _, _, _⟩) rfl (fun K hK => ?_) (AllReadyH.cons (o := ⟨_, _, _, _, _, _⟩) rfl (fun K hK => ?_) AllReadyH.nil))
      · as_aux_lemma =>
        rewrite [if_pos (wanted_free rfl)]
        with_reducible refine wp_buildIns0 (by with_unfolding_all rfl) w.heap.size (Sta.size HS128) ?_
        intro w129 hO129 hG129
        have HS129 := Sta.app 0 HS128 rfl (Nat.le_refl _) hO129 hG129 (Or.inr rfl)
        clear hO129 hG129
        refine hK.out _ _ ⟨Sta.c (i := 0) HS129 rfl rfl, Sta.c (i := 0) HS129 rfl rfl, Sta.c (i := 0) HS129 rfl rfl⟩ (fun hHeld => ?_)
        clear hK K
        try simp only [Act.put, List.setIfInBounds_toArray, List.set_cons_zero, List.set_cons_succ]
        refine wpAnyH_ready (rs := [2, 5]) (by kernel_rfl) (by simp) (AllReadyH.cons (o := ⟨_, _, _, _, _, _⟩) rfl (fun K hK => ?_) (AllReadyH.cons (o := ⟨_, _, _, _, _, _⟩) rfl (fun K hK => ?_) AllReadyH.nil))
        · as_aux_lemma =>
          rewrite [if_pos (wanted_free rfl)]
          with_reducible refine wp_appendInsM (W := w129) (.tmp 71) (.tmp 72) (by with_unfolding_all rfl) w.heap.size (.slice (some ⟨w128.heap.size, 0, none⟩) 0 0) ([]) a126 0 m126 c126 (l1 ++ l2) (by with_unfolding_all rfl) (Sta.t (i := 0) HS129 rfl) (by with_unfolding_all rfl) Hm126.out (InsO.row (Sta.t (i := 1) HS129 rfl)).1.ins (by have hx := Hm126.out; have h1 := HY.out.len; have h2 := Hp1.out.1; have h3 := Hp2.out.1; simp only [List.length_append, List.length_cons, List.length_nil] at *; omega) (Sta.size HS129) ?_
          intro v130 w130 hO130 hG130 hb130
          obtain ⟨a130, m130, c130, hm130, rfl⟩ := InsO.formS hO130 (app_ne (app_ne HN2.out))
          have HS130 := Sta.app 0 HS129 rfl (Nat.le_refl _) hO130 hG130 hb130
          have Hm130 := hidP hm130
          clear hO130 hG130 hb130 hm130
          refine hK.out _ _ ⟨Sta.c (i := 0) HS130 rfl rfl, Sta.c (i := 0) HS130 rfl rfl, Sta.c (i := 0) HS130 rfl rfl⟩ (fun hHeld => ?_)
          clear hK K
          try simp only [Act.put, List.setIfInBounds_toArray, List.set_cons_zero, List.set_cons_succ]
          refine wpAnyH_ready (rs := [5]) (by kernel_rfl) (by simp) (AllReadyH.cons (o := ⟨_, _, _, _, _, _⟩) rfl (fun K hK => ?_) AllReadyH.nil)
          rewrite [if_pos (wanted_free rfl)]
          with_reducible refine wp_buildIns2 (.tmp 74) (.tmp 75) (by with_unfolding_all rfl) 4 (⟨#[]⟩) (⟨#[]⟩) 3 (⟨#[]⟩) (⟨#[]⟩) (by with_unfolding_all rfl) (by with_unfolding_all rfl) ?_
          intro w131 hA131 hB131
          have HS131 := Sta.new HS130 hA131 hB131 (by simp)
          clear hA131 hB131
          refine hK.out _ _ ⟨Sta.c (i := 1) HS131 rfl rfl, Sta.c (i := 1) HS131 rfl rfl, Sta.c (i := 1) HS131 rfl rfl⟩ (fun hHeld => ?_)
          clear hK K
          try simp only [Act.put, List.setIfInBounds_toArray, List.set_cons_zero, List.set_cons_succ]
          refine wpAnyH_ready (rs := [6]) (by kernel_rfl) (by simp) (AllReadyH.cons (o := ⟨_, _, _, _, _, _⟩) rfl (fun K hK => ?_) AllReadyH.nil)
          rewrite [if_pos (wanted_free rfl)]
          with_reducible refine wp_appendInsM (W := w131) (.tmp 73) (.tmp 76) (by with_unfolding_all rfl) w.heap.size (.slice (some ⟨a130, 0, none⟩) m130 c130) (l1 ++ l2) w130.heap.size 0 2 2 ([⟨4, ⟨#[]⟩, ⟨#[]⟩⟩, ⟨3, ⟨#[]⟩, ⟨#[]⟩⟩] : List InsV) (by with_unfolding_all rfl) (Sta.t (i := 0) HS131 rfl) (by with_unfolding_all rfl) rfl (RowV.ins (l := [⟨4, ⟨#[]⟩, ⟨#[]⟩⟩, ⟨3, ⟨#[]⟩, ⟨#[]⟩⟩]) (Sta.r (i := 0) HS131 (by with_unfolding_all rfl))) (by have hx := True.intro; have h1 := HY.out.len; have h2 := Hp1.out.1; have h3 := Hp2.out.1; simp only [List.length_append, List.length_cons, List.length_nil] at *; omega) (Sta.size HS131) ?_
          intro v132 w132 hO132 hG132 hb132
          obtain ⟨a132, m132, c132, hm132, rfl⟩ := InsO.formS hO132 (app_ne (by simp))
          have HS132 := Sta.app 0 HS131 rfl (Nat.le_refl _) hO132 hG132 hb132
          have Hm132 := hidP hm132
          clear hO132 hG132 hb132 hm132
          refine hK.out _ _ ⟨Sta.c (i := 1) HS132 rfl rfl, Sta.c (i := 1) HS132 rfl rfl, Sta.c (i := 1) HS132 rfl rfl⟩ (fun hHeld => ?_)
          clear hK K
          try simp only [Act.put, List.setIfInBounds_toArray, List.set_cons_zero, List.set_cons_succ]
          refine wpAnyH_ready (rs := [8]) (by kernel_rfl) (by simp) (AllReadyH.cons (o := ⟨_, _, _, _, _, _⟩) rfl (fun K hK => ?_) AllReadyH.nil)
          rewrite [if_pos (wanted_free rfl)]
          go_simp
          have n133_0 : InsAt w132 (some ⟨a132, 0, none⟩) ((l1 ++ l2) ++ ([⟨4, ⟨#[]⟩, ⟨#[]⟩⟩, ⟨3, ⟨#[]⟩, ⟨#[]⟩⟩] : List InsV)) := (InsO.row (Sta.t (i := 0) HS132 rfl)).1.ins
          have n133_1 : LabAt w132 da ls := (Sta.t (i := 3) HS132 rfl :).2
          have n133_2 : ls.length = dm ∧ dm ≤ 100 := (And.intro Hp1.out.2.2.2.1 Hp1.out.2.2.2.2.1)
          have n133_3 : ((l1 ++ l2) ++ ([⟨4, ⟨#[]⟩, ⟨#[]⟩⟩, ⟨3, ⟨#[]⟩, ⟨#[]⟩⟩] : List InsV)).length = m132 ∧ m132 ≤ 100 ∧ (∀ x ∈ ((l1 ++ l2) ++ ([⟨4, ⟨#[]⟩, ⟨#[]⟩⟩, ⟨3, ⟨#[]⟩, ⟨#[]⟩⟩] : List InsV)), x.w) := (len_w Hm132.out (by have h1 := HY.out.len; simp; omega) (w_app (w_app Hp1.out.2.2.1 Hp2.out.2.2.1) (w_two w_4 w_3)))
          have n133_4 : evalN ((l1 ++ l2) ++ ([⟨4, ⟨#[]⟩, ⟨#[]⟩⟩, ⟨3, ⟨#[]⟩, ⟨#[]⟩⟩] : List InsV)) ls = true := (HY.out.x)
          (with_reducible refine (hC27 w132 l1 da dm de ls l2 a132 m132 c132 n133_0 n133_1 n133_2 n133_3 n133_4).mono ?_)
          rintro r w133 ⟨rfl, hB133⟩
          have HS133 := Sta.call HS132 hB133
          clear hB133
          go_wp2_with fail
          refine hK.out _ _ ⟨Sta.c (i := 1) HS133 rfl rfl, Sta.c (i := 1) HS133 rfl rfl, Sta.c (i := 1) HS133 rfl rfl⟩ (fun hHeld => ?_)
          clear hK K
          try simp only [Act.put, List.setIfInBounds_toArray, List.set_cons_zero, List.set_cons_succ]
          refine wpAnyH_take (i := 9) (oi := ⟨_, _, _, _, _, _⟩) (v := .bool true) rfl (by kernel_rfl) (by kernel_rfl) (by kernel_rfl) (fun _ _ _ h => h) (Or.inl ⟨wanted_free rfl, fun w' hSw => ?_⟩) hHeld ?_
          · go_simp
          try simp only [Act.put, List.setIfInBounds_toArray, List.set_cons_zero, List.set_cons_succ]
          refine wpAnyH_done (by kernel_rfl) ?_ _
          clear hHeld
          go_wp2_with fail
          go_meet
          exact ⟨rfl, Sta.drop 1 1 HS133⟩
        · as_aux_lemma =>
          rewrite [if_pos (wanted_free rfl)]
          with_reducible refine wp_buildIns2 (.tmp 74) (.tmp 75) (by with_unfolding_all rfl) 4 (⟨#[]⟩) (⟨#[]⟩) 3 (⟨#[]⟩) (⟨#[]⟩) (by with_unfolding_all rfl) (by with_unfolding_all rfl) ?_
          intro w134 hA134 hB134
          have HS134 := Sta.new HS129 hA134 hB134 (by simp)
          clear hA134 hB134
          refine hK.out _ _ ⟨Sta.c (i := 1) HS134 rfl rfl, Sta.c (i := 1) HS134 rfl rfl, Sta.c (i := 1) HS134 rfl rfl⟩ (fun hHeld => ?_)
          clear hK K
          try simp only [Act.put, List.setIfInBounds_toArray, List.set_cons_zero, List.set_cons_succ]
          refine wpAnyH_ready (rs := [2]) (by kernel_rfl) (by simp) (AllReadyH.cons (o := ⟨_, _, _, _, _, _⟩) rfl (fun K hK => ?_) AllReadyH.nil)
          rewrite [if_pos (wanted_free rfl)]
          with_reducible refine wp_appendInsM (W := w134) (.tmp 71) (.tmp 72) (by with_unfolding_all rfl) w.heap.size (.slice (some ⟨w128.heap.size, 0, none⟩) 0 0) ([]) a126 0 m126 c126 (l1 ++ l2) (by with_unfolding_all rfl) (Sta.t (i := 0) HS134 rfl) (by with_unfolding_all rfl) Hm126.out (InsO.row (Sta.t (i := 1) HS134 rfl)).1.ins (by have hx := Hm126.out; have h1 := HY.out.len; have h2 := Hp1.out.1; have h3 := Hp2.out.1; simp only [List.length_append, List.length_cons, List.length_nil] at *; omega) (Sta.size HS134) ?_
          intro v135 w135 hO135 hG135 hb135
          obtain ⟨a135, m135, c135, hm135, rfl⟩ := InsO.formS hO135 (app_ne (app_ne HN2.out))
          have HS135 := Sta.app 0 HS134 rfl (Nat.le_refl _) hO135 hG135 hb135
          have Hm135 := hidP hm135
          clear hO135 hG135 hb135 hm135
          refine hK.out _ _ ⟨Sta.c (i := 1) HS135 rfl rfl, Sta.c (i := 1) HS135 rfl rfl, Sta.c (i := 1) HS135 rfl rfl⟩ (fun hHeld => ?_)
          clear hK K
          try simp only [Act.put, List.setIfInBounds_toArray, List.set_cons_zero, List.set_cons_succ]
          refine wpAnyH_ready (rs := [6]) (by kernel_rfl) (by simp) (AllReadyH.cons (o := ⟨_, _, _, _, _, _⟩) rfl (fun K hK => ?_) AllReadyH.nil)
          rewrite [if_pos (wanted_free rfl)]
          with_reducible refine wp_appendInsM (W := w135) (.tmp 73) (.tmp 76) (by with_unfolding_all rfl) w.heap.size (.slice (some ⟨a135, 0, none⟩) m135 c135) (l1 ++ l2) w129.heap.size 0 2 2 ([⟨4, ⟨#[]⟩, ⟨#[]⟩⟩, ⟨3, ⟨#[]⟩, ⟨#[]⟩⟩] : List InsV) (by with_unfolding_all rfl) (Sta.t (i := 0) HS135 rfl) (by with_unfolding_all rfl) rfl (RowV.ins (l := [⟨4, ⟨#[]⟩, ⟨#[]⟩⟩, ⟨3, ⟨#[]⟩, ⟨#[]⟩⟩]) (Sta.r (i := 0) HS135 (by with_unfolding_all rfl))) (by have hx := True.intro; have h1 := HY.out.len; have h2 := Hp1.out.1; have h3 := Hp2.out.1; simp only [List.length_append, List.length_cons, List.length_nil] at *; omega) (Sta.size HS135) ?_
          intro v136 w136 hO136 hG136 hb136
          obtain ⟨a136, m136, c136, hm136, rfl⟩ := InsO.formS hO136 (app_ne (by simp))
          have HS136 := Sta.app 0 HS135 rfl (Nat.le_refl _) hO136 hG136 hb136
          have Hm136 := hidP hm136
          clear hO136 hG136 hb136 hm136
          refine hK.out _ _ ⟨Sta.c (i := 1) HS136 rfl rfl, Sta.c (i := 1) HS136 rfl rfl, Sta.c (i := 1) HS136 rfl rfl⟩ (fun hHeld => ?_)
          clear hK K
          try simp only [Act.put, List.setIfInBounds_toArray, List.set_cons_zero, List.set_cons_succ]
          refine wpAnyH_ready (rs := [8]) (by kernel_rfl) (by simp) (AllReadyH.cons (o := ⟨_, _, _, _, _, _⟩) rfl (fun K hK => ?_) AllReadyH.nil)
          rewrite [if_pos (wanted_free rfl)]
          go_simp
          have n137_0 : InsAt w136 (some ⟨a136, 0, none⟩) ((l1 ++ l2) ++ ([⟨4, ⟨#[]⟩, ⟨#[]⟩⟩, ⟨3, ⟨#[]⟩, ⟨#[]⟩⟩] : List InsV)) := (InsO.row (Sta.t (i := 0) HS136 rfl)).1.ins
          have n137_1 : LabAt w136 da ls := (Sta.t (i := 3) HS136 rfl :).2
          have n137_2 : ls.length = dm ∧ dm ≤ 100 := (And.intro Hp1.out.2.2.2.1 Hp1.out.2.2.2.2.1)
          have n137_3 : ((l1 ++ l2) ++ ([⟨4, ⟨#[]⟩, ⟨#[]⟩⟩, ⟨3, ⟨#[]⟩, ⟨#[]⟩⟩] : List InsV)).length = m136 ∧ m136 ≤ 100 ∧ (∀ x ∈ ((l1 ++ l2) ++ ([⟨4, ⟨#[]⟩, ⟨#[]⟩⟩, ⟨3, ⟨#[]⟩, ⟨#[]⟩⟩] : List InsV)), x.w) := (len_w Hm136.out (by have h1 := HY.out.len; simp; omega) (w_app (w_app Hp1.out.2.2.1 Hp2.out.2.2.1) (w_two w_4 w_3)))
          have n137_4 : evalN ((l1 ++ l2) ++ ([⟨4, ⟨#[]⟩, ⟨#[]⟩⟩, ⟨3, ⟨#[]⟩, ⟨#[]⟩⟩] : List InsV)) ls = true := (HY.out.x)
          (with_reducible refine (hC28 w136 l1 da dm de ls l2 a136 m136 c136 n137_0 n137_1 n137_2 n137_3 n137_4).mono ?_)
          rintro r w137 ⟨rfl, hB137⟩
          have HS137 := Sta.call HS136 hB137
          clear hB137
          go_wp2_with fail
          refine hK.out _ _ ⟨Sta.c (i := 1) HS137 rfl rfl, Sta.c (i := 1) HS137 rfl rfl, Sta.c (i := 1) HS137 rfl rfl⟩ (fun hHeld => ?_)
          clear hK K
          try simp only [Act.put, List.setIfInBounds_toArray, List.set_cons_zero, List.set_cons_succ]
          refine wpAnyH_take (i := 9) (oi := ⟨_, _, _, _, _, _⟩) (v := .bool true) rfl (by kernel_rfl) (by kernel_rfl) (by kernel_rfl) (fun _ _ _ h => h) (Or.inl ⟨wanted_free rfl, fun w' hSw => ?_⟩) hHeld ?_
          · go_simp
          try simp only [Act.put, List.setIfInBounds_toArray, List.set_cons_zero, List.set_cons_succ]
          refine wpAnyH_done (by kernel_rfl) ?_ _
          clear hHeld
          go_wp2_with fail
          go_meet
          exact ⟨rfl, Sta.drop 1 1 HS137⟩
      · as_aux_lemma =>
        rewrite [if_pos (wanted_free rfl)]
        with_reducible refine wp_buildIns2 (.tmp 74) (.tmp 75) (by with_unfolding_all rfl) 4 (⟨#[]⟩) (⟨#[]⟩) 3 (⟨#[]⟩) (⟨#[]⟩) (by with_unfolding_all rfl) (by with_unfolding_all rfl) ?_
        intro w138 hA138 hB138
        have HS138 := Sta.new HS128 hA138 hB138 (by simp)
        clear hA138 hB138
        refine hK.out _ _ ⟨Sta.c (i := 1) HS138 rfl rfl, Sta.c (i := 1) HS138 rfl rfl, Sta.c (i := 1) HS138 rfl rfl⟩ (fun hHeld => ?_)
        clear hK K
        try simp only [Act.put, List.setIfInBounds_toArray, List.set_cons_zero, List.set_cons_succ]
        refine wpAnyH_ready (rs := [0]) (by kernel_rfl) (by simp) (AllReadyH.cons (o := ⟨_, _, _, _, _, _⟩) rfl (fun K hK => ?_) AllReadyH.nil)
        rewrite [if_pos (wanted_free rfl)]
        with_reducible refine wp_buildIns0 (by with_unfolding_all rfl) w.heap.size (Sta.size HS138) ?_
        intro w139 hO139 hG139
        have HS139 := Sta.app 0 HS138 rfl (Nat.le_refl _) hO139 hG139 (Or.inr rfl)
        clear hO139 hG139
        refine hK.out _ _ ⟨Sta.c (i := 1) HS139 rfl rfl, Sta.c (i := 1) HS139 rfl rfl, Sta.c (i := 1) HS139 rfl rfl⟩ (fun hHeld => ?_)
        clear hK K
        try simp only [Act.put, List.setIfInBounds_toArray, List.set_cons_zero, List.set_cons_succ]
        refine wpAnyH_ready (rs := [2]) (by kernel_rfl) (by simp) (AllReadyH.cons (o := ⟨_, _, _, _, _, _⟩) rfl (fun K hK => ?_) AllReadyH.nil)
        rewrite [if_pos (wanted_free rfl)]
        with_reducible refine wp_appendInsM (W := w139) (.tmp 71) (.tmp 72) (by with_unfolding_all rfl) w.heap.size (.slice (some ⟨w138.heap.size, 0, none⟩) 0 0) ([]) a126 0 m126 c126 (l1 ++ l2) (by with_unfolding_all rfl) (Sta.t (i := 0) HS139 rfl) (by with_unfolding_all rfl) Hm126.out (InsO.row (Sta.t (i := 1) HS139 rfl)).1.ins (by have hx := Hm126.out; have h1 := HY.out.len; have h2 := Hp1.out.1; have h3 := Hp2.out.1; simp only [List.length_append, List.length_cons, List.length_nil] at *; omega) (Sta.size HS139) ?_
        intro v140 w140 hO140 hG140 hb140
        obtain ⟨a140, m140, c140, hm140, rfl⟩ := InsO.formS hO140 (app_ne (app_ne HN2.out))
        have HS140 := Sta.app 0 HS139 rfl (Nat.le_refl _) hO140 hG140 hb140
        have Hm140 := hidP hm140
        clear hO140 hG140 hb140 hm140
        refine hK.out _ _ ⟨Sta.c (i := 1) HS140 rfl rfl, Sta.c (i := 1) HS140 rfl rfl, Sta.c (i := 1) HS140 rfl rfl⟩ (fun hHeld => ?_)
        clear hK K
        try simp only [Act.put, List.setIfInBounds_toArray, List.set_cons_zero, List.set_cons_succ]
        refine wpAnyH_ready (rs := [6]) (by kernel_rfl) (by simp) (AllReadyH.cons (o := ⟨_, _, _, _, _, _⟩) rfl (fun K hK => ?_) AllReadyH.nil)
        rewrite [if_pos (wanted_free rfl)]
        with_reducible refine wp_appendInsM (W := w140) (.tmp 73) (.tmp 76) (by with_unfolding_all rfl) w.heap.size (.slice (some ⟨a140, 0, none⟩) m140 c140) (l1 ++ l2) w128.heap.size 0 2 2 ([⟨4, ⟨#[]⟩, ⟨#[]⟩⟩, ⟨3, ⟨#[]⟩, ⟨#[]⟩⟩] : List InsV) (by with_unfolding_all rfl) (Sta.t (i := 0) HS140 rfl) (by with_unfolding_all rfl) rfl (RowV.ins (l := [⟨4, ⟨#[]⟩, ⟨#[]⟩⟩, ⟨3, ⟨#[]⟩, ⟨#[]⟩⟩]) (Sta.r (i := 0) HS140 (by with_unfolding_all rfl))) (by have hx := True.intro; have h1 := HY.out.len; have h2 := Hp1.out.1; have h3 := Hp2.out.1; simp only [List.length_append, List.length_cons, List.length_nil] at *; omega) (Sta.size HS140) ?_
        intro v141 w141 hO141 hG141 hb141
        obtain ⟨a141, m141, c141, hm141, rfl⟩ := InsO.formS hO141 (app_ne (by simp))
        have HS141 := Sta.app 0 HS140 rfl (Nat.le_refl _) hO141 hG141 hb141
        have Hm141 := hidP hm141
        clear hO141 hG141 hb141 hm141
        refine hK.out _ _ ⟨Sta.c (i := 1) HS141 rfl rfl, Sta.c (i := 1) HS141 rfl rfl, Sta.c (i := 1) HS141 rfl rfl⟩ (fun hHeld => ?_)
        clear hK K
        try simp only [Act.put, List.setIfInBounds_toArray, List.set_cons_zero, List.set_cons_succ]
        refine wpAnyH_ready (rs := [8]) (by kernel_rfl) (by simp) (AllReadyH.cons (o := ⟨_, _, _, _, _, _⟩) rfl (fun K hK => ?_) AllReadyH.nil)
        rewrite [if_pos (wanted_free rfl)]
        go_simp
        have n142_0 : InsAt w141 (some ⟨a141, 0, none⟩) ((l1 ++ l2) ++ ([⟨4, ⟨#[]⟩, ⟨#[]⟩⟩, ⟨3, ⟨#[]⟩, ⟨#[]⟩⟩] : List InsV)) := (InsO.row (Sta.t (i := 0) HS141 rfl)).1.ins
        have n142_1 : LabAt w141 da ls := (Sta.t (i := 3) HS141 rfl :).2
        have n142_2 : ls.length = dm ∧ dm ≤ 100 := (And.intro Hp1.out.2.2.2.1 Hp1.out.2.2.2.2.1)
        have n142_3 : ((l1 ++ l2) ++ ([⟨4, ⟨#[]⟩, ⟨#[]⟩⟩, ⟨3, ⟨#[]⟩, ⟨#[]⟩⟩] : List InsV)).length = m141 ∧ m141 ≤ 100 ∧ (∀ x ∈ ((l1 ++ l2) ++ ([⟨4, ⟨#[]⟩, ⟨#[]⟩⟩, ⟨3, ⟨#[]⟩, ⟨#[]⟩⟩] : List InsV)), x.w) := (len_w Hm141.out (by have h1 := HY.out.len; simp; omega) (w_app (w_app Hp1.out.2.2.1 Hp2.out.2.2.1) (w_two w_4 w_3)))
        have n142_4 : evalN ((l1 ++ l2) ++ ([⟨4, ⟨#[]⟩, ⟨#[]⟩⟩, ⟨3, ⟨#[]⟩, ⟨#[]⟩⟩] : List InsV)) ls = true := (HY.out.x)
        (with_reducible refine (hC29 w141 l1 da dm de ls l2 a141 m141 c141 n142_0 n142_1 n142_2 n142_3 n142_4).mono ?_)
        rintro r w142 ⟨rfl, hB142⟩
        have HS142 := Sta.call HS141 hB142
        clear hB142
        go_wp2_with fail
        refine hK.out _ _ ⟨Sta.c (i := 1) HS142 rfl rfl, Sta.c (i := 1) HS142 rfl rfl, Sta.c (i := 1) HS142 rfl rfl⟩ (fun hHeld => ?_)
        clear hK K
        try simp only [Act.put, List.setIfInBounds_toArray, List.set_cons_zero, List.set_cons_succ]
        refine wpAnyH_take (i := 9) (oi := ⟨_, _, _, _, _, _⟩) (v := .bool true) rfl (by kernel_rfl) (by kernel_rfl) (by kernel_rfl) (fun _ _ _ h => h) (Or.inl ⟨wanted_free rfl, fun w' hSw => ?_⟩) hHeld ?_
        · go_simp
        try simp only [Act.put, List.setIfInBounds_toArray, List.set_cons_zero, List.set_cons_succ]
        refine wpAnyH_done (by kernel_rfl) ?_ _
        clear hHeld
        go_wp2_with fail
        go_meet
        exact ⟨rfl, Sta.drop 1 1 HS142⟩
    case rest =>
      obtain ⟨rfl, HS143⟩ := hcut
      rename Go.World => wl143
      go_wp2_with fail
      have HS144 : Hid (Sta [] w [(w119.heap.size, [.int .i64 3, .string ⟨#[]⟩, .string ⟨#[]⟩])] [⟨fun k => (Value.slice none 0 0).ownBlock = some k, fun w' => InsO w' w.heap.size (.slice none 0 0) ([])⟩, ⟨fun k => (Value.slice (some ⟨a126, 0, none⟩) m126 c126).ownBlock = some k, fun w' => InsO w' w.heap.size (.slice (some ⟨a126, 0, none⟩) m126 c126) (l1 ++ l2)⟩, ⟨fun k => w1.heap.size ≤ k ∧ k < w2.heap.size, fun w2 => InsAt w2 (some ⟨q9, r9, none⟩) l2 ∧ LabAt w2 ea es⟩, ⟨fun k => w.heap.size ≤ k ∧ k < w1.heap.size, fun w2 => InsAt w2 (some ⟨p9, o9, none⟩) l1 ∧ LabAt w2 da ls⟩, ⟨fun k => k < w.heap.size, fun w' => Bytes w' a1 n1 ∧ Bytes w' a2 n2⟩] wl143) := Sta.own0 w.heap.size 41 3 HS143
      try simp only [Act.put, List.setIfInBounds_toArray, List.set_cons_zero, List.set_cons_succ]
      go_cut [14] (fun v0 wx => v0 = .bool false ∧ Hid (Sta [] w [(w119.heap.size, [.int .i64 3, .string ⟨#[]⟩, .string ⟨#[]⟩])] [⟨fun k => (Value.slice (some ⟨a126, 0, none⟩) m126 c126).ownBlock = some k, fun w' => InsO w' w.heap.size (.slice (some ⟨a126, 0, none⟩) m126 c126) (l1 ++ l2)⟩, ⟨fun k => w1.heap.size ≤ k ∧ k < w2.heap.size, fun w2 => InsAt w2 (some ⟨q9, r9, none⟩) l2 ∧ LabAt w2 ea es⟩, ⟨fun k => w.heap.size ≤ k ∧ k < w1.heap.size, fun w2 => InsAt w2 (some ⟨p9, o9, none⟩) l1 ∧ LabAt w2 da ls⟩, ⟨fun k => k < w.heap.size, fun w' => Bytes w' a1 n1 ∧ Bytes w' a2 n2⟩] wx))
      case first =>
        go_wp2_with fail
        have HS145 := Sta.drew HS144
        refine wp_region_held_drew (S := fun w' => w'.cell? ⟨w119.heap.size, 0, none⟩ = some (.int .i64 3) ∧ w'.cell? ⟨w119.heap.size, 1, none⟩ = some (.string ⟨#[]⟩) ∧ w'.cell? ⟨w119.heap.size, 2, none⟩ = some (.string ⟨#[]⟩)) (by kernel_rfl) ⟨Sta.c (i := 0) HS145 rfl rfl, Sta.c (i := 0) HS145 rfl rfl, Sta.c (i := 0) HS145 rfl rfl⟩ (fun hHeld => ?_)
        generalize wl143.drew = w145 at *
        refine wpAnyH_take (i := 1) (oi := ⟨_, _, _, _, _, _⟩) (v := .slice (some ⟨a126, 0, none⟩) m126 c126) rfl (by kernel_rfl) (by kernel_rfl) (by kernel_rfl) (fun _ _ _ h => h) (Or.inl ⟨wanted_free rfl, fun w' hSw => ?_⟩) hHeld ?_
        · go_simp
        try simp only [Act.put, List.setIfInBounds_toArray, List.set_cons_zero, List.set_cons_succ]
        refine wpAnyH_take (i := 3) (oi := ⟨_, _, _, _, _, _⟩) (v := .agg #[.int .i64 5, .string ⟨#[]⟩, .string ⟨#[]⟩]) rfl (by kernel_rfl) (by kernel_rfl) (by kernel_rfl) (fun _ _ _ h => h) (Or.inl ⟨wanted_free rfl, fun w' hSw => ?_⟩) hHeld ?_
        · go_simp
        try simp only [Act.put, List.setIfInBounds_toArray, List.set_cons_zero, List.set_cons_succ]
        refine wpAnyH_take (i := 4) (oi := ⟨_, _, _, _, _, _⟩) (v := .agg #[.int .i64 3, .string ⟨#[]⟩, .string ⟨#[]⟩]) rfl (by kernel_rfl) (by kernel_rfl) (by kernel_rfl) (fun _ _ _ h => h) (Or.inl ⟨wanted_free rfl, fun w' hSw => ?_⟩) hHeld ?_
        · obtain ⟨s0, s1, s2⟩ := hSw
          go_simp
        try simp only [Act.put, List.setIfInBounds_toArray, List.set_cons_zero, List.set_cons_succ]
        refine wpAnyH_take (i := 7) (oi := ⟨_, _, _, _, _, _⟩) (v := .slice da dm de) rfl (by kernel_rfl) (by kernel_rfl) (by kernel_rfl) (fun _ _ _ h => h) (Or.inl ⟨wanted_free rfl, fun w' hSw => ?_⟩) hHeld ?_
        · go_simp
        try simp only [Act.put, List.setIfInBounds_toArray, List.set_cons_zero, List.set_cons_succ]
        refine wpAnyH_ready (rs := [0, 5]) (by kernel_rfl) (by simp) (AllReadyH.cons (o := ⟨_, _, _, _, _, _⟩) rfl (fun K hK => ?_) (AllReadyH.cons (o := ⟨_, _, _, _, _, _⟩) rfl (fun K hK => ?_) AllReadyH.nil))
        · as_aux_lemma =>
          rewrite [if_pos (wanted_free rfl)]
          with_reducible refine wp_buildIns0 (by with_unfolding_all rfl) w.heap.size (Sta.size HS145) ?_
          intro w146 hO146 hG146
          have HS146 := Sta.app 0 HS145 rfl (Nat.le_refl _) hO146 hG146 (Or.inr rfl)
          clear hO146 hG146
          refine hK.out _ _ ⟨Sta.c (i := 0) HS146 rfl rfl, Sta.c (i := 0) HS146 rfl rfl, Sta.c (i := 0) HS146 rfl rfl⟩ (fun hHeld => ?_)
          clear hK K
          try simp only [Act.put, List.setIfInBounds_toArray, List.set_cons_zero, List.set_cons_succ]
          refine wpAnyH_ready (rs := [2, 5]) (by kernel_rfl) (by simp) (AllReadyH.cons (o := ⟨_, _, _, _, _, _⟩) rfl (fun K hK => ?_) (AllReadyH.cons (o := ⟨_, _, _, _, _, _⟩) rfl (fun K hK => ?_) AllReadyH.nil))
          · as_aux_lemma =>
            rewrite [if_pos (wanted_free rfl)]
            with_reducible refine wp_appendInsM (W := w146) (.tmp 80) (.tmp 81) (by with_unfolding_all rfl) w.heap.size (.slice (some ⟨w145.heap.size, 0, none⟩) 0 0) ([]) a126 0 m126 c126 (l1 ++ l2) (by with_unfolding_all rfl) (Sta.t (i := 0) HS146 rfl) (by with_unfolding_all rfl) Hm126.out (InsO.row (Sta.t (i := 1) HS146 rfl)).1.ins (by have hx := Hm126.out; have h1 := HY.out.len; have h2 := Hp1.out.1; have h3 := Hp2.out.1; simp only [List.length_append, List.length_cons, List.length_nil] at *; omega) (Sta.size HS146) ?_
            intro v147 w147 hO147 hG147 hb147
            obtain ⟨a147, m147, c147, hm147, rfl⟩ := InsO.formS hO147 (app_ne (app_ne HN2.out))
            have HS147 := Sta.app 0 HS146 rfl (Nat.le_refl _) hO147 hG147 hb147
            have Hm147 := hidP hm147
            clear hO147 hG147 hb147 hm147
            refine hK.out _ _ ⟨Sta.c (i := 0) HS147 rfl rfl, Sta.c (i := 0) HS147 rfl rfl, Sta.c (i := 0) HS147 rfl rfl⟩ (fun hHeld => ?_)
            clear hK K
            try simp only [Act.put, List.setIfInBounds_toArray, List.set_cons_zero, List.set_cons_succ]
            refine wpAnyH_ready (rs := [5]) (by kernel_rfl) (by simp) (AllReadyH.cons (o := ⟨_, _, _, _, _, _⟩) rfl (fun K hK => ?_) AllReadyH.nil)
            rewrite [if_pos (wanted_free rfl)]
            with_reducible refine wp_buildIns2 (.tmp 83) (.tmp 84) (by with_unfolding_all rfl) 5 (⟨#[]⟩) (⟨#[]⟩) 3 (⟨#[]⟩) (⟨#[]⟩) (by with_unfolding_all rfl) (by with_unfolding_all rfl) ?_
            intro w148 hA148 hB148
            have HS148 := Sta.new HS147 hA148 hB148 (by simp)
            clear hA148 hB148
            refine hK.out _ _ ⟨Sta.c (i := 1) HS148 rfl rfl, Sta.c (i := 1) HS148 rfl rfl, Sta.c (i := 1) HS148 rfl rfl⟩ (fun hHeld => ?_)
            clear hK K
            try simp only [Act.put, List.setIfInBounds_toArray, List.set_cons_zero, List.set_cons_succ]
            refine wpAnyH_ready (rs := [6]) (by kernel_rfl) (by simp) (AllReadyH.cons (o := ⟨_, _, _, _, _, _⟩) rfl (fun K hK => ?_) AllReadyH.nil)
            rewrite [if_pos (wanted_free rfl)]
            with_reducible refine wp_appendInsM (W := w148) (.tmp 82) (.tmp 85) (by with_unfolding_all rfl) w.heap.size (.slice (some ⟨a147, 0, none⟩) m147 c147) (l1 ++ l2) w147.heap.size 0 2 2 ([⟨5, ⟨#[]⟩, ⟨#[]⟩⟩, ⟨3, ⟨#[]⟩, ⟨#[]⟩⟩] : List InsV) (by with_unfolding_all rfl) (Sta.t (i := 0) HS148 rfl) (by with_unfolding_all rfl) rfl (RowV.ins (l := [⟨5, ⟨#[]⟩, ⟨#[]⟩⟩, ⟨3, ⟨#[]⟩, ⟨#[]⟩⟩]) (Sta.r (i := 0) HS148 (by with_unfolding_all rfl))) (by have hx := True.intro; have h1 := HY.out.len; have h2 := Hp1.out.1; have h3 := Hp2.out.1; simp only [List.length_append, List.length_cons, List.length_nil] at *; omega) (Sta.size HS148) ?_
            intro v149 w149 hO149 hG149 hb149
            obtain ⟨a149, m149, c149, hm149, rfl⟩ := InsO.formS hO149 (app_ne (by simp))
            have HS149 := Sta.app 0 HS148 rfl (Nat.le_refl _) hO149 hG149 hb149
            have Hm149 := hidP hm149
            clear hO149 hG149 hb149 hm149
            refine hK.out _ _ ⟨Sta.c (i := 1) HS149 rfl rfl, Sta.c (i := 1) HS149 rfl rfl, Sta.c (i := 1) HS149 rfl rfl⟩ (fun hHeld => ?_)
            clear hK K
            try simp only [Act.put, List.setIfInBounds_toArray, List.set_cons_zero, List.set_cons_succ]
            refine wpAnyH_ready (rs := [8]) (by kernel_rfl) (by simp) (AllReadyH.cons (o := ⟨_, _, _, _, _, _⟩) rfl (fun K hK => ?_) AllReadyH.nil)
            rewrite [if_pos (wanted_free rfl)]
            go_simp
            have n150_0 : InsAt w149 (some ⟨a149, 0, none⟩) ((l1 ++ l2) ++ ([⟨5, ⟨#[]⟩, ⟨#[]⟩⟩, ⟨3, ⟨#[]⟩, ⟨#[]⟩⟩] : List InsV)) := (InsO.row (Sta.t (i := 0) HS149 rfl)).1.ins
            have n150_1 : LabAt w149 da ls := (Sta.t (i := 3) HS149 rfl :).2
            have n150_2 : ls.length = dm ∧ dm ≤ 100 := (And.intro Hp1.out.2.2.2.1 Hp1.out.2.2.2.2.1)
            have n150_3 : ((l1 ++ l2) ++ ([⟨5, ⟨#[]⟩, ⟨#[]⟩⟩, ⟨3, ⟨#[]⟩, ⟨#[]⟩⟩] : List InsV)).length = m149 ∧ m149 ≤ 100 ∧ (∀ x ∈ ((l1 ++ l2) ++ ([⟨5, ⟨#[]⟩, ⟨#[]⟩⟩, ⟨3, ⟨#[]⟩, ⟨#[]⟩⟩] : List InsV)), x.w) := (len_w Hm149.out (by have h1 := HY.out.len; simp; omega) (w_app (w_app Hp1.out.2.2.1 Hp2.out.2.2.1) (w_two w_5 w_3)))
            have n150_4 : evalN ((l1 ++ l2) ++ ([⟨5, ⟨#[]⟩, ⟨#[]⟩⟩, ⟨3, ⟨#[]⟩, ⟨#[]⟩⟩] : List InsV)) ls = false := (HY.out.y)
            (with_reducible refine (hC30 w149 l1 da dm de ls l2 a149 m149 c149 n150_0 n150_1 n150_2 n150_3 n150_4).mono ?_)
            rintro r w150 ⟨rfl, hB150⟩
            have HS150 := Sta.call HS149 hB150
            clear hB150
            go_wp2_with fail
            refine hK.out _ _ ⟨Sta.c (i := 1) HS150 rfl rfl, Sta.c (i := 1) HS150 rfl rfl, Sta.c (i := 1) HS150 rfl rfl⟩ (fun hHeld => ?_)
            clear hK K
            try simp only [Act.put, List.setIfInBounds_toArray, List.set_cons_zero, List.set_cons_succ]
            refine wpAnyH_take (i := 9) (oi := ⟨_, _, _, _, _, _⟩) (v := .bool false) rfl (by kernel_rfl) (by kernel_rfl) (by kernel_rfl) (fun _ _ _ h => h) (Or.inl ⟨wanted_free rfl, fun w' hSw => ?_⟩) hHeld ?_
            · go_simp
            try simp only [Act.put, List.setIfInBounds_toArray, List.set_cons_zero, List.set_cons_succ]
            refine wpAnyH_done (by kernel_rfl) ?_ _
            clear hHeld
            go_wp2_with fail
            go_meet
            exact ⟨rfl, Sta.drop 1 1 HS150⟩
          · as_aux_lemma =>
            rewrite [if_pos (wanted_free rfl)]
            with_reducible refine wp_buildIns2 (.tmp 83) (.tmp 84) (by with_unfolding_all rfl) 5 (⟨#[]⟩) (⟨#[]⟩) 3 (⟨#[]⟩) (⟨#[]⟩) (by with_unfolding_all rfl) (by with_unfolding_all rfl) ?_
            intro w151 hA151 hB151
            have HS151 := Sta.new HS146 hA151 hB151 (by simp)
            clear hA151 hB151
            refine hK.out _ _ ⟨Sta.c (i := 1) HS151 rfl rfl, Sta.c (i := 1) HS151 rfl rfl, Sta.c (i := 1) HS151 rfl rfl⟩ (fun hHeld => ?_)
            clear hK K
            try simp only [Act.put, List.setIfInBounds_toArray, List.set_cons_zero, List.set_cons_succ]
            refine wpAnyH_ready (rs := [2]) (by kernel_rfl) (by simp) (AllReadyH.cons (o := ⟨_, _, _, _, _, _⟩) rfl (fun K hK => ?_) AllReadyH.nil)
            rewrite [if_pos (wanted_free rfl)]
            with_reducible refine wp_appendInsM (W := w151) (.tmp 80) (.tmp 81) (by with_unfolding_all rfl) w.heap.size (.slice (some ⟨w145.heap.size, 0, none⟩) 0 0) ([]) a126 0 m126 c126 (l1 ++ l2) (by with_unfolding_all rfl) (Sta.t (i := 0) HS151 rfl) (by with_unfolding_all rfl) Hm126.out (InsO.row (Sta.t (i := 1) HS151 rfl)).1.ins (by have hx := Hm126.out; have h1 := HY.out.len; have h2 := Hp1.out.1; have h3 := Hp2.out.1; simp only [List.length_append, List.length_cons, List.length_nil] at *; omega) (Sta.size HS151) ?_
            intro v152 w152 hO152 hG152 hb152
            obtain ⟨a152, m152, c152, hm152, rfl⟩ := InsO.formS hO152 (app_ne (app_ne HN2.out))
            have HS152 := Sta.app 0 HS151 rfl (Nat.le_refl _) hO152 hG152 hb152
            have Hm152 := hidP hm152
            clear hO152 hG152 hb152 hm152
            refine hK.out _ _ ⟨Sta.c (i := 1) HS152 rfl rfl, Sta.c (i := 1) HS152 rfl rfl, Sta.c (i := 1) HS152 rfl rfl⟩ (fun hHeld => ?_)
            clear hK K
            try simp only [Act.put, List.setIfInBounds_toArray, List.set_cons_zero, List.set_cons_succ]
            refine wpAnyH_ready (rs := [6]) (by kernel_rfl) (by simp) (AllReadyH.cons (o := ⟨_, _, _, _, _, _⟩) rfl (fun K hK => ?_) AllReadyH.nil)
            rewrite [if_pos (wanted_free rfl)]
            with_reducible refine wp_appendInsM (W := w152) (.tmp 82) (.tmp 85) (by with_unfolding_all rfl) w.heap.size (.slice (some ⟨a152, 0, none⟩) m152 c152) (l1 ++ l2) w146.heap.size 0 2 2 ([⟨5, ⟨#[]⟩, ⟨#[]⟩⟩, ⟨3, ⟨#[]⟩, ⟨#[]⟩⟩] : List InsV) (by with_unfolding_all rfl) (Sta.t (i := 0) HS152 rfl) (by with_unfolding_all rfl) rfl (RowV.ins (l := [⟨5, ⟨#[]⟩, ⟨#[]⟩⟩, ⟨3, ⟨#[]⟩, ⟨#[]⟩⟩]) (Sta.r (i := 0) HS152 (by with_unfolding_all rfl))) (by have hx := True.intro; have h1 := HY.out.len; have h2 := Hp1.out.1; have h3 := Hp2.out.1; simp only [List.length_append, List.length_cons, List.length_nil] at *; omega) (Sta.size HS152) ?_
            intro v153 w153 hO153 hG153 hb153
            obtain ⟨a153, m153, c153, hm153, rfl⟩ := InsO.formS hO153 (app_ne (by simp))
            have HS153 := Sta.app 0 HS152 rfl (Nat.le_refl _) hO153 hG153 hb153
            have Hm153 := hidP hm153
            clear hO153 hG153 hb153 hm153
            refine hK.out _ _ ⟨Sta.c (i := 1) HS153 rfl rfl, Sta.c (i := 1) HS153 rfl rfl, Sta.c (i := 1) HS153 rfl rfl⟩ (fun hHeld => ?_)
            clear hK K
            try simp only [Act.put, List.setIfInBounds_toArray, List.set_cons_zero, List.set_cons_succ]
            refine wpAnyH_ready (rs := [8]) (by kernel_rfl) (by simp) (AllReadyH.cons (o := ⟨_, _, _, _, _, _⟩) rfl (fun K hK => ?_) AllReadyH.nil)
            rewrite [if_pos (wanted_free rfl)]
            go_simp
            have n154_0 : InsAt w153 (some ⟨a153, 0, none⟩) ((l1 ++ l2) ++ ([⟨5, ⟨#[]⟩, ⟨#[]⟩⟩, ⟨3, ⟨#[]⟩, ⟨#[]⟩⟩] : List InsV)) := (InsO.row (Sta.t (i := 0) HS153 rfl)).1.ins
            have n154_1 : LabAt w153 da ls := (Sta.t (i := 3) HS153 rfl :).2
            have n154_2 : ls.length = dm ∧ dm ≤ 100 := (And.intro Hp1.out.2.2.2.1 Hp1.out.2.2.2.2.1)
            have n154_3 : ((l1 ++ l2) ++ ([⟨5, ⟨#[]⟩, ⟨#[]⟩⟩, ⟨3, ⟨#[]⟩, ⟨#[]⟩⟩] : List InsV)).length = m153 ∧ m153 ≤ 100 ∧ (∀ x ∈ ((l1 ++ l2) ++ ([⟨5, ⟨#[]⟩, ⟨#[]⟩⟩, ⟨3, ⟨#[]⟩, ⟨#[]⟩⟩] : List InsV)), x.w) := (len_w Hm153.out (by have h1 := HY.out.len; simp; omega) (w_app (w_app Hp1.out.2.2.1 Hp2.out.2.2.1) (w_two w_5 w_3)))
            have n154_4 : evalN ((l1 ++ l2) ++ ([⟨5, ⟨#[]⟩, ⟨#[]⟩⟩, ⟨3, ⟨#[]⟩, ⟨#[]⟩⟩] : List InsV)) ls = false := (HY.out.y)
            (with_reducible refine (hC31 w153 l1 da dm de ls l2 a153 m153 c153 n154_0 n154_1 n154_2 n154_3 n154_4).mono ?_)
            rintro r w154 ⟨rfl, hB154⟩
            have HS154 := Sta.call HS153 hB154
            clear hB154
            go_wp2_with fail
            refine hK.out _ _ ⟨Sta.c (i := 1) HS154 rfl rfl, Sta.c (i := 1) HS154 rfl rfl, Sta.c (i := 1) HS154 rfl rfl⟩ (fun hHeld => ?_)
            clear hK K
            try simp only [Act.put, List.setIfInBounds_toArray, List.set_cons_zero, List.set_cons_succ]
            refine wpAnyH_take (i := 9) (oi := ⟨_, _, _, _, _, _⟩) (v := .bool false) rfl (by kernel_rfl) (by kernel_rfl) (by kernel_rfl) (fun _ _ _ h => h) (Or.inl ⟨wanted_free rfl, fun w' hSw => ?_⟩) hHeld ?_
            · go_simp
            try simp only [Act.put, List.setIfInBounds_toArray, List.set_cons_zero, List.set_cons_succ]
            refine wpAnyH_done (by kernel_rfl) ?_ _
            clear hHeld
            go_wp2_with fail
            go_meet
            exact ⟨rfl, Sta.drop 1 1 HS154⟩
        · as_aux_lemma =>
          rewrite [if_pos (wanted_free rfl)]
          with_reducible refine wp_buildIns2 (.tmp 83) (.tmp 84) (by with_unfolding_all rfl) 5 (⟨#[]⟩) (⟨#[]⟩) 3 (⟨#[]⟩) (⟨#[]⟩) (by with_unfolding_all rfl) (by with_unfolding_all rfl) ?_
          intro w155 hA155 hB155
          have HS155 := Sta.new HS145 hA155 hB155 (by simp)
          clear hA155 hB155
          refine hK.out _ _ ⟨Sta.c (i := 1) HS155 rfl rfl, Sta.c (i := 1) HS155 rfl rfl, Sta.c (i := 1) HS155 rfl rfl⟩ (fun hHeld => ?_)
          clear hK K
          try simp only [Act.put, List.setIfInBounds_toArray, List.set_cons_zero, List.set_cons_succ]
          refine wpAnyH_ready (rs := [0]) (by kernel_rfl) (by simp) (AllReadyH.cons (o := ⟨_, _, _, _, _, _⟩) rfl (fun K hK => ?_) AllReadyH.nil)
          rewrite [if_pos (wanted_free rfl)]
          with_reducible refine wp_buildIns0 (by with_unfolding_all rfl) w.heap.size (Sta.size HS155) ?_
          intro w156 hO156 hG156
          have HS156 := Sta.app 0 HS155 rfl (Nat.le_refl _) hO156 hG156 (Or.inr rfl)
          clear hO156 hG156
          refine hK.out _ _ ⟨Sta.c (i := 1) HS156 rfl rfl, Sta.c (i := 1) HS156 rfl rfl, Sta.c (i := 1) HS156 rfl rfl⟩ (fun hHeld => ?_)
          clear hK K
          try simp only [Act.put, List.setIfInBounds_toArray, List.set_cons_zero, List.set_cons_succ]
          refine wpAnyH_ready (rs := [2]) (by kernel_rfl) (by simp) (AllReadyH.cons (o := ⟨_, _, _, _, _, _⟩) rfl (fun K hK => ?_) AllReadyH.nil)
          rewrite [if_pos (wanted_free rfl)]
          with_reducible refine wp_appendInsM (W := w156) (.tmp 80) (.tmp 81) (by with_unfolding_all rfl) w.heap.size (.slice (some ⟨w155.heap.size, 0, none⟩) 0 0) ([]) a126 0 m126 c126 (l1 ++ l2) (by with_unfolding_all rfl) (Sta.t (i := 0) HS156 rfl) (by with_unfolding_all rfl) Hm126.out (InsO.row (Sta.t (i := 1) HS156 rfl)).1.ins (by have hx := Hm126.out; have h1 := HY.out.len; have h2 := Hp1.out.1; have h3 := Hp2.out.1; simp only [List.length_append, List.length_cons, List.length_nil] at *; omega) (Sta.size HS156) ?_
          intro v157 w157 hO157 hG157 hb157
          obtain ⟨a157, m157, c157, hm157, rfl⟩ := InsO.formS hO157 (app_ne (app_ne HN2.out))
          have HS157 := Sta.app 0 HS156 rfl (Nat.le_refl _) hO157 hG157 hb157
          have Hm157 := hidP hm157
          clear hO157 hG157 hb157 hm157
          refine hK.out _ _ ⟨Sta.c (i := 1) HS157 rfl rfl, Sta.c (i := 1) HS157 rfl rfl, Sta.c (i := 1) HS157 rfl rfl⟩ (fun hHeld => ?_)
          clear hK K
          try simp only [Act.put, List.setIfInBounds_toArray, List.set_cons_zero, List.set_cons_succ]
          refine wpAnyH_ready (rs := [6]) (by kernel_rfl) (by simp) (AllReadyH.cons (o := ⟨_, _, _, _, _, _⟩) rfl (fun K hK => ?_) AllReadyH.nil)
          rewrite [if_pos (wanted_free rfl)]
          with_reducible refine wp_appendInsM (W := w157) (.tmp 82) (.tmp 85) (by with_unfolding_all rfl) w.heap.size (.slice (some ⟨a157, 0, none⟩) m157 c157) (l1 ++ l2) w145.heap.size 0 2 2 ([⟨5, ⟨#[]⟩, ⟨#[]⟩⟩, ⟨3, ⟨#[]⟩, ⟨#[]⟩⟩] : List InsV) (by with_unfolding_all rfl) (Sta.t (i := 0) HS157 rfl) (by with_unfolding_all rfl) rfl (RowV.ins (l := [⟨5, ⟨#[]⟩, ⟨#[]⟩⟩, ⟨3, ⟨#[]⟩, ⟨#[]⟩⟩]) (Sta.r (i := 0) HS157 (by with_unfolding_all rfl))) (by have hx := True.intro; have h1 := HY.out.len; have h2 := Hp1.out.1; have h3 := Hp2.out.1; simp only [List.length_append, List.length_cons, List.length_nil] at *; omega) (Sta.size HS157) ?_
          intro v158 w158 hO158 hG158 hb158
          obtain ⟨a158, m158, c158, hm158, rfl⟩ := InsO.formS hO158 (app_ne (by simp))
          have HS158 := Sta.app 0 HS157 rfl (Nat.le_refl _) hO158 hG158 hb158
          have Hm158 := hidP hm158
          clear hO158 hG158 hb158 hm158
          refine hK.out _ _ ⟨Sta.c (i := 1) HS158 rfl rfl, Sta.c (i := 1) HS158 rfl rfl, Sta.c (i := 1) HS158 rfl rfl⟩ (fun hHeld => ?_)
          clear hK K
          try simp only [Act.put, List.setIfInBounds_toArray, List.set_cons_zero, List.set_cons_succ]
          refine wpAnyH_ready (rs := [8]) (by kernel_rfl) (by simp) (AllReadyH.cons (o := ⟨_, _, _, _, _, _⟩) rfl (fun K hK => ?_) AllReadyH.nil)
          rewrite [if_pos (wanted_free rfl)]
          go_simp
          have n159_0 : InsAt w158 (some ⟨a158, 0, none⟩) ((l1 ++ l2) ++ ([⟨5, ⟨#[]⟩, ⟨#[]⟩⟩, ⟨3, ⟨#[]⟩, ⟨#[]⟩⟩] : List InsV)) := (InsO.row (Sta.t (i := 0) HS158 rfl)).1.ins
          have n159_1 : LabAt w158 da ls := (Sta.t (i := 3) HS158 rfl :).2
          have n159_2 : ls.length = dm ∧ dm ≤ 100 := (And.intro Hp1.out.2.2.2.1 Hp1.out.2.2.2.2.1)
          have n159_3 : ((l1 ++ l2) ++ ([⟨5, ⟨#[]⟩, ⟨#[]⟩⟩, ⟨3, ⟨#[]⟩, ⟨#[]⟩⟩] : List InsV)).length = m158 ∧ m158 ≤ 100 ∧ (∀ x ∈ ((l1 ++ l2) ++ ([⟨5, ⟨#[]⟩, ⟨#[]⟩⟩, ⟨3, ⟨#[]⟩, ⟨#[]⟩⟩] : List InsV)), x.w) := (len_w Hm158.out (by have h1 := HY.out.len; simp; omega) (w_app (w_app Hp1.out.2.2.1 Hp2.out.2.2.1) (w_two w_5 w_3)))
          have n159_4 : evalN ((l1 ++ l2) ++ ([⟨5, ⟨#[]⟩, ⟨#[]⟩⟩, ⟨3, ⟨#[]⟩, ⟨#[]⟩⟩] : List InsV)) ls = false := (HY.out.y)
          (with_reducible refine (hC32 w158 l1 da dm de ls l2 a158 m158 c158 n159_0 n159_1 n159_2 n159_3 n159_4).mono ?_)
          rintro r w159 ⟨rfl, hB159⟩
          have HS159 := Sta.call HS158 hB159
          clear hB159
          go_wp2_with fail
          refine hK.out _ _ ⟨Sta.c (i := 1) HS159 rfl rfl, Sta.c (i := 1) HS159 rfl rfl, Sta.c (i := 1) HS159 rfl rfl⟩ (fun hHeld => ?_)
          clear hK K
          try simp only [Act.put, List.setIfInBounds_toArray, List.set_cons_zero, List.set_cons_succ]
          refine wpAnyH_take (i := 9) (oi := ⟨_, _, _, _, _, _⟩) (v := .bool false) rfl (by kernel_rfl) (by kernel_rfl) (by kernel_rfl) (fun _ _ _ h => h) (Or.inl ⟨wanted_free rfl, fun w' hSw => ?_⟩) hHeld ?_
          · go_simp
          try simp only [Act.put, List.setIfInBounds_toArray, List.set_cons_zero, List.set_cons_succ]
          refine wpAnyH_done (by kernel_rfl) ?_ _
          clear hHeld
          go_wp2_with fail
          go_meet
          exact ⟨rfl, Sta.drop 1 1 HS159⟩
      case rest =>
        obtain ⟨rfl, HS160⟩ := hcut
        rename Go.World => wl160
        go_wp2_with fail
        have HS161 : Hid (Sta [] w [(w119.heap.size, [.int .i64 3, .string ⟨#[]⟩, .string ⟨#[]⟩])] [⟨fun k => (Value.slice none 0 0).ownBlock = some k, fun w' => InsO w' w.heap.size (.slice none 0 0) ([])⟩, ⟨fun k => (Value.slice (some ⟨a126, 0, none⟩) m126 c126).ownBlock = some k, fun w' => InsO w' w.heap.size (.slice (some ⟨a126, 0, none⟩) m126 c126) (l1 ++ l2)⟩, ⟨fun k => w1.heap.size ≤ k ∧ k < w2.heap.size, fun w2 => InsAt w2 (some ⟨q9, r9, none⟩) l2 ∧ LabAt w2 ea es⟩, ⟨fun k => w.heap.size ≤ k ∧ k < w1.heap.size, fun w2 => InsAt w2 (some ⟨p9, o9, none⟩) l1 ∧ LabAt w2 da ls⟩, ⟨fun k => k < w.heap.size, fun w' => Bytes w' a1 n1 ∧ Bytes w' a2 n2⟩] wl160) := Sta.own0 w.heap.size 41 3 HS160
        try simp only [Act.put, List.setIfInBounds_toArray, List.set_cons_zero, List.set_cons_succ]
        go_cut [15] (fun v0 wx => ∃ (g15 : Nat) (m15 : Nat) (k15 : Nat), v0 = .slice (some ⟨g15, 0, none⟩) m15 k15 ∧ Hid ((l1 ++ ([⟨3, ⟨#[]⟩, ⟨#[]⟩⟩] : List InsV)).length = m15) ∧ Hid (Sta [] w [(w119.heap.size, [.int .i64 3, .string ⟨#[]⟩, .string ⟨#[]⟩])] [⟨fun k => (Value.slice (some ⟨g15, 0, none⟩) m15 k15).ownBlock = some k, fun w' => InsO w' w.heap.size (.slice (some ⟨g15, 0, none⟩) m15 k15) (l1 ++ ([⟨3, ⟨#[]⟩, ⟨#[]⟩⟩] : List InsV))⟩, ⟨fun k => (Value.slice (some ⟨a126, 0, none⟩) m126 c126).ownBlock = some k, fun w' => InsO w' w.heap.size (.slice (some ⟨a126, 0, none⟩) m126 c126) (l1 ++ l2)⟩, ⟨fun k => w1.heap.size ≤ k ∧ k < w2.heap.size, fun w2 => InsAt w2 (some ⟨q9, r9, none⟩) l2 ∧ LabAt w2 ea es⟩, ⟨fun k => w.heap.size ≤ k ∧ k < w1.heap.size, fun w2 => InsAt w2 (some ⟨p9, o9, none⟩) l1 ∧ LabAt w2 da ls⟩, ⟨fun k => k < w.heap.size, fun w' => Bytes w' a1 n1 ∧ Bytes w' a2 n2⟩] wx))
        case first =>
          go_wp2_with fail
          have HS162 := Sta.drew HS161
          refine wp_region_held_drew (S := fun w' => w'.cell? ⟨w119.heap.size, 0, none⟩ = some (.int .i64 3) ∧ w'.cell? ⟨w119.heap.size, 1, none⟩ = some (.string ⟨#[]⟩) ∧ w'.cell? ⟨w119.heap.size, 2, none⟩ = some (.string ⟨#[]⟩)) (by kernel_rfl) ⟨Sta.c (i := 0) HS162 rfl rfl, Sta.c (i := 0) HS162 rfl rfl, Sta.c (i := 0) HS162 rfl rfl⟩ (fun hHeld => ?_)
          generalize wl160.drew = w162 at *
          refine wpAnyH_take (i := 1) (oi := ⟨_, _, _, _, _, _⟩) (v := .slice (some ⟨p9, o9, none⟩) pn pc) rfl (by kernel_rfl) (by kernel_rfl) (by kernel_rfl) (fun _ _ _ h => h) (Or.inl ⟨wanted_free rfl, fun w' hSw => ?_⟩) hHeld ?_
          · go_simp
          try simp only [Act.put, List.setIfInBounds_toArray, List.set_cons_zero, List.set_cons_succ]
          refine wpAnyH_take (i := 3) (oi := ⟨_, _, _, _, _, _⟩) (v := .agg #[.int .i64 3, .string ⟨#[]⟩, .string ⟨#[]⟩]) rfl (by kernel_rfl) (by kernel_rfl) (by kernel_rfl) (fun _ _ _ h => h) (Or.inl ⟨wanted_free rfl, fun w' hSw => ?_⟩) hHeld ?_
          · obtain ⟨s0, s1, s2⟩ := hSw
            go_simp
          try simp only [Act.put, List.setIfInBounds_toArray, List.set_cons_zero, List.set_cons_succ]
          refine wpAnyH_ready (rs := [0, 4]) (by kernel_rfl) (by simp) (AllReadyH.cons (o := ⟨_, _, _, _, _, _⟩) rfl (fun K hK => ?_) (AllReadyH.cons (o := ⟨_, _, _, _, _, _⟩) rfl (fun K hK => ?_) AllReadyH.nil))
          · as_aux_lemma =>
            rewrite [if_pos (wanted_free rfl)]
            with_reducible refine wp_buildIns0 (by with_unfolding_all rfl) w.heap.size (Sta.size HS162) ?_
            intro w163 hO163 hG163
            have HS163 := Sta.app 0 HS162 rfl (Nat.le_refl _) hO163 hG163 (Or.inr rfl)
            clear hO163 hG163
            refine hK.out _ _ ⟨Sta.c (i := 0) HS163 rfl rfl, Sta.c (i := 0) HS163 rfl rfl, Sta.c (i := 0) HS163 rfl rfl⟩ (fun hHeld => ?_)
            clear hK K
            try simp only [Act.put, List.setIfInBounds_toArray, List.set_cons_zero, List.set_cons_succ]
            refine wpAnyH_ready (rs := [2, 4]) (by kernel_rfl) (by simp) (AllReadyH.cons (o := ⟨_, _, _, _, _, _⟩) rfl (fun K hK => ?_) (AllReadyH.cons (o := ⟨_, _, _, _, _, _⟩) rfl (fun K hK => ?_) AllReadyH.nil))
            · as_aux_lemma =>
              rewrite [if_pos (wanted_free rfl)]
              with_reducible refine wp_appendInsM (W := w163) (.tmp 89) (.tmp 90) (by with_unfolding_all rfl) w.heap.size (.slice (some ⟨w162.heap.size, 0, none⟩) 0 0) ([]) p9 o9 pn pc l1 (by with_unfolding_all rfl) (Sta.t (i := 0) HS163 rfl) (by with_unfolding_all rfl) Hp1.out.1 (Sta.t (i := 3) HS163 rfl :).1 (by have hx := Hp1.out.1; have h1 := HY.out.len; have h2 := Hp1.out.1; have h3 := Hp2.out.1; simp only [List.length_append, List.length_cons, List.length_nil] at *; omega) (Sta.size HS163) ?_
              intro v164 w164 hO164 hG164 hb164
              obtain ⟨a164, m164, c164, hm164, rfl⟩ := InsO.formS hO164 (app_ne HN1.out)
              have HS164 := Sta.app 0 HS163 rfl (Nat.le_refl _) hO164 hG164 hb164
              have Hm164 := hidP hm164
              clear hO164 hG164 hb164 hm164
              refine hK.out _ _ ⟨Sta.c (i := 0) HS164 rfl rfl, Sta.c (i := 0) HS164 rfl rfl, Sta.c (i := 0) HS164 rfl rfl⟩ (fun hHeld => ?_)
              clear hK K
              try simp only [Act.put, List.setIfInBounds_toArray, List.set_cons_zero, List.set_cons_succ]
              refine wpAnyH_ready (rs := [4]) (by kernel_rfl) (by simp) (AllReadyH.cons (o := ⟨_, _, _, _, _, _⟩) rfl (fun K hK => ?_) AllReadyH.nil)
              rewrite [if_pos (wanted_free rfl)]
              with_reducible refine wp_buildIns (.tmp 92) (by with_unfolding_all rfl) 3 (⟨#[]⟩) (⟨#[]⟩) (by with_unfolding_all rfl) ?_
              intro w165 hA165 hB165
              have HS165 := Sta.new HS164 hA165 hB165 (by simp [insv])
              clear hA165 hB165
              refine hK.out _ _ ⟨Sta.c (i := 1) HS165 rfl rfl, Sta.c (i := 1) HS165 rfl rfl, Sta.c (i := 1) HS165 rfl rfl⟩ (fun hHeld => ?_)
              clear hK K
              try simp only [Act.put, List.setIfInBounds_toArray, List.set_cons_zero, List.set_cons_succ]
              refine wpAnyH_ready (rs := [5]) (by kernel_rfl) (by simp) (AllReadyH.cons (o := ⟨_, _, _, _, _, _⟩) rfl (fun K hK => ?_) AllReadyH.nil)
              rewrite [if_pos (wanted_free rfl)]
              with_reducible refine wp_appendInsM (W := w165) (.tmp 91) (.tmp 93) (by with_unfolding_all rfl) w.heap.size (.slice (some ⟨a164, 0, none⟩) m164 c164) l1 w164.heap.size 0 1 1 ([⟨3, ⟨#[]⟩, ⟨#[]⟩⟩] : List InsV) (by with_unfolding_all rfl) (Sta.t (i := 0) HS165 rfl) (by with_unfolding_all rfl) rfl (RowV.ins (l := [⟨3, ⟨#[]⟩, ⟨#[]⟩⟩]) (Sta.r (i := 0) HS165 (by with_unfolding_all rfl))) (by have hx := True.intro; have h1 := HY.out.len; have h2 := Hp1.out.1; have h3 := Hp2.out.1; simp only [List.length_append, List.length_cons, List.length_nil] at *; omega) (Sta.size HS165) ?_
              intro v166 w166 hO166 hG166 hb166
              obtain ⟨a166, m166, c166, hm166, rfl⟩ := InsO.formS hO166 (app_ne (by simp))
              have HS166 := Sta.app 0 HS165 rfl (Nat.le_refl _) hO166 hG166 hb166
              have Hm166 := hidP hm166
              clear hO166 hG166 hb166 hm166
              refine hK.out _ _ ⟨Sta.c (i := 1) HS166 rfl rfl, Sta.c (i := 1) HS166 rfl rfl, Sta.c (i := 1) HS166 rfl rfl⟩ (fun hHeld => ?_)
              clear hK K
              try simp only [Act.put, List.setIfInBounds_toArray, List.set_cons_zero, List.set_cons_succ]
              refine wpAnyH_take (i := 6) (oi := ⟨_, _, _, _, _, _⟩) (v := .slice (some ⟨a166, 0, none⟩) m166 c166) rfl (by kernel_rfl) (by kernel_rfl) (by kernel_rfl) (fun _ _ _ h => h) (Or.inl ⟨wanted_free rfl, fun w' hSw => ?_⟩) hHeld ?_
              · go_simp
              try simp only [Act.put, List.setIfInBounds_toArray, List.set_cons_zero, List.set_cons_succ]
              refine wpAnyH_done (by kernel_rfl) ?_ _
              clear hHeld
              go_wp2_with fail
              go_meet
              exact ⟨a166, m166, c166, rfl, Hm166, Sta.drop 1 0 HS166⟩
            · as_aux_lemma =>
              rewrite [if_pos (wanted_free rfl)]
              with_reducible refine wp_buildIns (.tmp 92) (by with_unfolding_all rfl) 3 (⟨#[]⟩) (⟨#[]⟩) (by with_unfolding_all rfl) ?_
              intro w167 hA167 hB167
              have HS167 := Sta.new HS163 hA167 hB167 (by simp [insv])
              clear hA167 hB167
              refine hK.out _ _ ⟨Sta.c (i := 1) HS167 rfl rfl, Sta.c (i := 1) HS167 rfl rfl, Sta.c (i := 1) HS167 rfl rfl⟩ (fun hHeld => ?_)
              clear hK K
              try simp only [Act.put, List.setIfInBounds_toArray, List.set_cons_zero, List.set_cons_succ]
              refine wpAnyH_ready (rs := [2]) (by kernel_rfl) (by simp) (AllReadyH.cons (o := ⟨_, _, _, _, _, _⟩) rfl (fun K hK => ?_) AllReadyH.nil)
              rewrite [if_pos (wanted_free rfl)]
              with_reducible refine wp_appendInsM (W := w167) (.tmp 89) (.tmp 90) (by with_unfolding_all rfl) w.heap.size (.slice (some ⟨w162.heap.size, 0, none⟩) 0 0) ([]) p9 o9 pn pc l1 (by with_unfolding_all rfl) (Sta.t (i := 0) HS167 rfl) (by with_unfolding_all rfl) Hp1.out.1 (Sta.t (i := 3) HS167 rfl :).1 (by have hx := Hp1.out.1; have h1 := HY.out.len; have h2 := Hp1.out.1; have h3 := Hp2.out.1; simp only [List.length_append, List.length_cons, List.length_nil] at *; omega) (Sta.size HS167) ?_
              intro v168 w168 hO168 hG168 hb168
              obtain ⟨a168, m168, c168, hm168, rfl⟩ := InsO.formS hO168 (app_ne HN1.out)
              have HS168 := Sta.app 0 HS167 rfl (Nat.le_refl _) hO168 hG168 hb168
              have Hm168 := hidP hm168
              clear hO168 hG168 hb168 hm168
              refine hK.out _ _ ⟨Sta.c (i := 1) HS168 rfl rfl, Sta.c (i := 1) HS168 rfl rfl, Sta.c (i := 1) HS168 rfl rfl⟩ (fun hHeld => ?_)
              clear hK K
              try simp only [Act.put, List.setIfInBounds_toArray, List.set_cons_zero, List.set_cons_succ]
              refine wpAnyH_ready (rs := [5]) (by kernel_rfl) (by simp) (AllReadyH.cons (o := ⟨_, _, _, _, _, _⟩) rfl (fun K hK => ?_) AllReadyH.nil)
              rewrite [if_pos (wanted_free rfl)]
              with_reducible refine wp_appendInsM (W := w168) (.tmp 91) (.tmp 93) (by with_unfolding_all rfl) w.heap.size (.slice (some ⟨a168, 0, none⟩) m168 c168) l1 w163.heap.size 0 1 1 ([⟨3, ⟨#[]⟩, ⟨#[]⟩⟩] : List InsV) (by with_unfolding_all rfl) (Sta.t (i := 0) HS168 rfl) (by with_unfolding_all rfl) rfl (RowV.ins (l := [⟨3, ⟨#[]⟩, ⟨#[]⟩⟩]) (Sta.r (i := 0) HS168 (by with_unfolding_all rfl))) (by have hx := True.intro; have h1 := HY.out.len; have h2 := Hp1.out.1; have h3 := Hp2.out.1; simp only [List.length_append, List.length_cons, List.length_nil] at *; omega) (Sta.size HS168) ?_
              intro v169 w169 hO169 hG169 hb169
              obtain ⟨a169, m169, c169, hm169, rfl⟩ := InsO.formS hO169 (app_ne (by simp))
              have HS169 := Sta.app 0 HS168 rfl (Nat.le_refl _) hO169 hG169 hb169
              have Hm169 := hidP hm169
              clear hO169 hG169 hb169 hm169
              refine hK.out _ _ ⟨Sta.c (i := 1) HS169 rfl rfl, Sta.c (i := 1) HS169 rfl rfl, Sta.c (i := 1) HS169 rfl rfl⟩ (fun hHeld => ?_)
              clear hK K
              try simp only [Act.put, List.setIfInBounds_toArray, List.set_cons_zero, List.set_cons_succ]
              refine wpAnyH_take (i := 6) (oi := ⟨_, _, _, _, _, _⟩) (v := .slice (some ⟨a169, 0, none⟩) m169 c169) rfl (by kernel_rfl) (by kernel_rfl) (by kernel_rfl) (fun _ _ _ h => h) (Or.inl ⟨wanted_free rfl, fun w' hSw => ?_⟩) hHeld ?_
              · go_simp
              try simp only [Act.put, List.setIfInBounds_toArray, List.set_cons_zero, List.set_cons_succ]
              refine wpAnyH_done (by kernel_rfl) ?_ _
              clear hHeld
              go_wp2_with fail
              go_meet
              exact ⟨a169, m169, c169, rfl, Hm169, Sta.drop 1 0 HS169⟩
          · as_aux_lemma =>
            rewrite [if_pos (wanted_free rfl)]
            with_reducible refine wp_buildIns (.tmp 92) (by with_unfolding_all rfl) 3 (⟨#[]⟩) (⟨#[]⟩) (by with_unfolding_all rfl) ?_
            intro w170 hA170 hB170
            have HS170 := Sta.new HS162 hA170 hB170 (by simp [insv])
            clear hA170 hB170
            refine hK.out _ _ ⟨Sta.c (i := 1) HS170 rfl rfl, Sta.c (i := 1) HS170 rfl rfl, Sta.c (i := 1) HS170 rfl rfl⟩ (fun hHeld => ?_)
            clear hK K
            try simp only [Act.put, List.setIfInBounds_toArray, List.set_cons_zero, List.set_cons_succ]
            refine wpAnyH_ready (rs := [0]) (by kernel_rfl) (by simp) (AllReadyH.cons (o := ⟨_, _, _, _, _, _⟩) rfl (fun K hK => ?_) AllReadyH.nil)
            rewrite [if_pos (wanted_free rfl)]
            with_reducible refine wp_buildIns0 (by with_unfolding_all rfl) w.heap.size (Sta.size HS170) ?_
            intro w171 hO171 hG171
            have HS171 := Sta.app 0 HS170 rfl (Nat.le_refl _) hO171 hG171 (Or.inr rfl)
            clear hO171 hG171
            refine hK.out _ _ ⟨Sta.c (i := 1) HS171 rfl rfl, Sta.c (i := 1) HS171 rfl rfl, Sta.c (i := 1) HS171 rfl rfl⟩ (fun hHeld => ?_)
            clear hK K
            try simp only [Act.put, List.setIfInBounds_toArray, List.set_cons_zero, List.set_cons_succ]
            refine wpAnyH_ready (rs := [2]) (by kernel_rfl) (by simp) (AllReadyH.cons (o := ⟨_, _, _, _, _, _⟩) rfl (fun K hK => ?_) AllReadyH.nil)
            rewrite [if_pos (wanted_free rfl)]
            with_reducible refine wp_appendInsM (W := w171) (.tmp 89) (.tmp 90) (by with_unfolding_all rfl) w.heap.size (.slice (some ⟨w170.heap.size, 0, none⟩) 0 0) ([]) p9 o9 pn pc l1 (by with_unfolding_all rfl) (Sta.t (i := 0) HS171 rfl) (by with_unfolding_all rfl) Hp1.out.1 (Sta.t (i := 3) HS171 rfl :).1 (by have hx := Hp1.out.1; have h1 := HY.out.len; have h2 := Hp1.out.1; have h3 := Hp2.out.1; simp only [List.length_append, List.length_cons, List.length_nil] at *; omega) (Sta.size HS171) ?_
            intro v172 w172 hO172 hG172 hb172
            obtain ⟨a172, m172, c172, hm172, rfl⟩ := InsO.formS hO172 (app_ne HN1.out)
            have HS172 := Sta.app 0 HS171 rfl (Nat.le_refl _) hO172 hG172 hb172
            have Hm172 := hidP hm172
            clear hO172 hG172 hb172 hm172
            refine hK.out _ _ ⟨Sta.c (i := 1) HS172 rfl rfl, Sta.c (i := 1) HS172 rfl rfl, Sta.c (i := 1) HS172 rfl rfl⟩ (fun hHeld => ?_)
            clear hK K
            try simp only [Act.put, List.setIfInBounds_toArray, List.set_cons_zero, List.set_cons_succ]
            refine wpAnyH_ready (rs := [5]) (by kernel_rfl) (by simp) (AllReadyH.cons (o := ⟨_, _, _, _, _, _⟩) rfl (fun K hK => ?_) AllReadyH.nil)
            rewrite [if_pos (wanted_free rfl)]
            with_reducible refine wp_appendInsM (W := w172) (.tmp 91) (.tmp 93) (by with_unfolding_all rfl) w.heap.size (.slice (some ⟨a172, 0, none⟩) m172 c172) l1 w162.heap.size 0 1 1 ([⟨3, ⟨#[]⟩, ⟨#[]⟩⟩] : List InsV) (by with_unfolding_all rfl) (Sta.t (i := 0) HS172 rfl) (by with_unfolding_all rfl) rfl (RowV.ins (l := [⟨3, ⟨#[]⟩, ⟨#[]⟩⟩]) (Sta.r (i := 0) HS172 (by with_unfolding_all rfl))) (by have hx := True.intro; have h1 := HY.out.len; have h2 := Hp1.out.1; have h3 := Hp2.out.1; simp only [List.length_append, List.length_cons, List.length_nil] at *; omega) (Sta.size HS172) ?_
            intro v173 w173 hO173 hG173 hb173
            obtain ⟨a173, m173, c173, hm173, rfl⟩ := InsO.formS hO173 (app_ne (by simp))
            have HS173 := Sta.app 0 HS172 rfl (Nat.le_refl _) hO173 hG173 hb173
            have Hm173 := hidP hm173
            clear hO173 hG173 hb173 hm173
            refine hK.out _ _ ⟨Sta.c (i := 1) HS173 rfl rfl, Sta.c (i := 1) HS173 rfl rfl, Sta.c (i := 1) HS173 rfl rfl⟩ (fun hHeld => ?_)
            clear hK K
            try simp only [Act.put, List.setIfInBounds_toArray, List.set_cons_zero, List.set_cons_succ]
            refine wpAnyH_take (i := 6) (oi := ⟨_, _, _, _, _, _⟩) (v := .slice (some ⟨a173, 0, none⟩) m173 c173) rfl (by kernel_rfl) (by kernel_rfl) (by kernel_rfl) (fun _ _ _ h => h) (Or.inl ⟨wanted_free rfl, fun w' hSw => ?_⟩) hHeld ?_
            · go_simp
            try simp only [Act.put, List.setIfInBounds_toArray, List.set_cons_zero, List.set_cons_succ]
            refine wpAnyH_done (by kernel_rfl) ?_ _
            clear hHeld
            go_wp2_with fail
            go_meet
            exact ⟨a173, m173, c173, rfl, Hm173, Sta.drop 1 0 HS173⟩
        case rest =>
          obtain ⟨g15, m15, k15, rfl, H15, HS174⟩ := hcut
          rename Go.World => wl174
          go_wp2_with fail
          try simp only [Act.put, List.setIfInBounds_toArray, List.set_cons_zero, List.set_cons_succ]
          go_cut [15] (fun v0 wx => ∃ (g16 : Nat) (m16 : Nat) (k16 : Nat), v0 = .slice (some ⟨g16, 0, none⟩) m16 k16 ∧ Hid ((((l1 ++ ([⟨3, ⟨#[]⟩, ⟨#[]⟩⟩] : List InsV)) ++ l2) ++ ([⟨3, ⟨#[]⟩, ⟨#[]⟩⟩] : List InsV)).length = m16) ∧ Hid (Sta [] w [(w119.heap.size, [.int .i64 3, .string ⟨#[]⟩, .string ⟨#[]⟩])] [⟨fun k => (Value.slice (some ⟨g16, 0, none⟩) m16 k16).ownBlock = some k, fun w' => InsO w' w.heap.size (.slice (some ⟨g16, 0, none⟩) m16 k16) (((l1 ++ ([⟨3, ⟨#[]⟩, ⟨#[]⟩⟩] : List InsV)) ++ l2) ++ ([⟨3, ⟨#[]⟩, ⟨#[]⟩⟩] : List InsV))⟩, ⟨fun k => (Value.slice (some ⟨a126, 0, none⟩) m126 c126).ownBlock = some k, fun w' => InsO w' w.heap.size (.slice (some ⟨a126, 0, none⟩) m126 c126) (l1 ++ l2)⟩, ⟨fun k => w1.heap.size ≤ k ∧ k < w2.heap.size, fun w2 => InsAt w2 (some ⟨q9, r9, none⟩) l2 ∧ LabAt w2 ea es⟩, ⟨fun k => w.heap.size ≤ k ∧ k < w1.heap.size, fun w2 => InsAt w2 (some ⟨p9, o9, none⟩) l1 ∧ LabAt w2 da ls⟩, ⟨fun k => k < w.heap.size, fun w' => Bytes w' a1 n1 ∧ Bytes w' a2 n2⟩] wx))
          case first =>
            go_wp2_with fail
            have HS175 := Sta.drew HS174
            refine wp_region_held_drew (S := fun w' => w'.cell? ⟨w119.heap.size, 0, none⟩ = some (.int .i64 3) ∧ w'.cell? ⟨w119.heap.size, 1, none⟩ = some (.string ⟨#[]⟩) ∧ w'.cell? ⟨w119.heap.size, 2, none⟩ = some (.string ⟨#[]⟩)) (by kernel_rfl) ⟨Sta.c (i := 0) HS175 rfl rfl, Sta.c (i := 0) HS175 rfl rfl, Sta.c (i := 0) HS175 rfl rfl⟩ (fun hHeld => ?_)
            generalize wl174.drew = w175 at *
            refine wpAnyH_take (i := 0) (oi := ⟨_, _, _, _, _, _⟩) (v := .slice (some ⟨g15, 0, none⟩) m15 k15) rfl (by kernel_rfl) (by kernel_rfl) (by kernel_rfl) (fun _ _ _ h => h) (Or.inl ⟨wanted_free rfl, fun w' hSw => ?_⟩) hHeld ?_
            · go_simp
            try simp only [Act.put, List.setIfInBounds_toArray, List.set_cons_zero, List.set_cons_succ]
            refine wpAnyH_take (i := 1) (oi := ⟨_, _, _, _, _, _⟩) (v := .slice (some ⟨q9, r9, none⟩) qn qc) rfl (by kernel_rfl) (by kernel_rfl) (by kernel_rfl) (fun _ _ _ h => h) (Or.inl ⟨wanted_free rfl, fun w' hSw => ?_⟩) hHeld ?_
            · go_simp
            try simp only [Act.put, List.setIfInBounds_toArray, List.set_cons_zero, List.set_cons_succ]
            refine wpAnyH_take (i := 3) (oi := ⟨_, _, _, _, _, _⟩) (v := .agg #[.int .i64 3, .string ⟨#[]⟩, .string ⟨#[]⟩]) rfl (by kernel_rfl) (by kernel_rfl) (by kernel_rfl) (fun _ _ _ h => h) (Or.inl ⟨wanted_free rfl, fun w' hSw => ?_⟩) hHeld ?_
            · obtain ⟨s0, s1, s2⟩ := hSw
              go_simp
            try simp only [Act.put, List.setIfInBounds_toArray, List.set_cons_zero, List.set_cons_succ]
            refine wpAnyH_ready (rs := [2, 4]) (by kernel_rfl) (by simp) (AllReadyH.cons (o := ⟨_, _, _, _, _, _⟩) rfl (fun K hK => ?_) (AllReadyH.cons (o := ⟨_, _, _, _, _, _⟩) rfl (fun K hK => ?_) AllReadyH.nil))
            · as_aux_lemma =>
              rewrite [if_pos (wanted_free rfl)]
              with_reducible refine wp_appendInsM (W := w175) (.tmp 95) (.tmp 96) (by with_unfolding_all rfl) w.heap.size (.slice (some ⟨g15, 0, none⟩) m15 k15) (l1 ++ ([⟨3, ⟨#[]⟩, ⟨#[]⟩⟩] : List InsV)) q9 r9 qn qc l2 (by with_unfolding_all rfl) (Sta.t (i := 0) HS175 rfl) (by with_unfolding_all rfl) Hp2.out.1 (Sta.t (i := 2) HS175 rfl :).1 (by have hx := Hp2.out.1; have h1 := HY.out.len; have h2 := Hp1.out.1; have h3 := Hp2.out.1; simp only [List.length_append, List.length_cons, List.length_nil] at *; omega) (Sta.size HS175) ?_
              intro v176 w176 hO176 hG176 hb176
              obtain ⟨a176, m176, c176, hm176, rfl⟩ := InsO.formS hO176 (app_ne HN2.out)
              have HS176 := Sta.app 0 HS175 rfl (Nat.le_refl _) hO176 hG176 hb176
              have Hm176 := hidP hm176
              clear hO176 hG176 hb176 hm176
              refine hK.out _ _ ⟨Sta.c (i := 0) HS176 rfl rfl, Sta.c (i := 0) HS176 rfl rfl, Sta.c (i := 0) HS176 rfl rfl⟩ (fun hHeld => ?_)
              clear hK K
              try simp only [Act.put, List.setIfInBounds_toArray, List.set_cons_zero, List.set_cons_succ]
              refine wpAnyH_ready (rs := [4]) (by kernel_rfl) (by simp) (AllReadyH.cons (o := ⟨_, _, _, _, _, _⟩) rfl (fun K hK => ?_) AllReadyH.nil)
              rewrite [if_pos (wanted_free rfl)]
              with_reducible refine wp_buildIns (.tmp 98) (by with_unfolding_all rfl) 3 (⟨#[]⟩) (⟨#[]⟩) (by with_unfolding_all rfl) ?_
              intro w177 hA177 hB177
              have HS177 := Sta.new HS176 hA177 hB177 (by simp [insv])
              clear hA177 hB177
              refine hK.out _ _ ⟨Sta.c (i := 1) HS177 rfl rfl, Sta.c (i := 1) HS177 rfl rfl, Sta.c (i := 1) HS177 rfl rfl⟩ (fun hHeld => ?_)
              clear hK K
              try simp only [Act.put, List.setIfInBounds_toArray, List.set_cons_zero, List.set_cons_succ]
              refine wpAnyH_ready (rs := [5]) (by kernel_rfl) (by simp) (AllReadyH.cons (o := ⟨_, _, _, _, _, _⟩) rfl (fun K hK => ?_) AllReadyH.nil)
              rewrite [if_pos (wanted_free rfl)]
              with_reducible refine wp_appendInsM (W := w177) (.tmp 97) (.tmp 99) (by with_unfolding_all rfl) w.heap.size (.slice (some ⟨a176, 0, none⟩) m176 c176) ((l1 ++ ([⟨3, ⟨#[]⟩, ⟨#[]⟩⟩] : List InsV)) ++ l2) w176.heap.size 0 1 1 ([⟨3, ⟨#[]⟩, ⟨#[]⟩⟩] : List InsV) (by with_unfolding_all rfl) (Sta.t (i := 0) HS177 rfl) (by with_unfolding_all rfl) rfl (RowV.ins (l := [⟨3, ⟨#[]⟩, ⟨#[]⟩⟩]) (Sta.r (i := 0) HS177 (by with_unfolding_all rfl))) (by have hx := True.intro; have h1 := HY.out.len; have h2 := Hp1.out.1; have h3 := Hp2.out.1; simp only [List.length_append, List.length_cons, List.length_nil] at *; omega) (Sta.size HS177) ?_
              intro v178 w178 hO178 hG178 hb178
              obtain ⟨a178, m178, c178, hm178, rfl⟩ := InsO.formS hO178 (app_ne (by simp))
              have HS178 := Sta.app 0 HS177 rfl (Nat.le_refl _) hO178 hG178 hb178
              have Hm178 := hidP hm178
              clear hO178 hG178 hb178 hm178
              refine hK.out _ _ ⟨Sta.c (i := 1) HS178 rfl rfl, Sta.c (i := 1) HS178 rfl rfl, Sta.c (i := 1) HS178 rfl rfl⟩ (fun hHeld => ?_)
              clear hK K
              try simp only [Act.put, List.setIfInBounds_toArray, List.set_cons_zero, List.set_cons_succ]
              refine wpAnyH_take (i := 6) (oi := ⟨_, _, _, _, _, _⟩) (v := .slice (some ⟨a178, 0, none⟩) m178 c178) rfl (by kernel_rfl) (by kernel_rfl) (by kernel_rfl) (fun _ _ _ h => h) (Or.inl ⟨wanted_free rfl, fun w' hSw => ?_⟩) hHeld ?_
              · go_simp
              try simp only [Act.put, List.setIfInBounds_toArray, List.set_cons_zero, List.set_cons_succ]
              refine wpAnyH_done (by kernel_rfl) ?_ _
              clear hHeld
              go_wp2_with fail
              go_meet
              exact ⟨a178, m178, c178, rfl, Hm178, Sta.drop 1 0 HS178⟩
            · as_aux_lemma =>
              rewrite [if_pos (wanted_free rfl)]
              with_reducible refine wp_buildIns (.tmp 98) (by with_unfolding_all rfl) 3 (⟨#[]⟩) (⟨#[]⟩) (by with_unfolding_all rfl) ?_
              intro w179 hA179 hB179
              have HS179 := Sta.new HS175 hA179 hB179 (by simp [insv])
              clear hA179 hB179
              refine hK.out _ _ ⟨Sta.c (i := 1) HS179 rfl rfl, Sta.c (i := 1) HS179 rfl rfl, Sta.c (i := 1) HS179 rfl rfl⟩ (fun hHeld => ?_)
              clear hK K
              try simp only [Act.put, List.setIfInBounds_toArray, List.set_cons_zero, List.set_cons_succ]
              refine wpAnyH_ready (rs := [2]) (by kernel_rfl) (by simp) (AllReadyH.cons (o := ⟨_, _, _, _, _, _⟩) rfl (fun K hK => ?_) AllReadyH.nil)
              rewrite [if_pos (wanted_free rfl)]
              with_reducible refine wp_appendInsM (W := w179) (.tmp 95) (.tmp 96) (by with_unfolding_all rfl) w.heap.size (.slice (some ⟨g15, 0, none⟩) m15 k15) (l1 ++ ([⟨3, ⟨#[]⟩, ⟨#[]⟩⟩] : List InsV)) q9 r9 qn qc l2 (by with_unfolding_all rfl) (Sta.t (i := 0) HS179 rfl) (by with_unfolding_all rfl) Hp2.out.1 (Sta.t (i := 2) HS179 rfl :).1 (by have hx := Hp2.out.1; have h1 := HY.out.len; have h2 := Hp1.out.1; have h3 := Hp2.out.1; simp only [List.length_append, List.length_cons, List.length_nil] at *; omega) (Sta.size HS179) ?_
              intro v180 w180 hO180 hG180 hb180
              obtain ⟨a180, m180, c180, hm180, rfl⟩ := InsO.formS hO180 (app_ne HN2.out)
              have HS180 := Sta.app 0 HS179 rfl (Nat.le_refl _) hO180 hG180 hb180
              have Hm180 := hidP hm180
              clear hO180 hG180 hb180 hm180
              refine hK.out _ _ ⟨Sta.c (i := 1) HS180 rfl rfl, Sta.c (i := 1) HS180 rfl rfl, Sta.c (i := 1) HS180 rfl rfl⟩ (fun hHeld => ?_)
              clear hK K
              try simp only [Act.put, List.setIfInBounds_toArray, List.set_cons_zero, List.set_cons_succ]
              refine wpAnyH_ready (rs := [5]) (by kernel_rfl) (by simp) (AllReadyH.cons (o := ⟨_, _, _, _, _, _⟩) rfl (fun K hK => ?_) AllReadyH.nil)
              rewrite [if_pos (wanted_free rfl)]
              with_reducible refine wp_appendInsM (W := w180) (.tmp 97) (.tmp 99) (by with_unfolding_all rfl) w.heap.size (.slice (some ⟨a180, 0, none⟩) m180 c180) ((l1 ++ ([⟨3, ⟨#[]⟩, ⟨#[]⟩⟩] : List InsV)) ++ l2) w175.heap.size 0 1 1 ([⟨3, ⟨#[]⟩, ⟨#[]⟩⟩] : List InsV) (by with_unfolding_all rfl) (Sta.t (i := 0) HS180 rfl) (by with_unfolding_all rfl) rfl (RowV.ins (l := [⟨3, ⟨#[]⟩, ⟨#[]⟩⟩]) (Sta.r (i := 0) HS180 (by with_unfolding_all rfl))) (by have hx := True.intro; have h1 := HY.out.len; have h2 := Hp1.out.1; have h3 := Hp2.out.1; simp only [List.length_append, List.length_cons, List.length_nil] at *; omega) (Sta.size HS180) ?_
              intro v181 w181 hO181 hG181 hb181
              obtain ⟨a181, m181, c181, hm181, rfl⟩ := InsO.formS hO181 (app_ne (by simp))
              have HS181 := Sta.app 0 HS180 rfl (Nat.le_refl _) hO181 hG181 hb181
              have Hm181 := hidP hm181
              clear hO181 hG181 hb181 hm181
              refine hK.out _ _ ⟨Sta.c (i := 1) HS181 rfl rfl, Sta.c (i := 1) HS181 rfl rfl, Sta.c (i := 1) HS181 rfl rfl⟩ (fun hHeld => ?_)
              clear hK K
              try simp only [Act.put, List.setIfInBounds_toArray, List.set_cons_zero, List.set_cons_succ]
              refine wpAnyH_take (i := 6) (oi := ⟨_, _, _, _, _, _⟩) (v := .slice (some ⟨a181, 0, none⟩) m181 c181) rfl (by kernel_rfl) (by kernel_rfl) (by kernel_rfl) (fun _ _ _ h => h) (Or.inl ⟨wanted_free rfl, fun w' hSw => ?_⟩) hHeld ?_
              · go_simp
              try simp only [Act.put, List.setIfInBounds_toArray, List.set_cons_zero, List.set_cons_succ]
              refine wpAnyH_done (by kernel_rfl) ?_ _
              clear hHeld
              go_wp2_with fail
              go_meet
              exact ⟨a181, m181, c181, rfl, Hm181, Sta.drop 1 0 HS181⟩
          case rest =>
            obtain ⟨g16, m16, k16, rfl, H16, HS182⟩ := hcut
            rename Go.World => wl182
            · skip
              have HS183 : Hid (Sta [] w [(w119.heap.size, [.int .i64 3, .string ⟨#[]⟩, .string ⟨#[]⟩])] [⟨fun k => (Value.slice none 0 0).ownBlock = some k, fun w' => InsO w' w.heap.size (.slice none 0 0) ([])⟩, ⟨fun k => (Value.slice (some ⟨g16, 0, none⟩) m16 k16).ownBlock = some k, fun w' => InsO w' w.heap.size (.slice (some ⟨g16, 0, none⟩) m16 k16) (((l1 ++ ([⟨3, ⟨#[]⟩, ⟨#[]⟩⟩] : List InsV)) ++ l2) ++ ([⟨3, ⟨#[]⟩, ⟨#[]⟩⟩] : List InsV))⟩, ⟨fun k => (Value.slice (some ⟨a126, 0, none⟩) m126 c126).ownBlock = some k, fun w' => InsO w' w.heap.size (.slice (some ⟨a126, 0, none⟩) m126 c126) (l1 ++ l2)⟩, ⟨fun k => w1.heap.size ≤ k ∧ k < w2.heap.size, fun w2 => InsAt w2 (some ⟨q9, r9, none⟩) l2 ∧ LabAt w2 ea es⟩, ⟨fun k => w.heap.size ≤ k ∧ k < w1.heap.size, fun w2 => InsAt w2 (some ⟨p9, o9, none⟩) l1 ∧ LabAt w2 da ls⟩, ⟨fun k => k < w.heap.size, fun w' => Bytes w' a1 n1 ∧ Bytes w' a2 n2⟩] wl182) := Sta.own0 w.heap.size 41 3 HS182
              have hO184 := World.ownsRow_made (base := w.heap.size) (size := 3) (e := 41) wl182 #[] 0 (Sta.size HS183) (by decide) (by simp)
              have hG184 := World.grownBy_alloc wl182 (.cells #[] 41) (Value.slice none 0 0).ownBlock
              have HS184 := Sta.app 0 HS183 rfl (Nat.le_refl _) hO184 hG184 (Or.inr rfl)
              clear hO184 hG184
              go_upto_region 18 with (first
                | ((with_reducible refine wpList_appendInsM (W := (wl182.alloc (.cells #[] 41))) (by with_unfolding_all rfl) (.tmp 101) (.tmp 102) (by with_unfolding_all rfl) w.heap.size (.slice (some ⟨wl182.heap.size, 0, none⟩) 0 0) ([]) g16 0 m16 k16 (((l1 ++ ([⟨3, ⟨#[]⟩, ⟨#[]⟩⟩] : List InsV)) ++ l2) ++ ([⟨3, ⟨#[]⟩, ⟨#[]⟩⟩] : List InsV)) (by with_unfolding_all rfl) (Sta.t (i := 0) HS184 rfl) (by with_unfolding_all rfl) H16.out (InsO.row (Sta.t (i := 1) HS184 rfl)).1.ins (by have hx := H16.out; have h1 := HY.out.len; have h2 := Hp1.out.1; have h3 := Hp2.out.1; simp only [List.length_append, List.length_cons, List.length_nil] at *; omega) (Sta.size HS184) ?_); intro v185 w185 hO185 hG185 hb185; obtain ⟨a185, m185, c185, hm185, rfl⟩ := InsO.formS hO185 (app_ne (app_ne (by simp))); have HS185 := Sta.app 0 HS184 rfl (Nat.le_refl _) hO185 hG185 hb185; have Hm185 := hidP hm185; clear hO185 hG185 hb185 hm185)
                | ((with_reducible refine wpList_buildIns (w := w185) (by with_unfolding_all rfl) (.tmp 104) (by with_unfolding_all rfl) 5 (⟨#[]⟩) (⟨#[]⟩) (by with_unfolding_all rfl) ?_); intro w186 hA186 hB186; have HS186 := Sta.new HS185 hA186 hB186 (by simp [insv]); clear hA186 hB186)
                | ((with_reducible refine wpList_appendInsM (W := w186) (by with_unfolding_all rfl) (.tmp 103) (.tmp 105) (by with_unfolding_all rfl) w.heap.size (.slice (some ⟨a185, 0, none⟩) m185 c185) (((l1 ++ ([⟨3, ⟨#[]⟩, ⟨#[]⟩⟩] : List InsV)) ++ l2) ++ ([⟨3, ⟨#[]⟩, ⟨#[]⟩⟩] : List InsV)) w185.heap.size 0 1 1 ([⟨5, ⟨#[]⟩, ⟨#[]⟩⟩] : List InsV) (by with_unfolding_all rfl) (Sta.t (i := 0) HS186 rfl) (by with_unfolding_all rfl) rfl (RowV.ins (l := [⟨5, ⟨#[]⟩, ⟨#[]⟩⟩]) (Sta.r (i := 0) HS186 (by with_unfolding_all rfl))) (by have hx := True.intro; have h1 := HY.out.len; have h2 := Hp1.out.1; have h3 := Hp2.out.1; simp only [List.length_append, List.length_cons, List.length_nil] at *; omega) (Sta.size HS186) ?_); intro v187 w187 hO187 hG187 hb187; obtain ⟨a187, m187, c187, hm187, rfl⟩ := InsO.formS hO187 (app_ne (by simp)); have HS187 := Sta.app 0 HS186 rfl (Nat.le_refl _) hO187 hG187 hb187; have Hm187 := hidP hm187; clear hO187 hG187 hb187 hm187)
                | (go_at_call 19; have n188_0 : InsAt w187 (some ⟨a187, 0, none⟩) ((((l1 ++ ([⟨3, ⟨#[]⟩, ⟨#[]⟩⟩] : List InsV)) ++ l2) ++ ([⟨3, ⟨#[]⟩, ⟨#[]⟩⟩] : List InsV)) ++ ([⟨5, ⟨#[]⟩, ⟨#[]⟩⟩] : List InsV)) := (InsO.row (Sta.t (i := 0) HS187 rfl)).1.ins; have n188_1 : LabAt w187 da ls := (Sta.t (i := 4) HS187 rfl :).2; have n188_2 : ls.length = dm ∧ dm ≤ 100 := (And.intro Hp1.out.2.2.2.1 Hp1.out.2.2.2.2.1); have n188_3 : ((((l1 ++ ([⟨3, ⟨#[]⟩, ⟨#[]⟩⟩] : List InsV)) ++ l2) ++ ([⟨3, ⟨#[]⟩, ⟨#[]⟩⟩] : List InsV)) ++ ([⟨5, ⟨#[]⟩, ⟨#[]⟩⟩] : List InsV)).length = m187 ∧ m187 ≤ 100 ∧ (∀ x ∈ ((((l1 ++ ([⟨3, ⟨#[]⟩, ⟨#[]⟩⟩] : List InsV)) ++ l2) ++ ([⟨3, ⟨#[]⟩, ⟨#[]⟩⟩] : List InsV)) ++ ([⟨5, ⟨#[]⟩, ⟨#[]⟩⟩] : List InsV)), x.w) := (len_w Hm187.out (by have h1 := HY.out.len; simp; omega) (w_app (w_app (w_app (w_app Hp1.out.2.2.1 (w_one w_3)) Hp2.out.2.2.1) (w_one w_3)) (w_one w_5))); have n188_4 : evalN ((((l1 ++ ([⟨3, ⟨#[]⟩, ⟨#[]⟩⟩] : List InsV)) ++ l2) ++ ([⟨3, ⟨#[]⟩, ⟨#[]⟩⟩] : List InsV)) ++ ([⟨5, ⟨#[]⟩, ⟨#[]⟩⟩] : List InsV)) ls = true := (HY.out.u); (with_reducible refine (hC33 w187 l1 da dm de ls l2 a187 m187 c187 n188_0 n188_1 n188_2 n188_3 n188_4).mono ?_); rintro r w188 ⟨rfl, hB188⟩; have HS188 := Sta.call HS187 hB188; clear hB188))
              · skip
                have HS190 : Hid (Sta [] w [(w185.heap.size, [.int .i64 5, .string ⟨#[]⟩, .string ⟨#[]⟩]), (w119.heap.size, [.int .i64 3, .string ⟨#[]⟩, .string ⟨#[]⟩])] [⟨fun k => (Value.slice none 0 0).ownBlock = some k, fun w' => InsO w' w.heap.size (.slice none 0 0) ([])⟩, ⟨fun k => (Value.slice (some ⟨a187, 0, none⟩) m187 c187).ownBlock = some k, fun w' => InsO w' w.heap.size (.slice (some ⟨a187, 0, none⟩) m187 c187) ((((l1 ++ ([⟨3, ⟨#[]⟩, ⟨#[]⟩⟩] : List InsV)) ++ l2) ++ ([⟨3, ⟨#[]⟩, ⟨#[]⟩⟩] : List InsV)) ++ ([⟨5, ⟨#[]⟩, ⟨#[]⟩⟩] : List InsV))⟩, ⟨fun k => (Value.slice (some ⟨g16, 0, none⟩) m16 k16).ownBlock = some k, fun w' => InsO w' w.heap.size (.slice (some ⟨g16, 0, none⟩) m16 k16) (((l1 ++ ([⟨3, ⟨#[]⟩, ⟨#[]⟩⟩] : List InsV)) ++ l2) ++ ([⟨3, ⟨#[]⟩, ⟨#[]⟩⟩] : List InsV))⟩, ⟨fun k => (Value.slice (some ⟨a126, 0, none⟩) m126 c126).ownBlock = some k, fun w' => InsO w' w.heap.size (.slice (some ⟨a126, 0, none⟩) m126 c126) (l1 ++ l2)⟩, ⟨fun k => w1.heap.size ≤ k ∧ k < w2.heap.size, fun w2 => InsAt w2 (some ⟨q9, r9, none⟩) l2 ∧ LabAt w2 ea es⟩, ⟨fun k => w.heap.size ≤ k ∧ k < w1.heap.size, fun w2 => InsAt w2 (some ⟨p9, o9, none⟩) l1 ∧ LabAt w2 da ls⟩, ⟨fun k => k < w.heap.size, fun w' => Bytes w' a1 n1 ∧ Bytes w' a2 n2⟩] w188) := Sta.own0 w.heap.size 41 3 HS188
                have hO191 := World.ownsRow_made (base := w.heap.size) (size := 3) (e := 41) w188 #[] 0 (Sta.size HS190) (by decide) (by simp)
                have hG191 := World.grownBy_alloc w188 (.cells #[] 41) (Value.slice none 0 0).ownBlock
                have HS191 := Sta.app 0 HS190 rfl (Nat.le_refl _) hO191 hG191 (Or.inr rfl)
                clear hO191 hG191
                go_wp2_with (first
                  | ((with_reducible refine wpList_appendInsM (W := (w188.alloc (.cells #[] 41))) (by with_unfolding_all rfl) (.tmp 109) (.tmp 110) (by with_unfolding_all rfl) w.heap.size (.slice (some ⟨w188.heap.size, 0, none⟩) 0 0) ([]) g16 0 m16 k16 (((l1 ++ ([⟨3, ⟨#[]⟩, ⟨#[]⟩⟩] : List InsV)) ++ l2) ++ ([⟨3, ⟨#[]⟩, ⟨#[]⟩⟩] : List InsV)) (by with_unfolding_all rfl) (Sta.t (i := 0) HS191 rfl) (by with_unfolding_all rfl) H16.out (InsO.row (Sta.t (i := 2) HS191 rfl)).1.ins (by have hx := H16.out; have h1 := HY.out.len; have h2 := Hp1.out.1; have h3 := Hp2.out.1; simp only [List.length_append, List.length_cons, List.length_nil] at *; omega) (Sta.size HS191) ?_); intro v192 w192 hO192 hG192 hb192; obtain ⟨a192, m192, c192, hm192, rfl⟩ := InsO.formS hO192 (app_ne (app_ne (by simp))); have HS192 := Sta.app 0 HS191 rfl (Nat.le_refl _) hO192 hG192 hb192; have Hm192 := hidP hm192; clear hO192 hG192 hb192 hm192)
                  | ((with_reducible refine wpList_buildIns (w := w192) (by with_unfolding_all rfl) (.tmp 112) (by with_unfolding_all rfl) 4 (⟨#[]⟩) (⟨#[]⟩) (by with_unfolding_all rfl) ?_); intro w193 hA193 hB193; have HS193 := Sta.new HS192 hA193 hB193 (by simp [insv]); clear hA193 hB193)
                  | ((with_reducible refine wpList_appendInsM (W := w193) (by with_unfolding_all rfl) (.tmp 111) (.tmp 113) (by with_unfolding_all rfl) w.heap.size (.slice (some ⟨a192, 0, none⟩) m192 c192) (((l1 ++ ([⟨3, ⟨#[]⟩, ⟨#[]⟩⟩] : List InsV)) ++ l2) ++ ([⟨3, ⟨#[]⟩, ⟨#[]⟩⟩] : List InsV)) w192.heap.size 0 1 1 ([⟨4, ⟨#[]⟩, ⟨#[]⟩⟩] : List InsV) (by with_unfolding_all rfl) (Sta.t (i := 0) HS193 rfl) (by with_unfolding_all rfl) rfl (RowV.ins (l := [⟨4, ⟨#[]⟩, ⟨#[]⟩⟩]) (Sta.r (i := 0) HS193 (by with_unfolding_all rfl))) (by have hx := True.intro; have h1 := HY.out.len; have h2 := Hp1.out.1; have h3 := Hp2.out.1; simp only [List.length_append, List.length_cons, List.length_nil] at *; omega) (Sta.size HS193) ?_); intro v194 w194 hO194 hG194 hb194; obtain ⟨a194, m194, c194, hm194, rfl⟩ := InsO.formS hO194 (app_ne (by simp)); have HS194 := Sta.app 0 HS193 rfl (Nat.le_refl _) hO194 hG194 hb194; have Hm194 := hidP hm194; clear hO194 hG194 hb194 hm194)
                  | (go_at_call 19; have n195_0 : InsAt w194 (some ⟨a194, 0, none⟩) ((((l1 ++ ([⟨3, ⟨#[]⟩, ⟨#[]⟩⟩] : List InsV)) ++ l2) ++ ([⟨3, ⟨#[]⟩, ⟨#[]⟩⟩] : List InsV)) ++ ([⟨4, ⟨#[]⟩, ⟨#[]⟩⟩] : List InsV)) := (InsO.row (Sta.t (i := 0) HS194 rfl)).1.ins; have n195_1 : LabAt w194 da ls := (Sta.t (i := 5) HS194 rfl :).2; have n195_2 : ls.length = dm ∧ dm ≤ 100 := (And.intro Hp1.out.2.2.2.1 Hp1.out.2.2.2.2.1); have n195_3 : ((((l1 ++ ([⟨3, ⟨#[]⟩, ⟨#[]⟩⟩] : List InsV)) ++ l2) ++ ([⟨3, ⟨#[]⟩, ⟨#[]⟩⟩] : List InsV)) ++ ([⟨4, ⟨#[]⟩, ⟨#[]⟩⟩] : List InsV)).length = m194 ∧ m194 ≤ 100 ∧ (∀ x ∈ ((((l1 ++ ([⟨3, ⟨#[]⟩, ⟨#[]⟩⟩] : List InsV)) ++ l2) ++ ([⟨3, ⟨#[]⟩, ⟨#[]⟩⟩] : List InsV)) ++ ([⟨4, ⟨#[]⟩, ⟨#[]⟩⟩] : List InsV)), x.w) := (len_w Hm194.out (by have h1 := HY.out.len; simp; omega) (w_app (w_app (w_app (w_app Hp1.out.2.2.1 (w_one w_3)) Hp2.out.2.2.1) (w_one w_3)) (w_one w_4))); have n195_4 : evalN ((((l1 ++ ([⟨3, ⟨#[]⟩, ⟨#[]⟩⟩] : List InsV)) ++ l2) ++ ([⟨3, ⟨#[]⟩, ⟨#[]⟩⟩] : List InsV)) ++ ([⟨4, ⟨#[]⟩, ⟨#[]⟩⟩] : List InsV)) ls = false := (HY.out.v); (with_reducible refine (hC34 w194 l1 da dm de ls l2 a194 m194 c194 n195_0 n195_1 n195_2 n195_3 n195_4).mono ?_); rintro r w195 ⟨rfl, hB195⟩; have HS195 := Sta.call HS194 hB195; clear hB195))
                have HS196 : Hid (Sta [] w [(w192.heap.size, [.int .i64 4, .string ⟨#[]⟩, .string ⟨#[]⟩]), (w185.heap.size, [.int .i64 5, .string ⟨#[]⟩, .string ⟨#[]⟩]), (w119.heap.size, [.int .i64 3, .string ⟨#[]⟩, .string ⟨#[]⟩])] [⟨fun k => (Value.slice none 0 0).ownBlock = some k, fun w' => InsO w' w.heap.size (.slice none 0 0) ([])⟩, ⟨fun k => (Value.slice (some ⟨a194, 0, none⟩) m194 c194).ownBlock = some k, fun w' => InsO w' w.heap.size (.slice (some ⟨a194, 0, none⟩) m194 c194) ((((l1 ++ ([⟨3, ⟨#[]⟩, ⟨#[]⟩⟩] : List InsV)) ++ l2) ++ ([⟨3, ⟨#[]⟩, ⟨#[]⟩⟩] : List InsV)) ++ ([⟨4, ⟨#[]⟩, ⟨#[]⟩⟩] : List InsV))⟩, ⟨fun k => (Value.slice (some ⟨a187, 0, none⟩) m187 c187).ownBlock = some k, fun w' => InsO w' w.heap.size (.slice (some ⟨a187, 0, none⟩) m187 c187) ((((l1 ++ ([⟨3, ⟨#[]⟩, ⟨#[]⟩⟩] : List InsV)) ++ l2) ++ ([⟨3, ⟨#[]⟩, ⟨#[]⟩⟩] : List InsV)) ++ ([⟨5, ⟨#[]⟩, ⟨#[]⟩⟩] : List InsV))⟩, ⟨fun k => (Value.slice (some ⟨g16, 0, none⟩) m16 k16).ownBlock = some k, fun w' => InsO w' w.heap.size (.slice (some ⟨g16, 0, none⟩) m16 k16) (((l1 ++ ([⟨3, ⟨#[]⟩, ⟨#[]⟩⟩] : List InsV)) ++ l2) ++ ([⟨3, ⟨#[]⟩, ⟨#[]⟩⟩] : List InsV))⟩, ⟨fun k => (Value.slice (some ⟨a126, 0, none⟩) m126 c126).ownBlock = some k, fun w' => InsO w' w.heap.size (.slice (some ⟨a126, 0, none⟩) m126 c126) (l1 ++ l2)⟩, ⟨fun k => w1.heap.size ≤ k ∧ k < w2.heap.size, fun w2 => InsAt w2 (some ⟨q9, r9, none⟩) l2 ∧ LabAt w2 ea es⟩, ⟨fun k => w.heap.size ≤ k ∧ k < w1.heap.size, fun w2 => InsAt w2 (some ⟨p9, o9, none⟩) l1 ∧ LabAt w2 da ls⟩, ⟨fun k => k < w.heap.size, fun w' => Bytes w' a1 n1 ∧ Bytes w' a2 n2⟩] w195) := Sta.own0 w.heap.size 41 3 HS195
                try simp only [Act.put, List.setIfInBounds_toArray, List.set_cons_zero, List.set_cons_succ]
                go_cut [18] (fun v0 wx => v0 = .bool false ∧ Hid (Sta [] w [(w192.heap.size, [.int .i64 4, .string ⟨#[]⟩, .string ⟨#[]⟩]), (w185.heap.size, [.int .i64 5, .string ⟨#[]⟩, .string ⟨#[]⟩]), (w119.heap.size, [.int .i64 3, .string ⟨#[]⟩, .string ⟨#[]⟩])] [⟨fun k => (Value.slice (some ⟨a194, 0, none⟩) m194 c194).ownBlock = some k, fun w' => InsO w' w.heap.size (.slice (some ⟨a194, 0, none⟩) m194 c194) ((((l1 ++ ([⟨3, ⟨#[]⟩, ⟨#[]⟩⟩] : List InsV)) ++ l2) ++ ([⟨3, ⟨#[]⟩, ⟨#[]⟩⟩] : List InsV)) ++ ([⟨4, ⟨#[]⟩, ⟨#[]⟩⟩] : List InsV))⟩, ⟨fun k => (Value.slice (some ⟨a187, 0, none⟩) m187 c187).ownBlock = some k, fun w' => InsO w' w.heap.size (.slice (some ⟨a187, 0, none⟩) m187 c187) ((((l1 ++ ([⟨3, ⟨#[]⟩, ⟨#[]⟩⟩] : List InsV)) ++ l2) ++ ([⟨3, ⟨#[]⟩, ⟨#[]⟩⟩] : List InsV)) ++ ([⟨5, ⟨#[]⟩, ⟨#[]⟩⟩] : List InsV))⟩, ⟨fun k => (Value.slice (some ⟨g16, 0, none⟩) m16 k16).ownBlock = some k, fun w' => InsO w' w.heap.size (.slice (some ⟨g16, 0, none⟩) m16 k16) (((l1 ++ ([⟨3, ⟨#[]⟩, ⟨#[]⟩⟩] : List InsV)) ++ l2) ++ ([⟨3, ⟨#[]⟩, ⟨#[]⟩⟩] : List InsV))⟩, ⟨fun k => (Value.slice (some ⟨a126, 0, none⟩) m126 c126).ownBlock = some k, fun w' => InsO w' w.heap.size (.slice (some ⟨a126, 0, none⟩) m126 c126) (l1 ++ l2)⟩, ⟨fun k => w1.heap.size ≤ k ∧ k < w2.heap.size, fun w2 => InsAt w2 (some ⟨q9, r9, none⟩) l2 ∧ LabAt w2 ea es⟩, ⟨fun k => w.heap.size ≤ k ∧ k < w1.heap.size, fun w2 => InsAt w2 (some ⟨p9, o9, none⟩) l1 ∧ LabAt w2 da ls⟩, ⟨fun k => k < w.heap.size, fun w' => Bytes w' a1 n1 ∧ Bytes w' a2 n2⟩] wx))
                case first =>
                  go_wp2_with fail
                  have HS197 := Sta.drew HS196
                  refine wp_region_held_drew (S := fun w' => w'.cell? ⟨w119.heap.size, 0, none⟩ = some (.int .i64 3) ∧ w'.cell? ⟨w119.heap.size, 1, none⟩ = some (.string ⟨#[]⟩) ∧ w'.cell? ⟨w119.heap.size, 2, none⟩ = some (.string ⟨#[]⟩)) (by kernel_rfl) ⟨Sta.c (i := 2) HS197 rfl rfl, Sta.c (i := 2) HS197 rfl rfl, Sta.c (i := 2) HS197 rfl rfl⟩ (fun hHeld => ?_)
                  generalize w195.drew = w197 at *
                  refine wpAnyH_take (i := 1) (oi := ⟨_, _, _, _, _, _⟩) (v := .slice (some ⟨p9, o9, none⟩) pn pc) rfl (by kernel_rfl) (by kernel_rfl) (by kernel_rfl) (fun _ _ _ h => h) (Or.inl ⟨wanted_free rfl, fun w' hSw => ?_⟩) hHeld ?_
                  · go_simp
                  try simp only [Act.put, List.setIfInBounds_toArray, List.set_cons_zero, List.set_cons_succ]
                  refine wpAnyH_take (i := 3) (oi := ⟨_, _, _, _, _, _⟩) (v := .agg #[.int .i64 3, .string ⟨#[]⟩, .string ⟨#[]⟩]) rfl (by kernel_rfl) (by kernel_rfl) (by kernel_rfl) (fun _ _ _ h => h) (Or.inl ⟨wanted_free rfl, fun w' hSw => ?_⟩) hHeld ?_
                  · obtain ⟨s0, s1, s2⟩ := hSw
                    go_simp
                  try simp only [Act.put, List.setIfInBounds_toArray, List.set_cons_zero, List.set_cons_succ]
                  refine wpAnyH_take (i := 4) (oi := ⟨_, _, _, _, _, _⟩) (v := .agg #[.int .i64 3, .string ⟨#[]⟩, .string ⟨#[]⟩]) rfl (by kernel_rfl) (by kernel_rfl) (by kernel_rfl) (fun _ _ _ h => h) (Or.inl ⟨wanted_free rfl, fun w' hSw => ?_⟩) hHeld ?_
                  · obtain ⟨s0, s1, s2⟩ := hSw
                    go_simp
                  try simp only [Act.put, List.setIfInBounds_toArray, List.set_cons_zero, List.set_cons_succ]
                  refine wpAnyH_take (i := 7) (oi := ⟨_, _, _, _, _, _⟩) (v := .slice da dm de) rfl (by kernel_rfl) (by kernel_rfl) (by kernel_rfl) (fun _ _ _ h => h) (Or.inl ⟨wanted_free rfl, fun w' hSw => ?_⟩) hHeld ?_
                  · go_simp
                  try simp only [Act.put, List.setIfInBounds_toArray, List.set_cons_zero, List.set_cons_succ]
                  refine wpAnyH_ready (rs := [0, 5]) (by kernel_rfl) (by simp) (AllReadyH.cons (o := ⟨_, _, _, _, _, _⟩) rfl (fun K hK => ?_) (AllReadyH.cons (o := ⟨_, _, _, _, _, _⟩) rfl (fun K hK => ?_) AllReadyH.nil))
                  · as_aux_lemma =>
                    rewrite [if_pos (wanted_free rfl)]
                    with_reducible refine wp_buildIns0 (by with_unfolding_all rfl) w.heap.size (Sta.size HS197) ?_
                    intro w198 hO198 hG198
                    have HS198 := Sta.app 0 HS197 rfl (Nat.le_refl _) hO198 hG198 (Or.inr rfl)
                    clear hO198 hG198
                    refine hK.out _ _ ⟨Sta.c (i := 2) HS198 rfl rfl, Sta.c (i := 2) HS198 rfl rfl, Sta.c (i := 2) HS198 rfl rfl⟩ (fun hHeld => ?_)
                    clear hK K
                    try simp only [Act.put, List.setIfInBounds_toArray, List.set_cons_zero, List.set_cons_succ]
                    refine wpAnyH_ready (rs := [2, 5]) (by kernel_rfl) (by simp) (AllReadyH.cons (o := ⟨_, _, _, _, _, _⟩) rfl (fun K hK => ?_) (AllReadyH.cons (o := ⟨_, _, _, _, _, _⟩) rfl (fun K hK => ?_) AllReadyH.nil))
                    · as_aux_lemma =>
                      rewrite [if_pos (wanted_free rfl)]
                      with_reducible refine wp_appendInsM (W := w198) (.tmp 117) (.tmp 118) (by with_unfolding_all rfl) w.heap.size (.slice (some ⟨w197.heap.size, 0, none⟩) 0 0) ([]) p9 o9 pn pc l1 (by with_unfolding_all rfl) (Sta.t (i := 0) HS198 rfl) (by with_unfolding_all rfl) Hp1.out.1 (Sta.t (i := 6) HS198 rfl :).1 (by have hx := Hp1.out.1; have h1 := HY.out.len; have h2 := Hp1.out.1; have h3 := Hp2.out.1; simp only [List.length_append, List.length_cons, List.length_nil] at *; omega) (Sta.size HS198) ?_
                      intro v199 w199 hO199 hG199 hb199
                      obtain ⟨a199, m199, c199, hm199, rfl⟩ := InsO.formS hO199 (app_ne HN1.out)
                      have HS199 := Sta.app 0 HS198 rfl (Nat.le_refl _) hO199 hG199 hb199
                      have Hm199 := hidP hm199
                      clear hO199 hG199 hb199 hm199
                      refine hK.out _ _ ⟨Sta.c (i := 2) HS199 rfl rfl, Sta.c (i := 2) HS199 rfl rfl, Sta.c (i := 2) HS199 rfl rfl⟩ (fun hHeld => ?_)
                      clear hK K
                      try simp only [Act.put, List.setIfInBounds_toArray, List.set_cons_zero, List.set_cons_succ]
                      refine wpAnyH_ready (rs := [5]) (by kernel_rfl) (by simp) (AllReadyH.cons (o := ⟨_, _, _, _, _, _⟩) rfl (fun K hK => ?_) AllReadyH.nil)
                      rewrite [if_pos (wanted_free rfl)]
                      with_reducible refine wp_buildIns2 (.tmp 120) (.tmp 121) (by with_unfolding_all rfl) 3 (⟨#[]⟩) (⟨#[]⟩) 3 (⟨#[]⟩) (⟨#[]⟩) (by with_unfolding_all rfl) (by with_unfolding_all rfl) ?_
                      intro w200 hA200 hB200
                      have HS200 := Sta.new HS199 hA200 hB200 (by simp)
                      clear hA200 hB200
                      refine hK.out _ _ ⟨Sta.c (i := 3) HS200 rfl rfl, Sta.c (i := 3) HS200 rfl rfl, Sta.c (i := 3) HS200 rfl rfl⟩ (fun hHeld => ?_)
                      clear hK K
                      try simp only [Act.put, List.setIfInBounds_toArray, List.set_cons_zero, List.set_cons_succ]
                      refine wpAnyH_ready (rs := [6]) (by kernel_rfl) (by simp) (AllReadyH.cons (o := ⟨_, _, _, _, _, _⟩) rfl (fun K hK => ?_) AllReadyH.nil)
                      rewrite [if_pos (wanted_free rfl)]
                      with_reducible refine wp_appendInsM (W := w200) (.tmp 119) (.tmp 122) (by with_unfolding_all rfl) w.heap.size (.slice (some ⟨a199, 0, none⟩) m199 c199) l1 w199.heap.size 0 2 2 ([⟨3, ⟨#[]⟩, ⟨#[]⟩⟩, ⟨3, ⟨#[]⟩, ⟨#[]⟩⟩] : List InsV) (by with_unfolding_all rfl) (Sta.t (i := 0) HS200 rfl) (by with_unfolding_all rfl) rfl (RowV.ins (l := [⟨3, ⟨#[]⟩, ⟨#[]⟩⟩, ⟨3, ⟨#[]⟩, ⟨#[]⟩⟩]) (Sta.r (i := 0) HS200 (by with_unfolding_all rfl))) (by have hx := True.intro; have h1 := HY.out.len; have h2 := Hp1.out.1; have h3 := Hp2.out.1; simp only [List.length_append, List.length_cons, List.length_nil] at *; omega) (Sta.size HS200) ?_
                      intro v201 w201 hO201 hG201 hb201
                      obtain ⟨a201, m201, c201, hm201, rfl⟩ := InsO.formS hO201 (app_ne (by simp))
                      have HS201 := Sta.app 0 HS200 rfl (Nat.le_refl _) hO201 hG201 hb201
                      have Hm201 := hidP hm201
                      clear hO201 hG201 hb201 hm201
                      refine hK.out _ _ ⟨Sta.c (i := 3) HS201 rfl rfl, Sta.c (i := 3) HS201 rfl rfl, Sta.c (i := 3) HS201 rfl rfl⟩ (fun hHeld => ?_)
                      clear hK K
                      try simp only [Act.put, List.setIfInBounds_toArray, List.set_cons_zero, List.set_cons_succ]
                      refine wpAnyH_ready (rs := [8]) (by kernel_rfl) (by simp) (AllReadyH.cons (o := ⟨_, _, _, _, _, _⟩) rfl (fun K hK => ?_) AllReadyH.nil)
                      rewrite [if_pos (wanted_free rfl)]
                      go_simp
                      have n202_0 : InsAt w201 (some ⟨a201, 0, none⟩) (l1 ++ ([⟨3, ⟨#[]⟩, ⟨#[]⟩⟩, ⟨3, ⟨#[]⟩, ⟨#[]⟩⟩] : List InsV)) := (InsO.row (Sta.t (i := 0) HS201 rfl)).1.ins
                      have n202_1 : LabAt w201 da ls := (Sta.t (i := 6) HS201 rfl :).2
                      have n202_2 : ls.length = dm ∧ dm ≤ 100 := (And.intro Hp1.out.2.2.2.1 Hp1.out.2.2.2.2.1)
                      have n202_3 : (l1 ++ ([⟨3, ⟨#[]⟩, ⟨#[]⟩⟩, ⟨3, ⟨#[]⟩, ⟨#[]⟩⟩] : List InsV)).length = m201 ∧ m201 ≤ 100 ∧ (∀ x ∈ (l1 ++ ([⟨3, ⟨#[]⟩, ⟨#[]⟩⟩, ⟨3, ⟨#[]⟩, ⟨#[]⟩⟩] : List InsV)), x.w) := (len_w Hm201.out (by have h1 := HY.out.len; simp; omega) (w_app Hp1.out.2.2.1 (w_two w_3 w_3)))
                      have n202_4 : evalN (l1 ++ ([⟨3, ⟨#[]⟩, ⟨#[]⟩⟩, ⟨3, ⟨#[]⟩, ⟨#[]⟩⟩] : List InsV)) ls = false := (HY.out.w)
                      (with_reducible refine (hC35 w201 l1 da dm de ls a201 m201 c201 n202_0 n202_1 n202_2 n202_3 n202_4).mono ?_)
                      rintro r w202 ⟨rfl, hB202⟩
                      have HS202 := Sta.call HS201 hB202
                      clear hB202
                      go_wp2_with fail
                      refine hK.out _ _ ⟨Sta.c (i := 3) HS202 rfl rfl, Sta.c (i := 3) HS202 rfl rfl, Sta.c (i := 3) HS202 rfl rfl⟩ (fun hHeld => ?_)
                      clear hK K
                      try simp only [Act.put, List.setIfInBounds_toArray, List.set_cons_zero, List.set_cons_succ]
                      refine wpAnyH_take (i := 9) (oi := ⟨_, _, _, _, _, _⟩) (v := .bool false) rfl (by kernel_rfl) (by kernel_rfl) (by kernel_rfl) (fun _ _ _ h => h) (Or.inl ⟨wanted_free rfl, fun w' hSw => ?_⟩) hHeld ?_
                      · go_simp
                      try simp only [Act.put, List.setIfInBounds_toArray, List.set_cons_zero, List.set_cons_succ]
                      refine wpAnyH_done (by kernel_rfl) ?_ _
                      clear hHeld
                      go_wp2_with fail
                      go_meet
                      exact ⟨rfl, Sta.drop 1 1 HS202⟩
                    · as_aux_lemma =>
                      rewrite [if_pos (wanted_free rfl)]
                      with_reducible refine wp_buildIns2 (.tmp 120) (.tmp 121) (by with_unfolding_all rfl) 3 (⟨#[]⟩) (⟨#[]⟩) 3 (⟨#[]⟩) (⟨#[]⟩) (by with_unfolding_all rfl) (by with_unfolding_all rfl) ?_
                      intro w203 hA203 hB203
                      have HS203 := Sta.new HS198 hA203 hB203 (by simp)
                      clear hA203 hB203
                      refine hK.out _ _ ⟨Sta.c (i := 3) HS203 rfl rfl, Sta.c (i := 3) HS203 rfl rfl, Sta.c (i := 3) HS203 rfl rfl⟩ (fun hHeld => ?_)
                      clear hK K
                      try simp only [Act.put, List.setIfInBounds_toArray, List.set_cons_zero, List.set_cons_succ]
                      refine wpAnyH_ready (rs := [2]) (by kernel_rfl) (by simp) (AllReadyH.cons (o := ⟨_, _, _, _, _, _⟩) rfl (fun K hK => ?_) AllReadyH.nil)
                      rewrite [if_pos (wanted_free rfl)]
                      with_reducible refine wp_appendInsM (W := w203) (.tmp 117) (.tmp 118) (by with_unfolding_all rfl) w.heap.size (.slice (some ⟨w197.heap.size, 0, none⟩) 0 0) ([]) p9 o9 pn pc l1 (by with_unfolding_all rfl) (Sta.t (i := 0) HS203 rfl) (by with_unfolding_all rfl) Hp1.out.1 (Sta.t (i := 6) HS203 rfl :).1 (by have hx := Hp1.out.1; have h1 := HY.out.len; have h2 := Hp1.out.1; have h3 := Hp2.out.1; simp only [List.length_append, List.length_cons, List.length_nil] at *; omega) (Sta.size HS203) ?_
                      intro v204 w204 hO204 hG204 hb204
                      obtain ⟨a204, m204, c204, hm204, rfl⟩ := InsO.formS hO204 (app_ne HN1.out)
                      have HS204 := Sta.app 0 HS203 rfl (Nat.le_refl _) hO204 hG204 hb204
                      have Hm204 := hidP hm204
                      clear hO204 hG204 hb204 hm204
                      refine hK.out _ _ ⟨Sta.c (i := 3) HS204 rfl rfl, Sta.c (i := 3) HS204 rfl rfl, Sta.c (i := 3) HS204 rfl rfl⟩ (fun hHeld => ?_)
                      clear hK K
                      try simp only [Act.put, List.setIfInBounds_toArray, List.set_cons_zero, List.set_cons_succ]
                      refine wpAnyH_ready (rs := [6]) (by kernel_rfl) (by simp) (AllReadyH.cons (o := ⟨_, _, _, _, _, _⟩) rfl (fun K hK => ?_) AllReadyH.nil)
                      rewrite [if_pos (wanted_free rfl)]
                      with_reducible refine wp_appendInsM (W := w204) (.tmp 119) (.tmp 122) (by with_unfolding_all rfl) w.heap.size (.slice (some ⟨a204, 0, none⟩) m204 c204) l1 w198.heap.size 0 2 2 ([⟨3, ⟨#[]⟩, ⟨#[]⟩⟩, ⟨3, ⟨#[]⟩, ⟨#[]⟩⟩] : List InsV) (by with_unfolding_all rfl) (Sta.t (i := 0) HS204 rfl) (by with_unfolding_all rfl) rfl (RowV.ins (l := [⟨3, ⟨#[]⟩, ⟨#[]⟩⟩, ⟨3, ⟨#[]⟩, ⟨#[]⟩⟩]) (Sta.r (i := 0) HS204 (by with_unfolding_all rfl))) (by have hx := True.intro; have h1 := HY.out.len; have h2 := Hp1.out.1; have h3 := Hp2.out.1; simp only [List.length_append, List.length_cons, List.length_nil] at *; omega) (Sta.size HS204) ?_
                      intro v205 w205 hO205 hG205 hb205
                      obtain ⟨a205, m205, c205, hm205, rfl⟩ := InsO.formS hO205 (app_ne (by simp))
                      have HS205 := Sta.app 0 HS204 rfl (Nat.le_refl _) hO205 hG205 hb205
                      have Hm205 := hidP hm205
                      clear hO205 hG205 hb205 hm205
                      refine hK.out _ _ ⟨Sta.c (i := 3) HS205 rfl rfl, Sta.c (i := 3) HS205 rfl rfl, Sta.c (i := 3) HS205 rfl rfl⟩ (fun hHeld => ?_)
                      clear hK K
                      try simp only [Act.put, List.setIfInBounds_toArray, List.set_cons_zero, List.set_cons_succ]
                      refine wpAnyH_ready (rs := [8]) (by kernel_rfl) (by simp) (AllReadyH.cons (o := ⟨_, _, _, _, _, _⟩) rfl (fun K hK => ?_) AllReadyH.nil)
                      rewrite [if_pos (wanted_free rfl)]
                      go_simp
                      have n206_0 : InsAt w205 (some ⟨a205, 0, none⟩) (l1 ++ ([⟨3, ⟨#[]⟩, ⟨#[]⟩⟩, ⟨3, ⟨#[]⟩, ⟨#[]⟩⟩] : List InsV)) := (InsO.row (Sta.t (i := 0) HS205 rfl)).1.ins
                      have n206_1 : LabAt w205 da ls := (Sta.t (i := 6) HS205 rfl :).2
                      have n206_2 : ls.length = dm ∧ dm ≤ 100 := (And.intro Hp1.out.2.2.2.1 Hp1.out.2.2.2.2.1)
                      have n206_3 : (l1 ++ ([⟨3, ⟨#[]⟩, ⟨#[]⟩⟩, ⟨3, ⟨#[]⟩, ⟨#[]⟩⟩] : List InsV)).length = m205 ∧ m205 ≤ 100 ∧ (∀ x ∈ (l1 ++ ([⟨3, ⟨#[]⟩, ⟨#[]⟩⟩, ⟨3, ⟨#[]⟩, ⟨#[]⟩⟩] : List InsV)), x.w) := (len_w Hm205.out (by have h1 := HY.out.len; simp; omega) (w_app Hp1.out.2.2.1 (w_two w_3 w_3)))
                      have n206_4 : evalN (l1 ++ ([⟨3, ⟨#[]⟩, ⟨#[]⟩⟩, ⟨3, ⟨#[]⟩, ⟨#[]⟩⟩] : List InsV)) ls = false := (HY.out.w)
                      (with_reducible refine (hC36 w205 l1 da dm de ls a205 m205 c205 n206_0 n206_1 n206_2 n206_3 n206_4).mono ?_)
                      rintro r w206 ⟨rfl, hB206⟩
                      have HS206 := Sta.call HS205 hB206
                      clear hB206
                      go_wp2_with fail
                      refine hK.out _ _ ⟨Sta.c (i := 3) HS206 rfl rfl, Sta.c (i := 3) HS206 rfl rfl, Sta.c (i := 3) HS206 rfl rfl⟩ (fun hHeld => ?_)
                      clear hK K
                      try simp only [Act.put, List.setIfInBounds_toArray, List.set_cons_zero, List.set_cons_succ]
                      refine wpAnyH_take (i := 9) (oi := ⟨_, _, _, _, _, _⟩) (v := .bool false) rfl (by kernel_rfl) (by kernel_rfl) (by kernel_rfl) (fun _ _ _ h => h) (Or.inl ⟨wanted_free rfl, fun w' hSw => ?_⟩) hHeld ?_
                      · go_simp
                      try simp only [Act.put, List.setIfInBounds_toArray, List.set_cons_zero, List.set_cons_succ]
                      refine wpAnyH_done (by kernel_rfl) ?_ _
                      clear hHeld
                      go_wp2_with fail
                      go_meet
                      exact ⟨rfl, Sta.drop 1 1 HS206⟩
                  · as_aux_lemma =>
                    rewrite [if_pos (wanted_free rfl)]
                    with_reducible refine wp_buildIns2 (.tmp 120) (.tmp 121) (by with_unfolding_all rfl) 3 (⟨#[]⟩) (⟨#[]⟩) 3 (⟨#[]⟩) (⟨#[]⟩) (by with_unfolding_all rfl) (by with_unfolding_all rfl) ?_
                    intro w207 hA207 hB207
                    have HS207 := Sta.new HS197 hA207 hB207 (by simp)
                    clear hA207 hB207
                    refine hK.out _ _ ⟨Sta.c (i := 3) HS207 rfl rfl, Sta.c (i := 3) HS207 rfl rfl, Sta.c (i := 3) HS207 rfl rfl⟩ (fun hHeld => ?_)
                    clear hK K
                    try simp only [Act.put, List.setIfInBounds_toArray, List.set_cons_zero, List.set_cons_succ]
                    refine wpAnyH_ready (rs := [0]) (by kernel_rfl) (by simp) (AllReadyH.cons (o := ⟨_, _, _, _, _, _⟩) rfl (fun K hK => ?_) AllReadyH.nil)
                    rewrite [if_pos (wanted_free rfl)]
                    with_reducible refine wp_buildIns0 (by with_unfolding_all rfl) w.heap.size (Sta.size HS207) ?_
                    intro w208 hO208 hG208
                    have HS208 := Sta.app 0 HS207 rfl (Nat.le_refl _) hO208 hG208 (Or.inr rfl)
                    clear hO208 hG208
                    refine hK.out _ _ ⟨Sta.c (i := 3) HS208 rfl rfl, Sta.c (i := 3) HS208 rfl rfl, Sta.c (i := 3) HS208 rfl rfl⟩ (fun hHeld => ?_)
                    clear hK K
                    try simp only [Act.put, List.setIfInBounds_toArray, List.set_cons_zero, List.set_cons_succ]
                    refine wpAnyH_ready (rs := [2]) (by kernel_rfl) (by simp) (AllReadyH.cons (o := ⟨_, _, _, _, _, _⟩) rfl (fun K hK => ?_) AllReadyH.nil)
                    rewrite [if_pos (wanted_free rfl)]
                    with_reducible refine wp_appendInsM (W := w208) (.tmp 117) (.tmp 118) (by with_unfolding_all rfl) w.heap.size (.slice (some ⟨w207.heap.size, 0, none⟩) 0 0) ([]) p9 o9 pn pc l1 (by with_unfolding_all rfl) (Sta.t (i := 0) HS208 rfl) (by with_unfolding_all rfl) Hp1.out.1 (Sta.t (i := 6) HS208 rfl :).1 (by have hx := Hp1.out.1; have h1 := HY.out.len; have h2 := Hp1.out.1; have h3 := Hp2.out.1; simp only [List.length_append, List.length_cons, List.length_nil] at *; omega) (Sta.size HS208) ?_
                    intro v209 w209 hO209 hG209 hb209
                    obtain ⟨a209, m209, c209, hm209, rfl⟩ := InsO.formS hO209 (app_ne HN1.out)
                    have HS209 := Sta.app 0 HS208 rfl (Nat.le_refl _) hO209 hG209 hb209
                    have Hm209 := hidP hm209
                    clear hO209 hG209 hb209 hm209
                    refine hK.out _ _ ⟨Sta.c (i := 3) HS209 rfl rfl, Sta.c (i := 3) HS209 rfl rfl, Sta.c (i := 3) HS209 rfl rfl⟩ (fun hHeld => ?_)
                    clear hK K
                    try simp only [Act.put, List.setIfInBounds_toArray, List.set_cons_zero, List.set_cons_succ]
                    refine wpAnyH_ready (rs := [6]) (by kernel_rfl) (by simp) (AllReadyH.cons (o := ⟨_, _, _, _, _, _⟩) rfl (fun K hK => ?_) AllReadyH.nil)
                    rewrite [if_pos (wanted_free rfl)]
                    with_reducible refine wp_appendInsM (W := w209) (.tmp 119) (.tmp 122) (by with_unfolding_all rfl) w.heap.size (.slice (some ⟨a209, 0, none⟩) m209 c209) l1 w197.heap.size 0 2 2 ([⟨3, ⟨#[]⟩, ⟨#[]⟩⟩, ⟨3, ⟨#[]⟩, ⟨#[]⟩⟩] : List InsV) (by with_unfolding_all rfl) (Sta.t (i := 0) HS209 rfl) (by with_unfolding_all rfl) rfl (RowV.ins (l := [⟨3, ⟨#[]⟩, ⟨#[]⟩⟩, ⟨3, ⟨#[]⟩, ⟨#[]⟩⟩]) (Sta.r (i := 0) HS209 (by with_unfolding_all rfl))) (by have hx := True.intro; have h1 := HY.out.len; have h2 := Hp1.out.1; have h3 := Hp2.out.1; simp only [List.length_append, List.length_cons, List.length_nil] at *; omega) (Sta.size HS209) ?_
                    intro v210 w210 hO210 hG210 hb210
                    obtain ⟨a210, m210, c210, hm210, rfl⟩ := InsO.formS hO210 (app_ne (by simp))
                    have HS210 := Sta.app 0 HS209 rfl (Nat.le_refl _) hO210 hG210 hb210
                    have Hm210 := hidP hm210
                    clear hO210 hG210 hb210 hm210
                    refine hK.out _ _ ⟨Sta.c (i := 3) HS210 rfl rfl, Sta.c (i := 3) HS210 rfl rfl, Sta.c (i := 3) HS210 rfl rfl⟩ (fun hHeld => ?_)
                    clear hK K
                    try simp only [Act.put, List.setIfInBounds_toArray, List.set_cons_zero, List.set_cons_succ]
                    refine wpAnyH_ready (rs := [8]) (by kernel_rfl) (by simp) (AllReadyH.cons (o := ⟨_, _, _, _, _, _⟩) rfl (fun K hK => ?_) AllReadyH.nil)
                    rewrite [if_pos (wanted_free rfl)]
                    go_simp
                    have n211_0 : InsAt w210 (some ⟨a210, 0, none⟩) (l1 ++ ([⟨3, ⟨#[]⟩, ⟨#[]⟩⟩, ⟨3, ⟨#[]⟩, ⟨#[]⟩⟩] : List InsV)) := (InsO.row (Sta.t (i := 0) HS210 rfl)).1.ins
                    have n211_1 : LabAt w210 da ls := (Sta.t (i := 6) HS210 rfl :).2
                    have n211_2 : ls.length = dm ∧ dm ≤ 100 := (And.intro Hp1.out.2.2.2.1 Hp1.out.2.2.2.2.1)
                    have n211_3 : (l1 ++ ([⟨3, ⟨#[]⟩, ⟨#[]⟩⟩, ⟨3, ⟨#[]⟩, ⟨#[]⟩⟩] : List InsV)).length = m210 ∧ m210 ≤ 100 ∧ (∀ x ∈ (l1 ++ ([⟨3, ⟨#[]⟩, ⟨#[]⟩⟩, ⟨3, ⟨#[]⟩, ⟨#[]⟩⟩] : List InsV)), x.w) := (len_w Hm210.out (by have h1 := HY.out.len; simp; omega) (w_app Hp1.out.2.2.1 (w_two w_3 w_3)))
                    have n211_4 : evalN (l1 ++ ([⟨3, ⟨#[]⟩, ⟨#[]⟩⟩, ⟨3, ⟨#[]⟩, ⟨#[]⟩⟩] : List InsV)) ls = false := (HY.out.w)
                    (with_reducible refine (hC37 w210 l1 da dm de ls a210 m210 c210 n211_0 n211_1 n211_2 n211_3 n211_4).mono ?_)
                    rintro r w211 ⟨rfl, hB211⟩
                    have HS211 := Sta.call HS210 hB211
                    clear hB211
                    go_wp2_with fail
                    refine hK.out _ _ ⟨Sta.c (i := 3) HS211 rfl rfl, Sta.c (i := 3) HS211 rfl rfl, Sta.c (i := 3) HS211 rfl rfl⟩ (fun hHeld => ?_)
                    clear hK K
                    try simp only [Act.put, List.setIfInBounds_toArray, List.set_cons_zero, List.set_cons_succ]
                    refine wpAnyH_take (i := 9) (oi := ⟨_, _, _, _, _, _⟩) (v := .bool false) rfl (by kernel_rfl) (by kernel_rfl) (by kernel_rfl) (fun _ _ _ h => h) (Or.inl ⟨wanted_free rfl, fun w' hSw => ?_⟩) hHeld ?_
                    · go_simp
                    try simp only [Act.put, List.setIfInBounds_toArray, List.set_cons_zero, List.set_cons_succ]
                    refine wpAnyH_done (by kernel_rfl) ?_ _
                    clear hHeld
                    go_wp2_with fail
                    go_meet
                    exact ⟨rfl, Sta.drop 1 1 HS211⟩
                case rest =>
                  obtain ⟨rfl, HS212⟩ := hcut
                  rename Go.World => wl212
                  go_wp2_with fail
                  go_ret
                  exact ⟨rfl, Sta.fin HS212⟩
end Go.Proofs.Ytaalegjhhpfhbaa
