/- A branch of the law FnMorgan. -/
import Derived.Test.YtaalegjhhpfhbaaDpH
import Derived.Deep.RegionHeld3
import Derived.Deep.DeepCutAuto
import Derived.Deep.CutRange
namespace Go.Proofs.Ytaalegjhhpfhbaa
open Go.RowKit
set_option linter.unusedVariables false

set_option maxRecDepth 100000 in
set_option maxHeartbeats 64000000 in
theorem morgQ2 (a1 : Option Addr) (n1 c1 : Nat) (a2 : Option Addr) (n2 c2 : Nat) (w : World) (hn1 : n1 ≤ 9223372036854775807) (hn2 : n2 ≤ 9223372036854775807) : (morgPack a1 n1 c1 a2 n2 c2 w hn1 hn2).q2 := by
  skip
  have hC11 : ∀ w0 (da : Option Addr) (dm : Nat) (de : Nat) (ls : List LabV) (qn : Nat) (qc : Nat) (l2 : List InsV) (q9 : Nat) (r9 : Nat), (InsAt w0 (some ⟨q9, r9, none⟩) l2) → (LabAt w0 da ls) → (ls.length = dm ∧ dm ≤ 100) → (l2.length = qn ∧ qn ≤ 100 ∧ (∀ x ∈ l2, x.w)) → (evalN l2 ls = false) → Calls Try.prog 19 #[.slice (some ⟨q9, r9, none⟩) qn qc, .slice da dm de] w0 fun r w' => r = .returned (.bool false) ∧ Below w0.heap.size w0 w' := fun w0 da dm de ls qn qc l2 q9 r9 n0 n1 n2 n3 n4 => by rw [← n4]; exact implPolE (some ⟨q9, r9, none⟩) qc qn l2 da de dm ls w0 n3.1 n0 (Nat.le_trans n3.2.1 (by decide)) n3.2.2 n2.1 n1 (Nat.le_trans n2.2 (by decide))
  have hC13 : ∀ w0 (pn : Nat) (pc : Nat) (l1 : List InsV) (y1 : Nd) (p9 : Nat) (o9 : Nat), (InsAt w0 (some ⟨p9, o9, none⟩) l1) → (l1.length = pn ∧ pn ≤ 100 ∧ (∀ x ∈ l1, x.w)) → (nodeN l1 = some y1) → Calls Try.prog 12 #[.slice (some ⟨p9, o9, none⟩) pn pc] w0 fun r w' => r = .returned (.bool true) ∧ Below w0.heap.size w0 w' := fun w0 pn pc l1 y1 p9 o9 n0 n1 n2 => by have hh := specPolR (some ⟨p9, o9, none⟩) pc pn l1 w0 n1.1 n0 (Nat.le_trans n1.2.1 (by decide)) n1.2.2; rw [n2] at hh; exact hh
  have hC14 : ∀ w0 (qn : Nat) (qc : Nat) (l2 : List InsV) (y2 : Nd) (q9 : Nat) (r9 : Nat), (InsAt w0 (some ⟨q9, r9, none⟩) l2) → (l2.length = qn ∧ qn ≤ 100 ∧ (∀ x ∈ l2, x.w)) → (nodeN l2 = some y2) → Calls Try.prog 12 #[.slice (some ⟨q9, r9, none⟩) qn qc] w0 fun r w' => r = .returned (.bool true) ∧ Below w0.heap.size w0 w' := fun w0 qn qc l2 y2 q9 r9 n0 n1 n2 => by have hh := specPolR (some ⟨q9, r9, none⟩) qc qn l2 w0 n1.1 n0 (Nat.le_trans n1.2.1 (by decide)) n1.2.2; rw [n2] at hh; exact hh
  have hC38 : ∀ w0 (pn : Nat) (pc : Nat) (l1 : List InsV) (da : Option Addr) (dm : Nat) (de : Nat) (ls : List LabV) (p9 : Nat) (o9 : Nat), (InsAt w0 (some ⟨p9, o9, none⟩) l1) → (LabAt w0 da ls) → (ls.length = dm ∧ dm ≤ 100) → (l1.length = pn ∧ pn ≤ 100 ∧ (∀ x ∈ l1, x.w)) → (evalN l1 ls = true) → Calls Try.prog 19 #[.slice (some ⟨p9, o9, none⟩) pn pc, .slice da dm de] w0 fun r w' => r = .returned (.bool true) ∧ Below w0.heap.size w0 w' := fun w0 pn pc l1 da dm de ls p9 o9 n0 n1 n2 n3 n4 => by rw [← n4]; exact implPolE (some ⟨p9, o9, none⟩) pc pn l1 da de dm ls w0 n3.1 n0 (Nat.le_trans n3.2.1 (by decide)) n3.2.2 n2.1 n1 (Nat.le_trans n2.2 (by decide))
  have hC39 : ∀ w0 (pn : Nat) (pc : Nat) (l1 : List InsV) (da : Option Addr) (dm : Nat) (de : Nat) (ls : List LabV) (p9 : Nat) (o9 : Nat), (InsAt w0 (some ⟨p9, o9, none⟩) l1) → (LabAt w0 da ls) → (ls.length = dm ∧ dm ≤ 100) → (l1.length = pn ∧ pn ≤ 100 ∧ (∀ x ∈ l1, x.w)) → (evalN l1 ls = true) → Calls Try.prog 17 #[.slice (some ⟨p9, o9, none⟩) pn pc, .slice da dm de] w0 fun r w' => r = .returned (.bool true) ∧ Below w0.heap.size w0 w' := fun w0 pn pc l1 da dm de ls p9 o9 n0 n1 n2 n3 n4 => by rw [← n4]; exact specPolE (some ⟨p9, o9, none⟩) pc pn l1 da de dm ls w0 n3.1 n0 (Nat.le_trans n3.2.1 (by decide)) n3.2.2 n2.1 n1 (Nat.le_trans n2.2 (by decide))
  have hC40 : ∀ w0 (l1 : List InsV) (da : Option Addr) (dm : Nat) (de : Nat) (ls : List LabV) (l2 : List InsV) (a230 : Nat) (m230 : Nat) (c230 : Nat), (InsAt w0 (some ⟨a230, 0, none⟩) ((l1 ++ l2) ++ ([⟨4, ⟨#[]⟩, ⟨#[]⟩⟩, ⟨3, ⟨#[]⟩, ⟨#[]⟩⟩] : List InsV))) → (LabAt w0 da ls) → (ls.length = dm ∧ dm ≤ 100) → (((l1 ++ l2) ++ ([⟨4, ⟨#[]⟩, ⟨#[]⟩⟩, ⟨3, ⟨#[]⟩, ⟨#[]⟩⟩] : List InsV)).length = m230 ∧ m230 ≤ 100 ∧ (∀ x ∈ ((l1 ++ l2) ++ ([⟨4, ⟨#[]⟩, ⟨#[]⟩⟩, ⟨3, ⟨#[]⟩, ⟨#[]⟩⟩] : List InsV)), x.w)) → (evalN ((l1 ++ l2) ++ ([⟨4, ⟨#[]⟩, ⟨#[]⟩⟩, ⟨3, ⟨#[]⟩, ⟨#[]⟩⟩] : List InsV)) ls = true) → Calls Try.prog 19 #[.slice (some ⟨a230, 0, none⟩) m230 c230, .slice da dm de] w0 fun r w' => r = .returned (.bool true) ∧ Below w0.heap.size w0 w' := fun w0 l1 da dm de ls l2 a230 m230 c230 n0 n1 n2 n3 n4 => by rw [← n4]; exact implPolE (some ⟨a230, 0, none⟩) c230 m230 ((l1 ++ l2) ++ ([⟨4, ⟨#[]⟩, ⟨#[]⟩⟩, ⟨3, ⟨#[]⟩, ⟨#[]⟩⟩] : List InsV)) da de dm ls w0 n3.1 n0 (Nat.le_trans n3.2.1 (by decide)) n3.2.2 n2.1 n1 (Nat.le_trans n2.2 (by decide))
  have hC41 : ∀ w0 (l1 : List InsV) (da : Option Addr) (dm : Nat) (de : Nat) (ls : List LabV) (l2 : List InsV) (a234 : Nat) (m234 : Nat) (c234 : Nat), (InsAt w0 (some ⟨a234, 0, none⟩) ((l1 ++ l2) ++ ([⟨4, ⟨#[]⟩, ⟨#[]⟩⟩, ⟨3, ⟨#[]⟩, ⟨#[]⟩⟩] : List InsV))) → (LabAt w0 da ls) → (ls.length = dm ∧ dm ≤ 100) → (((l1 ++ l2) ++ ([⟨4, ⟨#[]⟩, ⟨#[]⟩⟩, ⟨3, ⟨#[]⟩, ⟨#[]⟩⟩] : List InsV)).length = m234 ∧ m234 ≤ 100 ∧ (∀ x ∈ ((l1 ++ l2) ++ ([⟨4, ⟨#[]⟩, ⟨#[]⟩⟩, ⟨3, ⟨#[]⟩, ⟨#[]⟩⟩] : List InsV)), x.w)) → (evalN ((l1 ++ l2) ++ ([⟨4, ⟨#[]⟩, ⟨#[]⟩⟩, ⟨3, ⟨#[]⟩, ⟨#[]⟩⟩] : List InsV)) ls = true) → Calls Try.prog 19 #[.slice (some ⟨a234, 0, none⟩) m234 c234, .slice da dm de] w0 fun r w' => r = .returned (.bool true) ∧ Below w0.heap.size w0 w' := fun w0 l1 da dm de ls l2 a234 m234 c234 n0 n1 n2 n3 n4 => by rw [← n4]; exact implPolE (some ⟨a234, 0, none⟩) c234 m234 ((l1 ++ l2) ++ ([⟨4, ⟨#[]⟩, ⟨#[]⟩⟩, ⟨3, ⟨#[]⟩, ⟨#[]⟩⟩] : List InsV)) da de dm ls w0 n3.1 n0 (Nat.le_trans n3.2.1 (by decide)) n3.2.2 n2.1 n1 (Nat.le_trans n2.2 (by decide))
  have hC42 : ∀ w0 (l1 : List InsV) (da : Option Addr) (dm : Nat) (de : Nat) (ls : List LabV) (l2 : List InsV) (a239 : Nat) (m239 : Nat) (c239 : Nat), (InsAt w0 (some ⟨a239, 0, none⟩) ((l1 ++ l2) ++ ([⟨4, ⟨#[]⟩, ⟨#[]⟩⟩, ⟨3, ⟨#[]⟩, ⟨#[]⟩⟩] : List InsV))) → (LabAt w0 da ls) → (ls.length = dm ∧ dm ≤ 100) → (((l1 ++ l2) ++ ([⟨4, ⟨#[]⟩, ⟨#[]⟩⟩, ⟨3, ⟨#[]⟩, ⟨#[]⟩⟩] : List InsV)).length = m239 ∧ m239 ≤ 100 ∧ (∀ x ∈ ((l1 ++ l2) ++ ([⟨4, ⟨#[]⟩, ⟨#[]⟩⟩, ⟨3, ⟨#[]⟩, ⟨#[]⟩⟩] : List InsV)), x.w)) → (evalN ((l1 ++ l2) ++ ([⟨4, ⟨#[]⟩, ⟨#[]⟩⟩, ⟨3, ⟨#[]⟩, ⟨#[]⟩⟩] : List InsV)) ls = true) → Calls Try.prog 19 #[.slice (some ⟨a239, 0, none⟩) m239 c239, .slice da dm de] w0 fun r w' => r = .returned (.bool true) ∧ Below w0.heap.size w0 w' := fun w0 l1 da dm de ls l2 a239 m239 c239 n0 n1 n2 n3 n4 => by rw [← n4]; exact implPolE (some ⟨a239, 0, none⟩) c239 m239 ((l1 ++ l2) ++ ([⟨4, ⟨#[]⟩, ⟨#[]⟩⟩, ⟨3, ⟨#[]⟩, ⟨#[]⟩⟩] : List InsV)) da de dm ls w0 n3.1 n0 (Nat.le_trans n3.2.1 (by decide)) n3.2.2 n2.1 n1 (Nat.le_trans n2.2 (by decide))
  have hC43 : ∀ w0 (l1 : List InsV) (da : Option Addr) (dm : Nat) (de : Nat) (ls : List LabV) (l2 : List InsV) (a247 : Nat) (m247 : Nat) (c247 : Nat), (InsAt w0 (some ⟨a247, 0, none⟩) ((l1 ++ l2) ++ ([⟨5, ⟨#[]⟩, ⟨#[]⟩⟩, ⟨3, ⟨#[]⟩, ⟨#[]⟩⟩] : List InsV))) → (LabAt w0 da ls) → (ls.length = dm ∧ dm ≤ 100) → (((l1 ++ l2) ++ ([⟨5, ⟨#[]⟩, ⟨#[]⟩⟩, ⟨3, ⟨#[]⟩, ⟨#[]⟩⟩] : List InsV)).length = m247 ∧ m247 ≤ 100 ∧ (∀ x ∈ ((l1 ++ l2) ++ ([⟨5, ⟨#[]⟩, ⟨#[]⟩⟩, ⟨3, ⟨#[]⟩, ⟨#[]⟩⟩] : List InsV)), x.w)) → (evalN ((l1 ++ l2) ++ ([⟨5, ⟨#[]⟩, ⟨#[]⟩⟩, ⟨3, ⟨#[]⟩, ⟨#[]⟩⟩] : List InsV)) ls = false) → Calls Try.prog 19 #[.slice (some ⟨a247, 0, none⟩) m247 c247, .slice da dm de] w0 fun r w' => r = .returned (.bool false) ∧ Below w0.heap.size w0 w' := fun w0 l1 da dm de ls l2 a247 m247 c247 n0 n1 n2 n3 n4 => by rw [← n4]; exact implPolE (some ⟨a247, 0, none⟩) c247 m247 ((l1 ++ l2) ++ ([⟨5, ⟨#[]⟩, ⟨#[]⟩⟩, ⟨3, ⟨#[]⟩, ⟨#[]⟩⟩] : List InsV)) da de dm ls w0 n3.1 n0 (Nat.le_trans n3.2.1 (by decide)) n3.2.2 n2.1 n1 (Nat.le_trans n2.2 (by decide))
  have hC44 : ∀ w0 (l1 : List InsV) (da : Option Addr) (dm : Nat) (de : Nat) (ls : List LabV) (l2 : List InsV) (a251 : Nat) (m251 : Nat) (c251 : Nat), (InsAt w0 (some ⟨a251, 0, none⟩) ((l1 ++ l2) ++ ([⟨5, ⟨#[]⟩, ⟨#[]⟩⟩, ⟨3, ⟨#[]⟩, ⟨#[]⟩⟩] : List InsV))) → (LabAt w0 da ls) → (ls.length = dm ∧ dm ≤ 100) → (((l1 ++ l2) ++ ([⟨5, ⟨#[]⟩, ⟨#[]⟩⟩, ⟨3, ⟨#[]⟩, ⟨#[]⟩⟩] : List InsV)).length = m251 ∧ m251 ≤ 100 ∧ (∀ x ∈ ((l1 ++ l2) ++ ([⟨5, ⟨#[]⟩, ⟨#[]⟩⟩, ⟨3, ⟨#[]⟩, ⟨#[]⟩⟩] : List InsV)), x.w)) → (evalN ((l1 ++ l2) ++ ([⟨5, ⟨#[]⟩, ⟨#[]⟩⟩, ⟨3, ⟨#[]⟩, ⟨#[]⟩⟩] : List InsV)) ls = false) → Calls Try.prog 19 #[.slice (some ⟨a251, 0, none⟩) m251 c251, .slice da dm de] w0 fun r w' => r = .returned (.bool false) ∧ Below w0.heap.size w0 w' := fun w0 l1 da dm de ls l2 a251 m251 c251 n0 n1 n2 n3 n4 => by rw [← n4]; exact implPolE (some ⟨a251, 0, none⟩) c251 m251 ((l1 ++ l2) ++ ([⟨5, ⟨#[]⟩, ⟨#[]⟩⟩, ⟨3, ⟨#[]⟩, ⟨#[]⟩⟩] : List InsV)) da de dm ls w0 n3.1 n0 (Nat.le_trans n3.2.1 (by decide)) n3.2.2 n2.1 n1 (Nat.le_trans n2.2 (by decide))
  have hC45 : ∀ w0 (l1 : List InsV) (da : Option Addr) (dm : Nat) (de : Nat) (ls : List LabV) (l2 : List InsV) (a256 : Nat) (m256 : Nat) (c256 : Nat), (InsAt w0 (some ⟨a256, 0, none⟩) ((l1 ++ l2) ++ ([⟨5, ⟨#[]⟩, ⟨#[]⟩⟩, ⟨3, ⟨#[]⟩, ⟨#[]⟩⟩] : List InsV))) → (LabAt w0 da ls) → (ls.length = dm ∧ dm ≤ 100) → (((l1 ++ l2) ++ ([⟨5, ⟨#[]⟩, ⟨#[]⟩⟩, ⟨3, ⟨#[]⟩, ⟨#[]⟩⟩] : List InsV)).length = m256 ∧ m256 ≤ 100 ∧ (∀ x ∈ ((l1 ++ l2) ++ ([⟨5, ⟨#[]⟩, ⟨#[]⟩⟩, ⟨3, ⟨#[]⟩, ⟨#[]⟩⟩] : List InsV)), x.w)) → (evalN ((l1 ++ l2) ++ ([⟨5, ⟨#[]⟩, ⟨#[]⟩⟩, ⟨3, ⟨#[]⟩, ⟨#[]⟩⟩] : List InsV)) ls = false) → Calls Try.prog 19 #[.slice (some ⟨a256, 0, none⟩) m256 c256, .slice da dm de] w0 fun r w' => r = .returned (.bool false) ∧ Below w0.heap.size w0 w' := fun w0 l1 da dm de ls l2 a256 m256 c256 n0 n1 n2 n3 n4 => by rw [← n4]; exact implPolE (some ⟨a256, 0, none⟩) c256 m256 ((l1 ++ l2) ++ ([⟨5, ⟨#[]⟩, ⟨#[]⟩⟩, ⟨3, ⟨#[]⟩, ⟨#[]⟩⟩] : List InsV)) da de dm ls w0 n3.1 n0 (Nat.le_trans n3.2.1 (by decide)) n3.2.2 n2.1 n1 (Nat.le_trans n2.2 (by decide))
  have hC46 : ∀ w0 (l1 : List InsV) (da : Option Addr) (dm : Nat) (de : Nat) (ls : List LabV) (l2 : List InsV) (a285 : Nat) (m285 : Nat) (c285 : Nat), (InsAt w0 (some ⟨a285, 0, none⟩) ((((l1 ++ ([⟨3, ⟨#[]⟩, ⟨#[]⟩⟩] : List InsV)) ++ l2) ++ ([⟨3, ⟨#[]⟩, ⟨#[]⟩⟩] : List InsV)) ++ ([⟨5, ⟨#[]⟩, ⟨#[]⟩⟩] : List InsV))) → (LabAt w0 da ls) → (ls.length = dm ∧ dm ≤ 100) → (((((l1 ++ ([⟨3, ⟨#[]⟩, ⟨#[]⟩⟩] : List InsV)) ++ l2) ++ ([⟨3, ⟨#[]⟩, ⟨#[]⟩⟩] : List InsV)) ++ ([⟨5, ⟨#[]⟩, ⟨#[]⟩⟩] : List InsV)).length = m285 ∧ m285 ≤ 100 ∧ (∀ x ∈ ((((l1 ++ ([⟨3, ⟨#[]⟩, ⟨#[]⟩⟩] : List InsV)) ++ l2) ++ ([⟨3, ⟨#[]⟩, ⟨#[]⟩⟩] : List InsV)) ++ ([⟨5, ⟨#[]⟩, ⟨#[]⟩⟩] : List InsV)), x.w)) → (evalN ((((l1 ++ ([⟨3, ⟨#[]⟩, ⟨#[]⟩⟩] : List InsV)) ++ l2) ++ ([⟨3, ⟨#[]⟩, ⟨#[]⟩⟩] : List InsV)) ++ ([⟨5, ⟨#[]⟩, ⟨#[]⟩⟩] : List InsV)) ls = true) → Calls Try.prog 19 #[.slice (some ⟨a285, 0, none⟩) m285 c285, .slice da dm de] w0 fun r w' => r = .returned (.bool true) ∧ Below w0.heap.size w0 w' := fun w0 l1 da dm de ls l2 a285 m285 c285 n0 n1 n2 n3 n4 => by rw [← n4]; exact implPolE (some ⟨a285, 0, none⟩) c285 m285 ((((l1 ++ ([⟨3, ⟨#[]⟩, ⟨#[]⟩⟩] : List InsV)) ++ l2) ++ ([⟨3, ⟨#[]⟩, ⟨#[]⟩⟩] : List InsV)) ++ ([⟨5, ⟨#[]⟩, ⟨#[]⟩⟩] : List InsV)) da de dm ls w0 n3.1 n0 (Nat.le_trans n3.2.1 (by decide)) n3.2.2 n2.1 n1 (Nat.le_trans n2.2 (by decide))
  have hC47 : ∀ w0 (l1 : List InsV) (da : Option Addr) (dm : Nat) (de : Nat) (ls : List LabV) (l2 : List InsV) (a292 : Nat) (m292 : Nat) (c292 : Nat), (InsAt w0 (some ⟨a292, 0, none⟩) ((((l1 ++ ([⟨3, ⟨#[]⟩, ⟨#[]⟩⟩] : List InsV)) ++ l2) ++ ([⟨3, ⟨#[]⟩, ⟨#[]⟩⟩] : List InsV)) ++ ([⟨4, ⟨#[]⟩, ⟨#[]⟩⟩] : List InsV))) → (LabAt w0 da ls) → (ls.length = dm ∧ dm ≤ 100) → (((((l1 ++ ([⟨3, ⟨#[]⟩, ⟨#[]⟩⟩] : List InsV)) ++ l2) ++ ([⟨3, ⟨#[]⟩, ⟨#[]⟩⟩] : List InsV)) ++ ([⟨4, ⟨#[]⟩, ⟨#[]⟩⟩] : List InsV)).length = m292 ∧ m292 ≤ 100 ∧ (∀ x ∈ ((((l1 ++ ([⟨3, ⟨#[]⟩, ⟨#[]⟩⟩] : List InsV)) ++ l2) ++ ([⟨3, ⟨#[]⟩, ⟨#[]⟩⟩] : List InsV)) ++ ([⟨4, ⟨#[]⟩, ⟨#[]⟩⟩] : List InsV)), x.w)) → (evalN ((((l1 ++ ([⟨3, ⟨#[]⟩, ⟨#[]⟩⟩] : List InsV)) ++ l2) ++ ([⟨3, ⟨#[]⟩, ⟨#[]⟩⟩] : List InsV)) ++ ([⟨4, ⟨#[]⟩, ⟨#[]⟩⟩] : List InsV)) ls = false) → Calls Try.prog 19 #[.slice (some ⟨a292, 0, none⟩) m292 c292, .slice da dm de] w0 fun r w' => r = .returned (.bool false) ∧ Below w0.heap.size w0 w' := fun w0 l1 da dm de ls l2 a292 m292 c292 n0 n1 n2 n3 n4 => by rw [← n4]; exact implPolE (some ⟨a292, 0, none⟩) c292 m292 ((((l1 ++ ([⟨3, ⟨#[]⟩, ⟨#[]⟩⟩] : List InsV)) ++ l2) ++ ([⟨3, ⟨#[]⟩, ⟨#[]⟩⟩] : List InsV)) ++ ([⟨4, ⟨#[]⟩, ⟨#[]⟩⟩] : List InsV)) da de dm ls w0 n3.1 n0 (Nat.le_trans n3.2.1 (by decide)) n3.2.2 n2.1 n1 (Nat.le_trans n2.2 (by decide))
  have hC48 : ∀ w0 (l1 : List InsV) (da : Option Addr) (dm : Nat) (de : Nat) (ls : List LabV) (a299 : Nat) (m299 : Nat) (c299 : Nat), (InsAt w0 (some ⟨a299, 0, none⟩) (l1 ++ ([⟨3, ⟨#[]⟩, ⟨#[]⟩⟩, ⟨3, ⟨#[]⟩, ⟨#[]⟩⟩] : List InsV))) → (LabAt w0 da ls) → (ls.length = dm ∧ dm ≤ 100) → ((l1 ++ ([⟨3, ⟨#[]⟩, ⟨#[]⟩⟩, ⟨3, ⟨#[]⟩, ⟨#[]⟩⟩] : List InsV)).length = m299 ∧ m299 ≤ 100 ∧ (∀ x ∈ (l1 ++ ([⟨3, ⟨#[]⟩, ⟨#[]⟩⟩, ⟨3, ⟨#[]⟩, ⟨#[]⟩⟩] : List InsV)), x.w)) → (evalN (l1 ++ ([⟨3, ⟨#[]⟩, ⟨#[]⟩⟩, ⟨3, ⟨#[]⟩, ⟨#[]⟩⟩] : List InsV)) ls = true) → Calls Try.prog 19 #[.slice (some ⟨a299, 0, none⟩) m299 c299, .slice da dm de] w0 fun r w' => r = .returned (.bool true) ∧ Below w0.heap.size w0 w' := fun w0 l1 da dm de ls a299 m299 c299 n0 n1 n2 n3 n4 => by rw [← n4]; exact implPolE (some ⟨a299, 0, none⟩) c299 m299 (l1 ++ ([⟨3, ⟨#[]⟩, ⟨#[]⟩⟩, ⟨3, ⟨#[]⟩, ⟨#[]⟩⟩] : List InsV)) da de dm ls w0 n3.1 n0 (Nat.le_trans n3.2.1 (by decide)) n3.2.2 n2.1 n1 (Nat.le_trans n2.2 (by decide))
  have hC49 : ∀ w0 (l1 : List InsV) (da : Option Addr) (dm : Nat) (de : Nat) (ls : List LabV) (a303 : Nat) (m303 : Nat) (c303 : Nat), (InsAt w0 (some ⟨a303, 0, none⟩) (l1 ++ ([⟨3, ⟨#[]⟩, ⟨#[]⟩⟩, ⟨3, ⟨#[]⟩, ⟨#[]⟩⟩] : List InsV))) → (LabAt w0 da ls) → (ls.length = dm ∧ dm ≤ 100) → ((l1 ++ ([⟨3, ⟨#[]⟩, ⟨#[]⟩⟩, ⟨3, ⟨#[]⟩, ⟨#[]⟩⟩] : List InsV)).length = m303 ∧ m303 ≤ 100 ∧ (∀ x ∈ (l1 ++ ([⟨3, ⟨#[]⟩, ⟨#[]⟩⟩, ⟨3, ⟨#[]⟩, ⟨#[]⟩⟩] : List InsV)), x.w)) → (evalN (l1 ++ ([⟨3, ⟨#[]⟩, ⟨#[]⟩⟩, ⟨3, ⟨#[]⟩, ⟨#[]⟩⟩] : List InsV)) ls = true) → Calls Try.prog 19 #[.slice (some ⟨a303, 0, none⟩) m303 c303, .slice da dm de] w0 fun r w' => r = .returned (.bool true) ∧ Below w0.heap.size w0 w' := fun w0 l1 da dm de ls a303 m303 c303 n0 n1 n2 n3 n4 => by rw [← n4]; exact implPolE (some ⟨a303, 0, none⟩) c303 m303 (l1 ++ ([⟨3, ⟨#[]⟩, ⟨#[]⟩⟩, ⟨3, ⟨#[]⟩, ⟨#[]⟩⟩] : List InsV)) da de dm ls w0 n3.1 n0 (Nat.le_trans n3.2.1 (by decide)) n3.2.2 n2.1 n1 (Nat.le_trans n2.2 (by decide))
  have hC50 : ∀ w0 (l1 : List InsV) (da : Option Addr) (dm : Nat) (de : Nat) (ls : List LabV) (a308 : Nat) (m308 : Nat) (c308 : Nat), (InsAt w0 (some ⟨a308, 0, none⟩) (l1 ++ ([⟨3, ⟨#[]⟩, ⟨#[]⟩⟩, ⟨3, ⟨#[]⟩, ⟨#[]⟩⟩] : List InsV))) → (LabAt w0 da ls) → (ls.length = dm ∧ dm ≤ 100) → ((l1 ++ ([⟨3, ⟨#[]⟩, ⟨#[]⟩⟩, ⟨3, ⟨#[]⟩, ⟨#[]⟩⟩] : List InsV)).length = m308 ∧ m308 ≤ 100 ∧ (∀ x ∈ (l1 ++ ([⟨3, ⟨#[]⟩, ⟨#[]⟩⟩, ⟨3, ⟨#[]⟩, ⟨#[]⟩⟩] : List InsV)), x.w)) → (evalN (l1 ++ ([⟨3, ⟨#[]⟩, ⟨#[]⟩⟩, ⟨3, ⟨#[]⟩, ⟨#[]⟩⟩] : List InsV)) ls = true) → Calls Try.prog 19 #[.slice (some ⟨a308, 0, none⟩) m308 c308, .slice da dm de] w0 fun r w' => r = .returned (.bool true) ∧ Below w0.heap.size w0 w' := fun w0 l1 da dm de ls a308 m308 c308 n0 n1 n2 n3 n4 => by rw [← n4]; exact implPolE (some ⟨a308, 0, none⟩) c308 m308 (l1 ++ ([⟨3, ⟨#[]⟩, ⟨#[]⟩⟩, ⟨3, ⟨#[]⟩, ⟨#[]⟩⟩] : List InsV)) da de dm ls w0 n3.1 n0 (Nat.le_trans n3.2.1 (by decide)) n3.2.2 n2.1 n1 (Nat.le_trans n2.2 (by decide))
  intro HS0 g g2 d_n1 d_n2 qX n1_0 w1 pa pn pc l1 da dm de ls Hp1 HS1 n2_0 w2 qa qn qc l2 ea em ee es Hp2 HS2 kX1 aX1 kX aX y1 y2 hY
  have HY := hidP hY
  have HA := hidP hY.one
  have HB := hidP hY.two
  have HN1 : Hid (l1 ≠ []) := fun e => by have h := (node_some hY.r1).1; rw [e] at h; exact absurd h (by decide)
  have HN2 : Hid (l2 ≠ []) := fun e => by have h := (node_some hY.r2).1; rw [e] at h; exact absurd h (by decide)
  clear hY
  obtain ⟨p9, o9, rfl⟩ := ins_some (Sta.t (i := 1) HS2 rfl :).1 HN1.out
  obtain ⟨q9, r9, rfl⟩ := ins_some (Sta.t (i := 0) HS2 rfl :).1 HN2.out
  have hp1 := Hp1.out.1
  have hp11 := Hp1.out.2.1
  have hp2 := Hp2.out.1
  have hp22 := Hp2.out.2.1
  have hpl := HY.out.len
  have ew1 : IntKind.i64.wrap ((pn : Int) + (qn : Int)) = (pn : Int) + (qn : Int) := by simp [IntKind.wrap, IntKind.signed, IntKind.bits]; omega
  have ew2 : IntKind.i64.wrap ((pn : Int) + (qn : Int) + 3) = (pn : Int) + (qn : Int) + 3 := by simp [IntKind.wrap, IntKind.signed, IntKind.bits]; omega
  have dl : decide ((60 : Int) < (pn : Int) + (qn : Int) + 3) = false := decide_eq_false (by omega)
  go_upto_region 12 with (first
    | (go_at_call 19; have n213_0 : InsAt w2 (some ⟨p9, o9, none⟩) l1 := (Sta.t (i := 1) HS2 rfl :).1; have n213_1 : LabAt w2 da ls := (Sta.t (i := 1) HS2 rfl :).2; have n213_2 : ls.length = dm ∧ dm ≤ 100 := (And.intro Hp1.out.2.2.2.1 Hp1.out.2.2.2.2.1); have n213_3 : l1.length = pn ∧ pn ≤ 100 ∧ (∀ x ∈ l1, x.w) := (And.intro Hp1.out.1 (And.intro Hp1.out.2.1 Hp1.out.2.2.1)); (with_reducible refine (hC38 w2 pn pc l1 da dm de ls p9 o9 n213_0 n213_1 n213_2 n213_3 HA.out).mono ?_); rintro r w213 ⟨rfl, hB213⟩; have HS213 := Sta.call HS2 hB213; clear hB213)
    | (go_at_call 19; have n214_0 : InsAt w213 (some ⟨q9, r9, none⟩) l2 := (Sta.t (i := 0) HS213 rfl :).1; have n214_1 : LabAt w213 da ls := (Sta.t (i := 1) HS213 rfl :).2; have n214_2 : ls.length = dm ∧ dm ≤ 100 := (And.intro Hp1.out.2.2.2.1 Hp1.out.2.2.2.2.1); have n214_3 : l2.length = qn ∧ qn ≤ 100 ∧ (∀ x ∈ l2, x.w) := (And.intro Hp2.out.1 (And.intro Hp2.out.2.1 Hp2.out.2.2.1)); (with_reducible refine (hC11 w213 da dm de ls qn qc l2 q9 r9 n214_0 n214_1 n214_2 n214_3 HB.out).mono ?_); rintro r w214 ⟨rfl, hB214⟩; have HS214 := Sta.call HS213 hB214; clear hB214)
    | (go_at_call 17; have n215_0 : InsAt w214 (some ⟨p9, o9, none⟩) l1 := (Sta.t (i := 1) HS214 rfl :).1; have n215_1 : LabAt w214 da ls := (Sta.t (i := 1) HS214 rfl :).2; have n215_2 : ls.length = dm ∧ dm ≤ 100 := (And.intro Hp1.out.2.2.2.1 Hp1.out.2.2.2.2.1); have n215_3 : l1.length = pn ∧ pn ≤ 100 ∧ (∀ x ∈ l1, x.w) := (And.intro Hp1.out.1 (And.intro Hp1.out.2.1 Hp1.out.2.2.1)); (with_reducible refine (hC39 w214 pn pc l1 da dm de ls p9 o9 n215_0 n215_1 n215_2 n215_3 HA.out).mono ?_); rintro r w215 ⟨rfl, hB215⟩; have HS215 := Sta.call HS214 hB215; clear hB215)
    | (go_at_call 12; have n216_0 : InsAt w215 (some ⟨p9, o9, none⟩) l1 := (Sta.t (i := 1) HS215 rfl :).1; have n216_1 : l1.length = pn ∧ pn ≤ 100 ∧ (∀ x ∈ l1, x.w) := (And.intro Hp1.out.1 (And.intro Hp1.out.2.1 Hp1.out.2.2.1)); have n216_2 : nodeN l1 = some y1 := (HY.out.r1); (with_reducible refine (hC13 w215 pn pc l1 y1 p9 o9 n216_0 n216_1 n216_2).mono ?_); rintro r w216 ⟨rfl, hB216⟩; have HS216 := Sta.call HS215 hB216; clear hB216)
    | (go_at_call 12; have n217_0 : InsAt w216 (some ⟨q9, r9, none⟩) l2 := (Sta.t (i := 0) HS216 rfl :).1; have n217_1 : l2.length = qn ∧ qn ≤ 100 ∧ (∀ x ∈ l2, x.w) := (And.intro Hp2.out.1 (And.intro Hp2.out.2.1 Hp2.out.2.2.1)); have n217_2 : nodeN l2 = some y2 := (HY.out.r2); (with_reducible refine (hC14 w216 qn qc l2 y2 q9 r9 n217_0 n217_1 n217_2).mono ?_); rintro r w217 ⟨rfl, hB217⟩; have HS217 := Sta.call HS216 hB217; clear hB217)
    | ((with_reducible refine wpList_allocV (w := w217) (by with_unfolding_all rfl) 41 (by with_unfolding_all rfl) [.int .i64 0, .string ⟨#[]⟩, .string ⟨#[]⟩] Try.zT_implIns ?_); intro w218 hA218 hB218 hS218; clear hS218; have HS218 := Sta.new HS217 hA218 hB218 (by simp); clear hA218 hB218)
    | ((with_reducible refine wpList_storeS (w := w218) (by with_unfolding_all rfl) 41 (.tmp 11) (.tmp 65) (by with_unfolding_all rfl) w217.heap.size [.int .i64 0, .string ⟨#[]⟩, .string ⟨#[]⟩] [.int .i64 3, .string ⟨#[]⟩, .string ⟨#[]⟩] (by with_unfolding_all rfl) (by with_unfolding_all rfl) (Sta.r (i := 0) HS218 (by with_unfolding_all rfl)) 3 Try.sT_implIns (by with_unfolding_all rfl) (by with_unfolding_all rfl) (by with_unfolding_all rfl) ?_); intro w219 hA219 hO219; have HS219 := Sta.put 0 HS218 rfl hA219 (by simp) hO219; clear hA219 hO219))
  · skip
    have HS221 : Hid (Sta [] w [(w217.heap.size, [.int .i64 3, .string ⟨#[]⟩, .string ⟨#[]⟩])] [⟨fun k => (Value.slice none 0 0).ownBlock = some k, fun w' => InsO w' w.heap.size (.slice none 0 0) ([])⟩, ⟨fun k => w1.heap.size ≤ k ∧ k < w2.heap.size, fun w2 => InsAt w2 (some ⟨q9, r9, none⟩) l2 ∧ LabAt w2 ea es⟩, ⟨fun k => w.heap.size ≤ k ∧ k < w1.heap.size, fun w2 => InsAt w2 (some ⟨p9, o9, none⟩) l1 ∧ LabAt w2 da ls⟩, ⟨fun k => k < w.heap.size, fun w' => Bytes w' a1 n1 ∧ Bytes w' a2 n2⟩] w219) := Sta.own0 w.heap.size 41 3 HS219
    have hO222 := World.ownsRow_made (base := w.heap.size) (size := 3) (e := 41) w219 #[] 0 (Sta.size HS221) (by decide) (by simp)
    have hG222 := World.grownBy_alloc w219 (.cells #[] 41) (Value.slice none 0 0).ownBlock
    have HS222 := Sta.app 0 HS221 rfl (Nat.le_refl _) hO222 hG222 (Or.inr rfl)
    clear hO222 hG222
    go_wp2_with (first
      | ((with_reducible refine wpList_appendInsM (W := (w219.alloc (.cells #[] 41))) (by with_unfolding_all rfl) (.tmp 66) (.tmp 67) (by with_unfolding_all rfl) w.heap.size (.slice (some ⟨w219.heap.size, 0, none⟩) 0 0) ([]) p9 o9 pn pc l1 (by with_unfolding_all rfl) (Sta.t (i := 0) HS222 rfl) (by with_unfolding_all rfl) Hp1.out.1 (Sta.t (i := 2) HS222 rfl :).1 (by have hx := Hp1.out.1; have h1 := HY.out.len; have h2 := Hp1.out.1; have h3 := Hp2.out.1; simp only [List.length_append, List.length_cons, List.length_nil] at *; omega) (Sta.size HS222) ?_); intro v223 w223 hO223 hG223 hb223; obtain ⟨a223, m223, c223, hm223, rfl⟩ := InsO.formS hO223 (app_ne HN1.out); have HS223 := Sta.app 0 HS222 rfl (Nat.le_refl _) hO223 hG223 hb223; have Hm223 := hidP hm223; clear hO223 hG223 hb223 hm223)
      | ((with_reducible refine wpList_appendInsM (W := w223) (by with_unfolding_all rfl) (.tmp 68) (.tmp 69) (by with_unfolding_all rfl) w.heap.size (.slice (some ⟨a223, 0, none⟩) m223 c223) l1 q9 r9 qn qc l2 (by with_unfolding_all rfl) (Sta.t (i := 0) HS223 rfl) (by with_unfolding_all rfl) Hp2.out.1 (Sta.t (i := 1) HS223 rfl :).1 (by have hx := Hp2.out.1; have h1 := HY.out.len; have h2 := Hp1.out.1; have h3 := Hp2.out.1; simp only [List.length_append, List.length_cons, List.length_nil] at *; omega) (Sta.size HS223) ?_); intro v224 w224 hO224 hG224 hb224; obtain ⟨a224, m224, c224, hm224, rfl⟩ := InsO.formS hO224 (app_ne HN2.out); have HS224 := Sta.app 0 HS223 rfl (Nat.le_refl _) hO224 hG224 hb224; have Hm224 := hidP hm224; clear hO224 hG224 hb224 hm224))
    have HS225 : Hid (Sta [] w [(w217.heap.size, [.int .i64 3, .string ⟨#[]⟩, .string ⟨#[]⟩])] [⟨fun k => (Value.slice none 0 0).ownBlock = some k, fun w' => InsO w' w.heap.size (.slice none 0 0) ([])⟩, ⟨fun k => (Value.slice (some ⟨a224, 0, none⟩) m224 c224).ownBlock = some k, fun w' => InsO w' w.heap.size (.slice (some ⟨a224, 0, none⟩) m224 c224) (l1 ++ l2)⟩, ⟨fun k => w1.heap.size ≤ k ∧ k < w2.heap.size, fun w2 => InsAt w2 (some ⟨q9, r9, none⟩) l2 ∧ LabAt w2 ea es⟩, ⟨fun k => w.heap.size ≤ k ∧ k < w1.heap.size, fun w2 => InsAt w2 (some ⟨p9, o9, none⟩) l1 ∧ LabAt w2 da ls⟩, ⟨fun k => k < w.heap.size, fun w' => Bytes w' a1 n1 ∧ Bytes w' a2 n2⟩] w224) := Sta.own0 w.heap.size 41 3 HS224
    try simp only [Act.put, List.setIfInBounds_toArray, List.set_cons_zero, List.set_cons_succ]
    go_cut [13] (fun v0 wx => v0 = .bool true ∧ Hid (Sta [] w [(w217.heap.size, [.int .i64 3, .string ⟨#[]⟩, .string ⟨#[]⟩])] [⟨fun k => (Value.slice (some ⟨a224, 0, none⟩) m224 c224).ownBlock = some k, fun w' => InsO w' w.heap.size (.slice (some ⟨a224, 0, none⟩) m224 c224) (l1 ++ l2)⟩, ⟨fun k => w1.heap.size ≤ k ∧ k < w2.heap.size, fun w2 => InsAt w2 (some ⟨q9, r9, none⟩) l2 ∧ LabAt w2 ea es⟩, ⟨fun k => w.heap.size ≤ k ∧ k < w1.heap.size, fun w2 => InsAt w2 (some ⟨p9, o9, none⟩) l1 ∧ LabAt w2 da ls⟩, ⟨fun k => k < w.heap.size, fun w' => Bytes w' a1 n1 ∧ Bytes w' a2 n2⟩] wx))
    case first =>
      go_wp2_with fail
      have HS226 := Sta.drew HS225
      refine wp_region_held_drew (S := fun w' => w'.cell? ⟨w217.heap.size, 0, none⟩ = some (.int .i64 3) ∧ w'.cell? ⟨w217.heap.size, 1, none⟩ = some (.string ⟨#[]⟩) ∧ w'.cell? ⟨w217.heap.size, 2, none⟩ = some (.string ⟨#[]⟩)) (by kernel_rfl) ⟨Sta.c (i := 0) HS226 rfl rfl, Sta.c (i := 0) HS226 rfl rfl, Sta.c (i := 0) HS226 rfl rfl⟩ (fun hHeld => ?_)
      generalize w224.drew = w226 at *
      refine wpAnyH_take (i := 1) (oi := ⟨_, _, _, _, _, _⟩) (v := .slice (some ⟨a224, 0, none⟩) m224 c224) rfl (by kernel_rfl) (by kernel_rfl) (by kernel_rfl) (fun _ _ _ h => h) (Or.inl ⟨wanted_free rfl, fun w' hSw => ?_⟩) hHeld ?_
      · go_simp
      try simp only [Act.put, List.setIfInBounds_toArray, List.set_cons_zero, List.set_cons_succ]
      refine wpAnyH_take (i := 3) (oi := ⟨_, _, _, _, _, _⟩) (v := .agg #[.int .i64 4, .string ⟨#[]⟩, .string ⟨#[]⟩]) rfl (by kernel_rfl) (by kernel_rfl) (by kernel_rfl) (fun _ _ _ h => h) (Or.inl ⟨wanted_free rfl, fun w' hSw => ?_⟩) hHeld ?_
      · go_simp
      try simp only [Act.put, List.setIfInBounds_toArray, List.set_cons_zero, List.set_cons_succ]
      refine wpAnyH_take (i := 4) (oi := ⟨_, _, _, _, _, _⟩) (v := .agg #[.int .i64 3, .string ⟨#[]⟩, .string ⟨#[]⟩]) rfl (by kernel_rfl) (by kernel_rfl) (by kernel_rfl) (fun _ _ _ h => h) (Or.inl ⟨wanted_free rfl, fun w' hSw => ?_⟩) hHeld ?_
      · obtain ⟨s0, s1, s2⟩ := hSw
        go_simp
      try simp only [Act.put, List.setIfInBounds_toArray, List.set_cons_zero, List.set_cons_succ]
      refine wpAnyH_take (i := 7) (oi := ⟨_, _, _, _, _, _⟩) (v := .slice da dm de) rfl (by kernel_rfl) (by kernel_rfl) (by kernel_rfl) (fun _ _ _ h => h) (Or.inl ⟨wanted_free rfl, fun w' hSw => ?_⟩) hHeld ?_
      · go_simp
      try simp only [Act.put, List.setIfInBounds_toArray, List.set_cons_zero, List.set_cons_succ]
      refine wpAnyH_ready (rs := [0, 5]) (by kernel_rfl) (by simp) (AllReadyH.cons (o := ⟨_, _, _, _, _, _⟩) rfl (fun K hK => ?_) (AllReadyH.cons (o := ⟨_, _, _, _, _, _⟩) rfl (fun K hK => ?_) AllReadyH.nil))
      · as_aux_lemma =>
        rewrite [if_pos (wanted_free rfl)]
        with_reducible refine wp_buildIns0 (by with_unfolding_all rfl) w.heap.size (Sta.size HS226) ?_
        intro w227 hO227 hG227
        have HS227 := Sta.app 0 HS226 rfl (Nat.le_refl _) hO227 hG227 (Or.inr rfl)
        clear hO227 hG227
        refine hK.out _ _ ⟨Sta.c (i := 0) HS227 rfl rfl, Sta.c (i := 0) HS227 rfl rfl, Sta.c (i := 0) HS227 rfl rfl⟩ (fun hHeld => ?_)
        clear hK K
        try simp only [Act.put, List.setIfInBounds_toArray, List.set_cons_zero, List.set_cons_succ]
        refine wpAnyH_ready (rs := [2, 5]) (by kernel_rfl) (by simp) (AllReadyH.cons (o := ⟨_, _, _, _, _, _⟩) rfl (fun K hK => ?_) (AllReadyH.cons (o := ⟨_, _, _, _, _, _⟩) rfl (fun K hK => ?_) AllReadyH.nil))
        · as_aux_lemma =>
          rewrite [if_pos (wanted_free rfl)]
          with_reducible refine wp_appendInsM (W := w227) (.tmp 71) (.tmp 72) (by with_unfolding_all rfl) w.heap.size (.slice (some ⟨w226.heap.size, 0, none⟩) 0 0) ([]) a224 0 m224 c224 (l1 ++ l2) (by with_unfolding_all rfl) (Sta.t (i := 0) HS227 rfl) (by with_unfolding_all rfl) Hm224.out (InsO.row (Sta.t (i := 1) HS227 rfl)).1.ins (by have hx := Hm224.out; have h1 := HY.out.len; have h2 := Hp1.out.1; have h3 := Hp2.out.1; simp only [List.length_append, List.length_cons, List.length_nil] at *; omega) (Sta.size HS227) ?_
          intro v228 w228 hO228 hG228 hb228
          obtain ⟨a228, m228, c228, hm228, rfl⟩ := InsO.formS hO228 (app_ne (app_ne HN2.out))
          have HS228 := Sta.app 0 HS227 rfl (Nat.le_refl _) hO228 hG228 hb228
          have Hm228 := hidP hm228
          clear hO228 hG228 hb228 hm228
          refine hK.out _ _ ⟨Sta.c (i := 0) HS228 rfl rfl, Sta.c (i := 0) HS228 rfl rfl, Sta.c (i := 0) HS228 rfl rfl⟩ (fun hHeld => ?_)
          clear hK K
          try simp only [Act.put, List.setIfInBounds_toArray, List.set_cons_zero, List.set_cons_succ]
          refine wpAnyH_ready (rs := [5]) (by kernel_rfl) (by simp) (AllReadyH.cons (o := ⟨_, _, _, _, _, _⟩) rfl (fun K hK => ?_) AllReadyH.nil)
          rewrite [if_pos (wanted_free rfl)]
          with_reducible refine wp_buildIns2 (.tmp 74) (.tmp 75) (by with_unfolding_all rfl) 4 (⟨#[]⟩) (⟨#[]⟩) 3 (⟨#[]⟩) (⟨#[]⟩) (by with_unfolding_all rfl) (by with_unfolding_all rfl) ?_
          intro w229 hA229 hB229
          have HS229 := Sta.new HS228 hA229 hB229 (by simp)
          clear hA229 hB229
          refine hK.out _ _ ⟨Sta.c (i := 1) HS229 rfl rfl, Sta.c (i := 1) HS229 rfl rfl, Sta.c (i := 1) HS229 rfl rfl⟩ (fun hHeld => ?_)
          clear hK K
          try simp only [Act.put, List.setIfInBounds_toArray, List.set_cons_zero, List.set_cons_succ]
          refine wpAnyH_ready (rs := [6]) (by kernel_rfl) (by simp) (AllReadyH.cons (o := ⟨_, _, _, _, _, _⟩) rfl (fun K hK => ?_) AllReadyH.nil)
          rewrite [if_pos (wanted_free rfl)]
          with_reducible refine wp_appendInsM (W := w229) (.tmp 73) (.tmp 76) (by with_unfolding_all rfl) w.heap.size (.slice (some ⟨a228, 0, none⟩) m228 c228) (l1 ++ l2) w228.heap.size 0 2 2 ([⟨4, ⟨#[]⟩, ⟨#[]⟩⟩, ⟨3, ⟨#[]⟩, ⟨#[]⟩⟩] : List InsV) (by with_unfolding_all rfl) (Sta.t (i := 0) HS229 rfl) (by with_unfolding_all rfl) rfl (RowV.ins (l := [⟨4, ⟨#[]⟩, ⟨#[]⟩⟩, ⟨3, ⟨#[]⟩, ⟨#[]⟩⟩]) (Sta.r (i := 0) HS229 (by with_unfolding_all rfl))) (by have hx := True.intro; have h1 := HY.out.len; have h2 := Hp1.out.1; have h3 := Hp2.out.1; simp only [List.length_append, List.length_cons, List.length_nil] at *; omega) (Sta.size HS229) ?_
          intro v230 w230 hO230 hG230 hb230
          obtain ⟨a230, m230, c230, hm230, rfl⟩ := InsO.formS hO230 (app_ne (by simp))
          have HS230 := Sta.app 0 HS229 rfl (Nat.le_refl _) hO230 hG230 hb230
          have Hm230 := hidP hm230
          clear hO230 hG230 hb230 hm230
          refine hK.out _ _ ⟨Sta.c (i := 1) HS230 rfl rfl, Sta.c (i := 1) HS230 rfl rfl, Sta.c (i := 1) HS230 rfl rfl⟩ (fun hHeld => ?_)
          clear hK K
          try simp only [Act.put, List.setIfInBounds_toArray, List.set_cons_zero, List.set_cons_succ]
          refine wpAnyH_ready (rs := [8]) (by kernel_rfl) (by simp) (AllReadyH.cons (o := ⟨_, _, _, _, _, _⟩) rfl (fun K hK => ?_) AllReadyH.nil)
          rewrite [if_pos (wanted_free rfl)]
          go_simp
          have n231_0 : InsAt w230 (some ⟨a230, 0, none⟩) ((l1 ++ l2) ++ ([⟨4, ⟨#[]⟩, ⟨#[]⟩⟩, ⟨3, ⟨#[]⟩, ⟨#[]⟩⟩] : List InsV)) := (InsO.row (Sta.t (i := 0) HS230 rfl)).1.ins
          have n231_1 : LabAt w230 da ls := (Sta.t (i := 3) HS230 rfl :).2
          have n231_2 : ls.length = dm ∧ dm ≤ 100 := (And.intro Hp1.out.2.2.2.1 Hp1.out.2.2.2.2.1)
          have n231_3 : ((l1 ++ l2) ++ ([⟨4, ⟨#[]⟩, ⟨#[]⟩⟩, ⟨3, ⟨#[]⟩, ⟨#[]⟩⟩] : List InsV)).length = m230 ∧ m230 ≤ 100 ∧ (∀ x ∈ ((l1 ++ l2) ++ ([⟨4, ⟨#[]⟩, ⟨#[]⟩⟩, ⟨3, ⟨#[]⟩, ⟨#[]⟩⟩] : List InsV)), x.w) := (len_w Hm230.out (by have h1 := HY.out.len; simp; omega) (w_app (w_app Hp1.out.2.2.1 Hp2.out.2.2.1) (w_two w_4 w_3)))
          have n231_4 : evalN ((l1 ++ l2) ++ ([⟨4, ⟨#[]⟩, ⟨#[]⟩⟩, ⟨3, ⟨#[]⟩, ⟨#[]⟩⟩] : List InsV)) ls = true := (HY.out.x)
          (with_reducible refine (hC40 w230 l1 da dm de ls l2 a230 m230 c230 n231_0 n231_1 n231_2 n231_3 n231_4).mono ?_)
          rintro r w231 ⟨rfl, hB231⟩
          have HS231 := Sta.call HS230 hB231
          clear hB231
          go_wp2_with fail
          refine hK.out _ _ ⟨Sta.c (i := 1) HS231 rfl rfl, Sta.c (i := 1) HS231 rfl rfl, Sta.c (i := 1) HS231 rfl rfl⟩ (fun hHeld => ?_)
          clear hK K
          try simp only [Act.put, List.setIfInBounds_toArray, List.set_cons_zero, List.set_cons_succ]
          refine wpAnyH_take (i := 9) (oi := ⟨_, _, _, _, _, _⟩) (v := .bool true) rfl (by kernel_rfl) (by kernel_rfl) (by kernel_rfl) (fun _ _ _ h => h) (Or.inl ⟨wanted_free rfl, fun w' hSw => ?_⟩) hHeld ?_
          · go_simp
          try simp only [Act.put, List.setIfInBounds_toArray, List.set_cons_zero, List.set_cons_succ]
          refine wpAnyH_done (by kernel_rfl) ?_ _
          clear hHeld
          go_wp2_with fail
          go_meet
          exact ⟨rfl, Sta.drop 1 1 HS231⟩
        · as_aux_lemma =>
          rewrite [if_pos (wanted_free rfl)]
          with_reducible refine wp_buildIns2 (.tmp 74) (.tmp 75) (by with_unfolding_all rfl) 4 (⟨#[]⟩) (⟨#[]⟩) 3 (⟨#[]⟩) (⟨#[]⟩) (by with_unfolding_all rfl) (by with_unfolding_all rfl) ?_
          intro w232 hA232 hB232
          have HS232 := Sta.new HS227 hA232 hB232 (by simp)
          clear hA232 hB232
          refine hK.out _ _ ⟨Sta.c (i := 1) HS232 rfl rfl, Sta.c (i := 1) HS232 rfl rfl, Sta.c (i := 1) HS232 rfl rfl⟩ (fun hHeld => ?_)
          clear hK K
          try simp only [Act.put, List.setIfInBounds_toArray, List.set_cons_zero, List.set_cons_succ]
          refine wpAnyH_ready (rs := [2]) (by kernel_rfl) (by simp) (AllReadyH.cons (o := ⟨_, _, _, _, _, _⟩) rfl (fun K hK => ?_) AllReadyH.nil)
          rewrite [if_pos (wanted_free rfl)]
          with_reducible refine wp_appendInsM (W := w232) (.tmp 71) (.tmp 72) (by with_unfolding_all rfl) w.heap.size (.slice (some ⟨w226.heap.size, 0, none⟩) 0 0) ([]) a224 0 m224 c224 (l1 ++ l2) (by with_unfolding_all rfl) (Sta.t (i := 0) HS232 rfl) (by with_unfolding_all rfl) Hm224.out (InsO.row (Sta.t (i := 1) HS232 rfl)).1.ins (by have hx := Hm224.out; have h1 := HY.out.len; have h2 := Hp1.out.1; have h3 := Hp2.out.1; simp only [List.length_append, List.length_cons, List.length_nil] at *; omega) (Sta.size HS232) ?_
          intro v233 w233 hO233 hG233 hb233
          obtain ⟨a233, m233, c233, hm233, rfl⟩ := InsO.formS hO233 (app_ne (app_ne HN2.out))
          have HS233 := Sta.app 0 HS232 rfl (Nat.le_refl _) hO233 hG233 hb233
          have Hm233 := hidP hm233
          clear hO233 hG233 hb233 hm233
          refine hK.out _ _ ⟨Sta.c (i := 1) HS233 rfl rfl, Sta.c (i := 1) HS233 rfl rfl, Sta.c (i := 1) HS233 rfl rfl⟩ (fun hHeld => ?_)
          clear hK K
          try simp only [Act.put, List.setIfInBounds_toArray, List.set_cons_zero, List.set_cons_succ]
          refine wpAnyH_ready (rs := [6]) (by kernel_rfl) (by simp) (AllReadyH.cons (o := ⟨_, _, _, _, _, _⟩) rfl (fun K hK => ?_) AllReadyH.nil)
          rewrite [if_pos (wanted_free rfl)]
          with_reducible refine wp_appendInsM (W := w233) (.tmp 73) (.tmp 76) (by with_unfolding_all rfl) w.heap.size (.slice (some ⟨a233, 0, none⟩) m233 c233) (l1 ++ l2) w227.heap.size 0 2 2 ([⟨4, ⟨#[]⟩, ⟨#[]⟩⟩, ⟨3, ⟨#[]⟩, ⟨#[]⟩⟩] : List InsV) (by with_unfolding_all rfl) (Sta.t (i := 0) HS233 rfl) (by with_unfolding_all rfl) rfl (RowV.ins (l := [⟨4, ⟨#[]⟩, ⟨#[]⟩⟩, ⟨3, ⟨#[]⟩, ⟨#[]⟩⟩]) (Sta.r (i := 0) HS233 (by with_unfolding_all rfl))) (by have hx := True.intro; have h1 := HY.out.len; have h2 := Hp1.out.1; have h3 := Hp2.out.1; simp only [List.length_append, List.length_cons, List.length_nil] at *; omega) (Sta.size HS233) ?_
          intro v234 w234 hO234 hG234 hb234
          obtain ⟨a234, m234, c234, hm234, rfl⟩ := InsO.formS hO234 (app_ne (by simp))
          have HS234 := Sta.app 0 HS233 rfl (Nat.le_refl _) hO234 hG234 hb234
          have Hm234 := hidP hm234
          clear hO234 hG234 hb234 hm234
          refine hK.out _ _ ⟨Sta.c (i := 1) HS234 rfl rfl, Sta.c (i := 1) HS234 rfl rfl, Sta.c (i := 1) HS234 rfl rfl⟩ (fun hHeld => ?_)
          clear hK K
          try simp only [Act.put, List.setIfInBounds_toArray, List.set_cons_zero, List.set_cons_succ]
          refine wpAnyH_ready (rs := [8]) (by kernel_rfl) (by simp) (AllReadyH.cons (o := ⟨_, _, _, _, _, _⟩) rfl (fun K hK => ?_) AllReadyH.nil)
          rewrite [if_pos (wanted_free rfl)]
          go_simp
          have n235_0 : InsAt w234 (some ⟨a234, 0, none⟩) ((l1 ++ l2) ++ ([⟨4, ⟨#[]⟩, ⟨#[]⟩⟩, ⟨3, ⟨#[]⟩, ⟨#[]⟩⟩] : List InsV)) := (InsO.row (Sta.t (i := 0) HS234 rfl)).1.ins
          have n235_1 : LabAt w234 da ls := (Sta.t (i := 3) HS234 rfl :).2
          have n235_2 : ls.length = dm ∧ dm ≤ 100 := (And.intro Hp1.out.2.2.2.1 Hp1.out.2.2.2.2.1)
          have n235_3 : ((l1 ++ l2) ++ ([⟨4, ⟨#[]⟩, ⟨#[]⟩⟩, ⟨3, ⟨#[]⟩, ⟨#[]⟩⟩] : List InsV)).length = m234 ∧ m234 ≤ 100 ∧ (∀ x ∈ ((l1 ++ l2) ++ ([⟨4, ⟨#[]⟩, ⟨#[]⟩⟩, ⟨3, ⟨#[]⟩, ⟨#[]⟩⟩] : List InsV)), x.w) := (len_w Hm234.out (by have h1 := HY.out.len; simp; omega) (w_app (w_app Hp1.out.2.2.1 Hp2.out.2.2.1) (w_two w_4 w_3)))
          have n235_4 : evalN ((l1 ++ l2) ++ ([⟨4, ⟨#[]⟩, ⟨#[]⟩⟩, ⟨3, ⟨#[]⟩, ⟨#[]⟩⟩] : List InsV)) ls = true := (HY.out.x)
          (with_reducible refine (hC41 w234 l1 da dm de ls l2 a234 m234 c234 n235_0 n235_1 n235_2 n235_3 n235_4).mono ?_)
          rintro r w235 ⟨rfl, hB235⟩
          have HS235 := Sta.call HS234 hB235
          clear hB235
          go_wp2_with fail
          refine hK.out _ _ ⟨Sta.c (i := 1) HS235 rfl rfl, Sta.c (i := 1) HS235 rfl rfl, Sta.c (i := 1) HS235 rfl rfl⟩ (fun hHeld => ?_)
          clear hK K
          try simp only [Act.put, List.setIfInBounds_toArray, List.set_cons_zero, List.set_cons_succ]
          refine wpAnyH_take (i := 9) (oi := ⟨_, _, _, _, _, _⟩) (v := .bool true) rfl (by kernel_rfl) (by kernel_rfl) (by kernel_rfl) (fun _ _ _ h => h) (Or.inl ⟨wanted_free rfl, fun w' hSw => ?_⟩) hHeld ?_
          · go_simp
          try simp only [Act.put, List.setIfInBounds_toArray, List.set_cons_zero, List.set_cons_succ]
          refine wpAnyH_done (by kernel_rfl) ?_ _
          clear hHeld
          go_wp2_with fail
          go_meet
          exact ⟨rfl, Sta.drop 1 1 HS235⟩
      · as_aux_lemma =>
        rewrite [if_pos (wanted_free rfl)]
        with_reducible refine wp_buildIns2 (.tmp 74) (.tmp 75) (by with_unfolding_all rfl) 4 (⟨#[]⟩) (⟨#[]⟩) 3 (⟨#[]⟩) (⟨#[]⟩) (by with_unfolding_all rfl) (by with_unfolding_all rfl) ?_
        intro w236 hA236 hB236
        have HS236 := Sta.new HS226 hA236 hB236 (by simp)
        clear hA236 hB236
        refine hK.out _ _ ⟨Sta.c (i := 1) HS236 rfl rfl, Sta.c (i := 1) HS236 rfl rfl, Sta.c (i := 1) HS236 rfl rfl⟩ (fun hHeld => ?_)
        clear hK K
        try simp only [Act.put, List.setIfInBounds_toArray, List.set_cons_zero, List.set_cons_succ]
        refine wpAnyH_ready (rs := [0]) (by kernel_rfl) (by simp) (AllReadyH.cons (o := ⟨_, _, _, _, _, _⟩) rfl (fun K hK => ?_) AllReadyH.nil)
        rewrite [if_pos (wanted_free rfl)]
        with_reducible refine wp_buildIns0 (by with_unfolding_all rfl) w.heap.size (Sta.size HS236) ?_
        intro w237 hO237 hG237
        have HS237 := Sta.app 0 HS236 rfl (Nat.le_refl _) hO237 hG237 (Or.inr rfl)
        clear hO237 hG237
        refine hK.out _ _ ⟨Sta.c (i := 1) HS237 rfl rfl, Sta.c (i := 1) HS237 rfl rfl, Sta.c (i := 1) HS237 rfl rfl⟩ (fun hHeld => ?_)
        clear hK K
        try simp only [Act.put, List.setIfInBounds_toArray, List.set_cons_zero, List.set_cons_succ]
        refine wpAnyH_ready (rs := [2]) (by kernel_rfl) (by simp) (AllReadyH.cons (o := ⟨_, _, _, _, _, _⟩) rfl (fun K hK => ?_) AllReadyH.nil)
        rewrite [if_pos (wanted_free rfl)]
        with_reducible refine wp_appendInsM (W := w237) (.tmp 71) (.tmp 72) (by with_unfolding_all rfl) w.heap.size (.slice (some ⟨w236.heap.size, 0, none⟩) 0 0) ([]) a224 0 m224 c224 (l1 ++ l2) (by with_unfolding_all rfl) (Sta.t (i := 0) HS237 rfl) (by with_unfolding_all rfl) Hm224.out (InsO.row (Sta.t (i := 1) HS237 rfl)).1.ins (by have hx := Hm224.out; have h1 := HY.out.len; have h2 := Hp1.out.1; have h3 := Hp2.out.1; simp only [List.length_append, List.length_cons, List.length_nil] at *; omega) (Sta.size HS237) ?_
        intro v238 w238 hO238 hG238 hb238
        obtain ⟨a238, m238, c238, hm238, rfl⟩ := InsO.formS hO238 (app_ne (app_ne HN2.out))
        have HS238 := Sta.app 0 HS237 rfl (Nat.le_refl _) hO238 hG238 hb238
        have Hm238 := hidP hm238
        clear hO238 hG238 hb238 hm238
        refine hK.out _ _ ⟨Sta.c (i := 1) HS238 rfl rfl, Sta.c (i := 1) HS238 rfl rfl, Sta.c (i := 1) HS238 rfl rfl⟩ (fun hHeld => ?_)
        clear hK K
        try simp only [Act.put, List.setIfInBounds_toArray, List.set_cons_zero, List.set_cons_succ]
        refine wpAnyH_ready (rs := [6]) (by kernel_rfl) (by simp) (AllReadyH.cons (o := ⟨_, _, _, _, _, _⟩) rfl (fun K hK => ?_) AllReadyH.nil)
        rewrite [if_pos (wanted_free rfl)]
        with_reducible refine wp_appendInsM (W := w238) (.tmp 73) (.tmp 76) (by with_unfolding_all rfl) w.heap.size (.slice (some ⟨a238, 0, none⟩) m238 c238) (l1 ++ l2) w226.heap.size 0 2 2 ([⟨4, ⟨#[]⟩, ⟨#[]⟩⟩, ⟨3, ⟨#[]⟩, ⟨#[]⟩⟩] : List InsV) (by with_unfolding_all rfl) (Sta.t (i := 0) HS238 rfl) (by with_unfolding_all rfl) rfl (RowV.ins (l := [⟨4, ⟨#[]⟩, ⟨#[]⟩⟩, ⟨3, ⟨#[]⟩, ⟨#[]⟩⟩]) (Sta.r (i := 0) HS238 (by with_unfolding_all rfl))) (by have hx := True.intro; have h1 := HY.out.len; have h2 := Hp1.out.1; have h3 := Hp2.out.1; simp only [List.length_append, List.length_cons, List.length_nil] at *; omega) (Sta.size HS238) ?_
        intro v239 w239 hO239 hG239 hb239
        obtain ⟨a239, m239, c239, hm239, rfl⟩ := InsO.formS hO239 (app_ne (by simp))
        have HS239 := Sta.app 0 HS238 rfl (Nat.le_refl _) hO239 hG239 hb239
        have Hm239 := hidP hm239
        clear hO239 hG239 hb239 hm239
        refine hK.out _ _ ⟨Sta.c (i := 1) HS239 rfl rfl, Sta.c (i := 1) HS239 rfl rfl, Sta.c (i := 1) HS239 rfl rfl⟩ (fun hHeld => ?_)
        clear hK K
        try simp only [Act.put, List.setIfInBounds_toArray, List.set_cons_zero, List.set_cons_succ]
        refine wpAnyH_ready (rs := [8]) (by kernel_rfl) (by simp) (AllReadyH.cons (o := ⟨_, _, _, _, _, _⟩) rfl (fun K hK => ?_) AllReadyH.nil)
        rewrite [if_pos (wanted_free rfl)]
        go_simp
        have n240_0 : InsAt w239 (some ⟨a239, 0, none⟩) ((l1 ++ l2) ++ ([⟨4, ⟨#[]⟩, ⟨#[]⟩⟩, ⟨3, ⟨#[]⟩, ⟨#[]⟩⟩] : List InsV)) := (InsO.row (Sta.t (i := 0) HS239 rfl)).1.ins
        have n240_1 : LabAt w239 da ls := (Sta.t (i := 3) HS239 rfl :).2
        have n240_2 : ls.length = dm ∧ dm ≤ 100 := (And.intro Hp1.out.2.2.2.1 Hp1.out.2.2.2.2.1)
        have n240_3 : ((l1 ++ l2) ++ ([⟨4, ⟨#[]⟩, ⟨#[]⟩⟩, ⟨3, ⟨#[]⟩, ⟨#[]⟩⟩] : List InsV)).length = m239 ∧ m239 ≤ 100 ∧ (∀ x ∈ ((l1 ++ l2) ++ ([⟨4, ⟨#[]⟩, ⟨#[]⟩⟩, ⟨3, ⟨#[]⟩, ⟨#[]⟩⟩] : List InsV)), x.w) := (len_w Hm239.out (by have h1 := HY.out.len; simp; omega) (w_app (w_app Hp1.out.2.2.1 Hp2.out.2.2.1) (w_two w_4 w_3)))
        have n240_4 : evalN ((l1 ++ l2) ++ ([⟨4, ⟨#[]⟩, ⟨#[]⟩⟩, ⟨3, ⟨#[]⟩, ⟨#[]⟩⟩] : List InsV)) ls = true := (HY.out.x)
        (with_reducible refine (hC42 w239 l1 da dm de ls l2 a239 m239 c239 n240_0 n240_1 n240_2 n240_3 n240_4).mono ?_)
        rintro r w240 ⟨rfl, hB240⟩
        have HS240 := Sta.call HS239 hB240
        clear hB240
        go_wp2_with fail
        refine hK.out _ _ ⟨Sta.c (i := 1) HS240 rfl rfl, Sta.c (i := 1) HS240 rfl rfl, Sta.c (i := 1) HS240 rfl rfl⟩ (fun hHeld => ?_)
        clear hK K
        try simp only [Act.put, List.setIfInBounds_toArray, List.set_cons_zero, List.set_cons_succ]
        refine wpAnyH_take (i := 9) (oi := ⟨_, _, _, _, _, _⟩) (v := .bool true) rfl (by kernel_rfl) (by kernel_rfl) (by kernel_rfl) (fun _ _ _ h => h) (Or.inl ⟨wanted_free rfl, fun w' hSw => ?_⟩) hHeld ?_
        · go_simp
        try simp only [Act.put, List.setIfInBounds_toArray, List.set_cons_zero, List.set_cons_succ]
        refine wpAnyH_done (by kernel_rfl) ?_ _
        clear hHeld
        go_wp2_with fail
        go_meet
        exact ⟨rfl, Sta.drop 1 1 HS240⟩
    case rest =>
      obtain ⟨rfl, HS241⟩ := hcut
      rename Go.World => wl241
      go_wp2_with fail
      have HS242 : Hid (Sta [] w [(w217.heap.size, [.int .i64 3, .string ⟨#[]⟩, .string ⟨#[]⟩])] [⟨fun k => (Value.slice none 0 0).ownBlock = some k, fun w' => InsO w' w.heap.size (.slice none 0 0) ([])⟩, ⟨fun k => (Value.slice (some ⟨a224, 0, none⟩) m224 c224).ownBlock = some k, fun w' => InsO w' w.heap.size (.slice (some ⟨a224, 0, none⟩) m224 c224) (l1 ++ l2)⟩, ⟨fun k => w1.heap.size ≤ k ∧ k < w2.heap.size, fun w2 => InsAt w2 (some ⟨q9, r9, none⟩) l2 ∧ LabAt w2 ea es⟩, ⟨fun k => w.heap.size ≤ k ∧ k < w1.heap.size, fun w2 => InsAt w2 (some ⟨p9, o9, none⟩) l1 ∧ LabAt w2 da ls⟩, ⟨fun k => k < w.heap.size, fun w' => Bytes w' a1 n1 ∧ Bytes w' a2 n2⟩] wl241) := Sta.own0 w.heap.size 41 3 HS241
      try simp only [Act.put, List.setIfInBounds_toArray, List.set_cons_zero, List.set_cons_succ]
      go_cut [14] (fun v0 wx => v0 = .bool false ∧ Hid (Sta [] w [(w217.heap.size, [.int .i64 3, .string ⟨#[]⟩, .string ⟨#[]⟩])] [⟨fun k => (Value.slice (some ⟨a224, 0, none⟩) m224 c224).ownBlock = some k, fun w' => InsO w' w.heap.size (.slice (some ⟨a224, 0, none⟩) m224 c224) (l1 ++ l2)⟩, ⟨fun k => w1.heap.size ≤ k ∧ k < w2.heap.size, fun w2 => InsAt w2 (some ⟨q9, r9, none⟩) l2 ∧ LabAt w2 ea es⟩, ⟨fun k => w.heap.size ≤ k ∧ k < w1.heap.size, fun w2 => InsAt w2 (some ⟨p9, o9, none⟩) l1 ∧ LabAt w2 da ls⟩, ⟨fun k => k < w.heap.size, fun w' => Bytes w' a1 n1 ∧ Bytes w' a2 n2⟩] wx))
      case first =>
        go_wp2_with fail
        have HS243 := Sta.drew HS242
        refine wp_region_held_drew (S := fun w' => w'.cell? ⟨w217.heap.size, 0, none⟩ = some (.int .i64 3) ∧ w'.cell? ⟨w217.heap.size, 1, none⟩ = some (.string ⟨#[]⟩) ∧ w'.cell? ⟨w217.heap.size, 2, none⟩ = some (.string ⟨#[]⟩)) (by kernel_rfl) ⟨Sta.c (i := 0) HS243 rfl rfl, Sta.c (i := 0) HS243 rfl rfl, Sta.c (i := 0) HS243 rfl rfl⟩ (fun hHeld => ?_)
        generalize wl241.drew = w243 at *
        refine wpAnyH_take (i := 1) (oi := ⟨_, _, _, _, _, _⟩) (v := .slice (some ⟨a224, 0, none⟩) m224 c224) rfl (by kernel_rfl) (by kernel_rfl) (by kernel_rfl) (fun _ _ _ h => h) (Or.inl ⟨wanted_free rfl, fun w' hSw => ?_⟩) hHeld ?_
        · go_simp
        try simp only [Act.put, List.setIfInBounds_toArray, List.set_cons_zero, List.set_cons_succ]
        refine wpAnyH_take (i := 3) (oi := ⟨_, _, _, _, _, _⟩) (v := .agg #[.int .i64 5, .string ⟨#[]⟩, .string ⟨#[]⟩]) rfl (by kernel_rfl) (by kernel_rfl) (by kernel_rfl) (fun _ _ _ h => h) (Or.inl ⟨wanted_free rfl, fun w' hSw => ?_⟩) hHeld ?_
        · go_simp
        try simp only [Act.put, List.setIfInBounds_toArray, List.set_cons_zero, List.set_cons_succ]
        refine wpAnyH_take (i := 4) (oi := ⟨_, _, _, _, _, _⟩) (v := .agg #[.int .i64 3, .string ⟨#[]⟩, .string ⟨#[]⟩]) rfl (by kernel_rfl) (by kernel_rfl) (by kernel_rfl) (fun _ _ _ h => h) (Or.inl ⟨wanted_free rfl, fun w' hSw => ?_⟩) hHeld ?_
        · obtain ⟨s0, s1, s2⟩ := hSw
          go_simp
        try simp only [Act.put, List.setIfInBounds_toArray, List.set_cons_zero, List.set_cons_succ]
        refine wpAnyH_take (i := 7) (oi := ⟨_, _, _, _, _, _⟩) (v := .slice da dm de) rfl (by kernel_rfl) (by kernel_rfl) (by kernel_rfl) (fun _ _ _ h => h) (Or.inl ⟨wanted_free rfl, fun w' hSw => ?_⟩) hHeld ?_
        · go_simp
        try simp only [Act.put, List.setIfInBounds_toArray, List.set_cons_zero, List.set_cons_succ]
        refine wpAnyH_ready (rs := [0, 5]) (by kernel_rfl) (by simp) (AllReadyH.cons (o := ⟨_, _, _, _, _, _⟩) rfl (fun K hK => ?_) (AllReadyH.cons (o := ⟨_, _, _, _, _, _⟩) rfl (fun K hK => ?_) AllReadyH.nil))
        · as_aux_lemma =>
          rewrite [if_pos (wanted_free rfl)]
          with_reducible refine wp_buildIns0 (by with_unfolding_all rfl) w.heap.size (Sta.size HS243) ?_
          intro w244 hO244 hG244
          have HS244 := Sta.app 0 HS243 rfl (Nat.le_refl _) hO244 hG244 (Or.inr rfl)
          clear hO244 hG244
          refine hK.out _ _ ⟨Sta.c (i := 0) HS244 rfl rfl, Sta.c (i := 0) HS244 rfl rfl, Sta.c (i := 0) HS244 rfl rfl⟩ (fun hHeld => ?_)
          clear hK K
          try simp only [Act.put, List.setIfInBounds_toArray, List.set_cons_zero, List.set_cons_succ]
          refine wpAnyH_ready (rs := [2, 5]) (by kernel_rfl) (by simp) (AllReadyH.cons (o := ⟨_, _, _, _, _, _⟩) rfl (fun K hK => ?_) (AllReadyH.cons (o := ⟨_, _, _, _, _, _⟩) rfl (fun K hK => ?_) AllReadyH.nil))
          · as_aux_lemma =>
            rewrite [if_pos (wanted_free rfl)]
            with_reducible refine wp_appendInsM (W := w244) (.tmp 80) (.tmp 81) (by with_unfolding_all rfl) w.heap.size (.slice (some ⟨w243.heap.size, 0, none⟩) 0 0) ([]) a224 0 m224 c224 (l1 ++ l2) (by with_unfolding_all rfl) (Sta.t (i := 0) HS244 rfl) (by with_unfolding_all rfl) Hm224.out (InsO.row (Sta.t (i := 1) HS244 rfl)).1.ins (by have hx := Hm224.out; have h1 := HY.out.len; have h2 := Hp1.out.1; have h3 := Hp2.out.1; simp only [List.length_append, List.length_cons, List.length_nil] at *; omega) (Sta.size HS244) ?_
            intro v245 w245 hO245 hG245 hb245
            obtain ⟨a245, m245, c245, hm245, rfl⟩ := InsO.formS hO245 (app_ne (app_ne HN2.out))
            have HS245 := Sta.app 0 HS244 rfl (Nat.le_refl _) hO245 hG245 hb245
            have Hm245 := hidP hm245
            clear hO245 hG245 hb245 hm245
            refine hK.out _ _ ⟨Sta.c (i := 0) HS245 rfl rfl, Sta.c (i := 0) HS245 rfl rfl, Sta.c (i := 0) HS245 rfl rfl⟩ (fun hHeld => ?_)
            clear hK K
            try simp only [Act.put, List.setIfInBounds_toArray, List.set_cons_zero, List.set_cons_succ]
            refine wpAnyH_ready (rs := [5]) (by kernel_rfl) (by simp) (AllReadyH.cons (o := ⟨_, _, _, _, _, _⟩) rfl (fun K hK => ?_) AllReadyH.nil)
            rewrite [if_pos (wanted_free rfl)]
            with_reducible refine wp_buildIns2 (.tmp 83) (.tmp 84) (by with_unfolding_all rfl) 5 (⟨#[]⟩) (⟨#[]⟩) 3 (⟨#[]⟩) (⟨#[]⟩) (by with_unfolding_all rfl) (by with_unfolding_all rfl) ?_
            intro w246 hA246 hB246
            have HS246 := Sta.new HS245 hA246 hB246 (by simp)
            clear hA246 hB246
            refine hK.out _ _ ⟨Sta.c (i := 1) HS246 rfl rfl, Sta.c (i := 1) HS246 rfl rfl, Sta.c (i := 1) HS246 rfl rfl⟩ (fun hHeld => ?_)
            clear hK K
            try simp only [Act.put, List.setIfInBounds_toArray, List.set_cons_zero, List.set_cons_succ]
            refine wpAnyH_ready (rs := [6]) (by kernel_rfl) (by simp) (AllReadyH.cons (o := ⟨_, _, _, _, _, _⟩) rfl (fun K hK => ?_) AllReadyH.nil)
            rewrite [if_pos (wanted_free rfl)]
            with_reducible refine wp_appendInsM (W := w246) (.tmp 82) (.tmp 85) (by with_unfolding_all rfl) w.heap.size (.slice (some ⟨a245, 0, none⟩) m245 c245) (l1 ++ l2) w245.heap.size 0 2 2 ([⟨5, ⟨#[]⟩, ⟨#[]⟩⟩, ⟨3, ⟨#[]⟩, ⟨#[]⟩⟩] : List InsV) (by with_unfolding_all rfl) (Sta.t (i := 0) HS246 rfl) (by with_unfolding_all rfl) rfl (RowV.ins (l := [⟨5, ⟨#[]⟩, ⟨#[]⟩⟩, ⟨3, ⟨#[]⟩, ⟨#[]⟩⟩]) (Sta.r (i := 0) HS246 (by with_unfolding_all rfl))) (by have hx := True.intro; have h1 := HY.out.len; have h2 := Hp1.out.1; have h3 := Hp2.out.1; simp only [List.length_append, List.length_cons, List.length_nil] at *; omega) (Sta.size HS246) ?_
            intro v247 w247 hO247 hG247 hb247
            obtain ⟨a247, m247, c247, hm247, rfl⟩ := InsO.formS hO247 (app_ne (by simp))
            have HS247 := Sta.app 0 HS246 rfl (Nat.le_refl _) hO247 hG247 hb247
            have Hm247 := hidP hm247
            clear hO247 hG247 hb247 hm247
            refine hK.out _ _ ⟨Sta.c (i := 1) HS247 rfl rfl, Sta.c (i := 1) HS247 rfl rfl, Sta.c (i := 1) HS247 rfl rfl⟩ (fun hHeld => ?_)
            clear hK K
            try simp only [Act.put, List.setIfInBounds_toArray, List.set_cons_zero, List.set_cons_succ]
            refine wpAnyH_ready (rs := [8]) (by kernel_rfl) (by simp) (AllReadyH.cons (o := ⟨_, _, _, _, _, _⟩) rfl (fun K hK => ?_) AllReadyH.nil)
            rewrite [if_pos (wanted_free rfl)]
            go_simp
            have n248_0 : InsAt w247 (some ⟨a247, 0, none⟩) ((l1 ++ l2) ++ ([⟨5, ⟨#[]⟩, ⟨#[]⟩⟩, ⟨3, ⟨#[]⟩, ⟨#[]⟩⟩] : List InsV)) := (InsO.row (Sta.t (i := 0) HS247 rfl)).1.ins
            have n248_1 : LabAt w247 da ls := (Sta.t (i := 3) HS247 rfl :).2
            have n248_2 : ls.length = dm ∧ dm ≤ 100 := (And.intro Hp1.out.2.2.2.1 Hp1.out.2.2.2.2.1)
            have n248_3 : ((l1 ++ l2) ++ ([⟨5, ⟨#[]⟩, ⟨#[]⟩⟩, ⟨3, ⟨#[]⟩, ⟨#[]⟩⟩] : List InsV)).length = m247 ∧ m247 ≤ 100 ∧ (∀ x ∈ ((l1 ++ l2) ++ ([⟨5, ⟨#[]⟩, ⟨#[]⟩⟩, ⟨3, ⟨#[]⟩, ⟨#[]⟩⟩] : List InsV)), x.w) := (len_w Hm247.out (by have h1 := HY.out.len; simp; omega) (w_app (w_app Hp1.out.2.2.1 Hp2.out.2.2.1) (w_two w_5 w_3)))
            have n248_4 : evalN ((l1 ++ l2) ++ ([⟨5, ⟨#[]⟩, ⟨#[]⟩⟩, ⟨3, ⟨#[]⟩, ⟨#[]⟩⟩] : List InsV)) ls = false := (HY.out.y)
            (with_reducible refine (hC43 w247 l1 da dm de ls l2 a247 m247 c247 n248_0 n248_1 n248_2 n248_3 n248_4).mono ?_)
            rintro r w248 ⟨rfl, hB248⟩
            have HS248 := Sta.call HS247 hB248
            clear hB248
            go_wp2_with fail
            refine hK.out _ _ ⟨Sta.c (i := 1) HS248 rfl rfl, Sta.c (i := 1) HS248 rfl rfl, Sta.c (i := 1) HS248 rfl rfl⟩ (fun hHeld => ?_)
            clear hK K
            try simp only [Act.put, List.setIfInBounds_toArray, List.set_cons_zero, List.set_cons_succ]
            refine wpAnyH_take (i := 9) (oi := ⟨_, _, _, _, _, _⟩) (v := .bool false) rfl (by kernel_rfl) (by kernel_rfl) (by kernel_rfl) (fun _ _ _ h => h) (Or.inl ⟨wanted_free rfl, fun w' hSw => ?_⟩) hHeld ?_
            · go_simp
            try simp only [Act.put, List.setIfInBounds_toArray, List.set_cons_zero, List.set_cons_succ]
            refine wpAnyH_done (by kernel_rfl) ?_ _
            clear hHeld
            go_wp2_with fail
            go_meet
            exact ⟨rfl, Sta.drop 1 1 HS248⟩
          · as_aux_lemma =>
            rewrite [if_pos (wanted_free rfl)]
            with_reducible refine wp_buildIns2 (.tmp 83) (.tmp 84) (by with_unfolding_all rfl) 5 (⟨#[]⟩) (⟨#[]⟩) 3 (⟨#[]⟩) (⟨#[]⟩) (by with_unfolding_all rfl) (by with_unfolding_all rfl) ?_
            intro w249 hA249 hB249
            have HS249 := Sta.new HS244 hA249 hB249 (by simp)
            clear hA249 hB249
            refine hK.out _ _ ⟨Sta.c (i := 1) HS249 rfl rfl, Sta.c (i := 1) HS249 rfl rfl, Sta.c (i := 1) HS249 rfl rfl⟩ (fun hHeld => ?_)
            clear hK K
            try simp only [Act.put, List.setIfInBounds_toArray, List.set_cons_zero, List.set_cons_succ]
            refine wpAnyH_ready (rs := [2]) (by kernel_rfl) (by simp) (AllReadyH.cons (o := ⟨_, _, _, _, _, _⟩) rfl (fun K hK => ?_) AllReadyH.nil)
            rewrite [if_pos (wanted_free rfl)]
            with_reducible refine wp_appendInsM (W := w249) (.tmp 80) (.tmp 81) (by with_unfolding_all rfl) w.heap.size (.slice (some ⟨w243.heap.size, 0, none⟩) 0 0) ([]) a224 0 m224 c224 (l1 ++ l2) (by with_unfolding_all rfl) (Sta.t (i := 0) HS249 rfl) (by with_unfolding_all rfl) Hm224.out (InsO.row (Sta.t (i := 1) HS249 rfl)).1.ins (by have hx := Hm224.out; have h1 := HY.out.len; have h2 := Hp1.out.1; have h3 := Hp2.out.1; simp only [List.length_append, List.length_cons, List.length_nil] at *; omega) (Sta.size HS249) ?_
            intro v250 w250 hO250 hG250 hb250
            obtain ⟨a250, m250, c250, hm250, rfl⟩ := InsO.formS hO250 (app_ne (app_ne HN2.out))
            have HS250 := Sta.app 0 HS249 rfl (Nat.le_refl _) hO250 hG250 hb250
            have Hm250 := hidP hm250
            clear hO250 hG250 hb250 hm250
            refine hK.out _ _ ⟨Sta.c (i := 1) HS250 rfl rfl, Sta.c (i := 1) HS250 rfl rfl, Sta.c (i := 1) HS250 rfl rfl⟩ (fun hHeld => ?_)
            clear hK K
            try simp only [Act.put, List.setIfInBounds_toArray, List.set_cons_zero, List.set_cons_succ]
            refine wpAnyH_ready (rs := [6]) (by kernel_rfl) (by simp) (AllReadyH.cons (o := ⟨_, _, _, _, _, _⟩) rfl (fun K hK => ?_) AllReadyH.nil)
            rewrite [if_pos (wanted_free rfl)]
            with_reducible refine wp_appendInsM (W := w250) (.tmp 82) (.tmp 85) (by with_unfolding_all rfl) w.heap.size (.slice (some ⟨a250, 0, none⟩) m250 c250) (l1 ++ l2) w244.heap.size 0 2 2 ([⟨5, ⟨#[]⟩, ⟨#[]⟩⟩, ⟨3, ⟨#[]⟩, ⟨#[]⟩⟩] : List InsV) (by with_unfolding_all rfl) (Sta.t (i := 0) HS250 rfl) (by with_unfolding_all rfl) rfl (RowV.ins (l := [⟨5, ⟨#[]⟩, ⟨#[]⟩⟩, ⟨3, ⟨#[]⟩, ⟨#[]⟩⟩]) (Sta.r (i := 0) HS250 (by with_unfolding_all rfl))) (by have hx := True.intro; have h1 := HY.out.len; have h2 := Hp1.out.1; have h3 := Hp2.out.1; simp only [List.length_append, List.length_cons, List.length_nil] at *; omega) (Sta.size HS250) ?_
            intro v251 w251 hO251 hG251 hb251
            obtain ⟨a251, m251, c251, hm251, rfl⟩ := InsO.formS hO251 (app_ne (by simp))
            have HS251 := Sta.app 0 HS250 rfl (Nat.le_refl _) hO251 hG251 hb251
            have Hm251 := hidP hm251
            clear hO251 hG251 hb251 hm251
            refine hK.out _ _ ⟨Sta.c (i := 1) HS251 rfl rfl, Sta.c (i := 1) HS251 rfl rfl, Sta.c (i := 1) HS251 rfl rfl⟩ (fun hHeld => ?_)
            clear hK K
            try simp only [Act.put, List.setIfInBounds_toArray, List.set_cons_zero, List.set_cons_succ]
            refine wpAnyH_ready (rs := [8]) (by kernel_rfl) (by simp) (AllReadyH.cons (o := ⟨_, _, _, _, _, _⟩) rfl (fun K hK => ?_) AllReadyH.nil)
            rewrite [if_pos (wanted_free rfl)]
            go_simp
            have n252_0 : InsAt w251 (some ⟨a251, 0, none⟩) ((l1 ++ l2) ++ ([⟨5, ⟨#[]⟩, ⟨#[]⟩⟩, ⟨3, ⟨#[]⟩, ⟨#[]⟩⟩] : List InsV)) := (InsO.row (Sta.t (i := 0) HS251 rfl)).1.ins
            have n252_1 : LabAt w251 da ls := (Sta.t (i := 3) HS251 rfl :).2
            have n252_2 : ls.length = dm ∧ dm ≤ 100 := (And.intro Hp1.out.2.2.2.1 Hp1.out.2.2.2.2.1)
            have n252_3 : ((l1 ++ l2) ++ ([⟨5, ⟨#[]⟩, ⟨#[]⟩⟩, ⟨3, ⟨#[]⟩, ⟨#[]⟩⟩] : List InsV)).length = m251 ∧ m251 ≤ 100 ∧ (∀ x ∈ ((l1 ++ l2) ++ ([⟨5, ⟨#[]⟩, ⟨#[]⟩⟩, ⟨3, ⟨#[]⟩, ⟨#[]⟩⟩] : List InsV)), x.w) := (len_w Hm251.out (by have h1 := HY.out.len; simp; omega) (w_app (w_app Hp1.out.2.2.1 Hp2.out.2.2.1) (w_two w_5 w_3)))
            have n252_4 : evalN ((l1 ++ l2) ++ ([⟨5, ⟨#[]⟩, ⟨#[]⟩⟩, ⟨3, ⟨#[]⟩, ⟨#[]⟩⟩] : List InsV)) ls = false := (HY.out.y)
            (with_reducible refine (hC44 w251 l1 da dm de ls l2 a251 m251 c251 n252_0 n252_1 n252_2 n252_3 n252_4).mono ?_)
            rintro r w252 ⟨rfl, hB252⟩
            have HS252 := Sta.call HS251 hB252
            clear hB252
            go_wp2_with fail
            refine hK.out _ _ ⟨Sta.c (i := 1) HS252 rfl rfl, Sta.c (i := 1) HS252 rfl rfl, Sta.c (i := 1) HS252 rfl rfl⟩ (fun hHeld => ?_)
            clear hK K
            try simp only [Act.put, List.setIfInBounds_toArray, List.set_cons_zero, List.set_cons_succ]
            refine wpAnyH_take (i := 9) (oi := ⟨_, _, _, _, _, _⟩) (v := .bool false) rfl (by kernel_rfl) (by kernel_rfl) (by kernel_rfl) (fun _ _ _ h => h) (Or.inl ⟨wanted_free rfl, fun w' hSw => ?_⟩) hHeld ?_
            · go_simp
            try simp only [Act.put, List.setIfInBounds_toArray, List.set_cons_zero, List.set_cons_succ]
            refine wpAnyH_done (by kernel_rfl) ?_ _
            clear hHeld
            go_wp2_with fail
            go_meet
            exact ⟨rfl, Sta.drop 1 1 HS252⟩
        · as_aux_lemma =>
          rewrite [if_pos (wanted_free rfl)]
          with_reducible refine wp_buildIns2 (.tmp 83) (.tmp 84) (by with_unfolding_all rfl) 5 (⟨#[]⟩) (⟨#[]⟩) 3 (⟨#[]⟩) (⟨#[]⟩) (by with_unfolding_all rfl) (by with_unfolding_all rfl) ?_
          intro w253 hA253 hB253
          have HS253 := Sta.new HS243 hA253 hB253 (by simp)
          clear hA253 hB253
          refine hK.out _ _ ⟨Sta.c (i := 1) HS253 rfl rfl, Sta.c (i := 1) HS253 rfl rfl, Sta.c (i := 1) HS253 rfl rfl⟩ (fun hHeld => ?_)
          clear hK K
          try simp only [Act.put, List.setIfInBounds_toArray, List.set_cons_zero, List.set_cons_succ]
          refine wpAnyH_ready (rs := [0]) (by kernel_rfl) (by simp) (AllReadyH.cons (o := ⟨_, _, _, _, _, _⟩) rfl (fun K hK => ?_) AllReadyH.nil)
          rewrite [if_pos (wanted_free rfl)]
          with_reducible refine wp_buildIns0 (by with_unfolding_all rfl) w.heap.size (Sta.size HS253) ?_
          intro w254 hO254 hG254
          have HS254 := Sta.app 0 HS253 rfl (Nat.le_refl _) hO254 hG254 (Or.inr rfl)
          clear hO254 hG254
          refine hK.out _ _ ⟨Sta.c (i := 1) HS254 rfl rfl, Sta.c (i := 1) HS254 rfl rfl, Sta.c (i := 1) HS254 rfl rfl⟩ (fun hHeld => ?_)
          clear hK K
          try simp only [Act.put, List.setIfInBounds_toArray, List.set_cons_zero, List.set_cons_succ]
          refine wpAnyH_ready (rs := [2]) (by kernel_rfl) (by simp) (AllReadyH.cons (o := ⟨_, _, _, _, _, _⟩) rfl (fun K hK => ?_) AllReadyH.nil)
          rewrite [if_pos (wanted_free rfl)]
          with_reducible refine wp_appendInsM (W := w254) (.tmp 80) (.tmp 81) (by with_unfolding_all rfl) w.heap.size (.slice (some ⟨w253.heap.size, 0, none⟩) 0 0) ([]) a224 0 m224 c224 (l1 ++ l2) (by with_unfolding_all rfl) (Sta.t (i := 0) HS254 rfl) (by with_unfolding_all rfl) Hm224.out (InsO.row (Sta.t (i := 1) HS254 rfl)).1.ins (by have hx := Hm224.out; have h1 := HY.out.len; have h2 := Hp1.out.1; have h3 := Hp2.out.1; simp only [List.length_append, List.length_cons, List.length_nil] at *; omega) (Sta.size HS254) ?_
          intro v255 w255 hO255 hG255 hb255
          obtain ⟨a255, m255, c255, hm255, rfl⟩ := InsO.formS hO255 (app_ne (app_ne HN2.out))
          have HS255 := Sta.app 0 HS254 rfl (Nat.le_refl _) hO255 hG255 hb255
          have Hm255 := hidP hm255
          clear hO255 hG255 hb255 hm255
          refine hK.out _ _ ⟨Sta.c (i := 1) HS255 rfl rfl, Sta.c (i := 1) HS255 rfl rfl, Sta.c (i := 1) HS255 rfl rfl⟩ (fun hHeld => ?_)
          clear hK K
          try simp only [Act.put, List.setIfInBounds_toArray, List.set_cons_zero, List.set_cons_succ]
          refine wpAnyH_ready (rs := [6]) (by kernel_rfl) (by simp) (AllReadyH.cons (o := ⟨_, _, _, _, _, _⟩) rfl (fun K hK => ?_) AllReadyH.nil)
          rewrite [if_pos (wanted_free rfl)]
          with_reducible refine wp_appendInsM (W := w255) (.tmp 82) (.tmp 85) (by with_unfolding_all rfl) w.heap.size (.slice (some ⟨a255, 0, none⟩) m255 c255) (l1 ++ l2) w243.heap.size 0 2 2 ([⟨5, ⟨#[]⟩, ⟨#[]⟩⟩, ⟨3, ⟨#[]⟩, ⟨#[]⟩⟩] : List InsV) (by with_unfolding_all rfl) (Sta.t (i := 0) HS255 rfl) (by with_unfolding_all rfl) rfl (RowV.ins (l := [⟨5, ⟨#[]⟩, ⟨#[]⟩⟩, ⟨3, ⟨#[]⟩, ⟨#[]⟩⟩]) (Sta.r (i := 0) HS255 (by with_unfolding_all rfl))) (by have hx := True.intro; have h1 := HY.out.len; have h2 := Hp1.out.1; have h3 := Hp2.out.1; simp only [List.length_append, List.length_cons, List.length_nil] at *; omega) (Sta.size HS255) ?_
          intro v256 w256 hO256 hG256 hb256
          obtain ⟨a256, m256, c256, hm256, rfl⟩ := InsO.formS hO256 (app_ne (by simp))
          have HS256 := Sta.app 0 HS255 rfl (Nat.le_refl _) hO256 hG256 hb256
          have Hm256 := hidP hm256
          clear hO256 hG256 hb256 hm256
          refine hK.out _ _ ⟨Sta.c (i := 1) HS256 rfl rfl, Sta.c (i := 1) HS256 rfl rfl, Sta.c (i := 1) HS256 rfl rfl⟩ (fun hHeld => ?_)
          clear hK K
          try simp only [Act.put, List.setIfInBounds_toArray, List.set_cons_zero, List.set_cons_succ]
          refine wpAnyH_ready (rs := [8]) (by kernel_rfl) (by simp) (AllReadyH.cons (o := ⟨_, _, _, _, _, _⟩) rfl (fun K hK => ?_) AllReadyH.nil)
          rewrite [if_pos (wanted_free rfl)]
          go_simp
          have n257_0 : InsAt w256 (some ⟨a256, 0, none⟩) ((l1 ++ l2) ++ ([⟨5, ⟨#[]⟩, ⟨#[]⟩⟩, ⟨3, ⟨#[]⟩, ⟨#[]⟩⟩] : List InsV)) := (InsO.row (Sta.t (i := 0) HS256 rfl)).1.ins
          have n257_1 : LabAt w256 da ls := (Sta.t (i := 3) HS256 rfl :).2
          have n257_2 : ls.length = dm ∧ dm ≤ 100 := (And.intro Hp1.out.2.2.2.1 Hp1.out.2.2.2.2.1)
          have n257_3 : ((l1 ++ l2) ++ ([⟨5, ⟨#[]⟩, ⟨#[]⟩⟩, ⟨3, ⟨#[]⟩, ⟨#[]⟩⟩] : List InsV)).length = m256 ∧ m256 ≤ 100 ∧ (∀ x ∈ ((l1 ++ l2) ++ ([⟨5, ⟨#[]⟩, ⟨#[]⟩⟩, ⟨3, ⟨#[]⟩, ⟨#[]⟩⟩] : List InsV)), x.w) := (len_w Hm256.out (by have h1 := HY.out.len; simp; omega) (w_app (w_app Hp1.out.2.2.1 Hp2.out.2.2.1) (w_two w_5 w_3)))
          have n257_4 : evalN ((l1 ++ l2) ++ ([⟨5, ⟨#[]⟩, ⟨#[]⟩⟩, ⟨3, ⟨#[]⟩, ⟨#[]⟩⟩] : List InsV)) ls = false := (HY.out.y)
          (with_reducible refine (hC45 w256 l1 da dm de ls l2 a256 m256 c256 n257_0 n257_1 n257_2 n257_3 n257_4).mono ?_)
          rintro r w257 ⟨rfl, hB257⟩
          have HS257 := Sta.call HS256 hB257
          clear hB257
          go_wp2_with fail
          refine hK.out _ _ ⟨Sta.c (i := 1) HS257 rfl rfl, Sta.c (i := 1) HS257 rfl rfl, Sta.c (i := 1) HS257 rfl rfl⟩ (fun hHeld => ?_)
          clear hK K
          try simp only [Act.put, List.setIfInBounds_toArray, List.set_cons_zero, List.set_cons_succ]
          refine wpAnyH_take (i := 9) (oi := ⟨_, _, _, _, _, _⟩) (v := .bool false) rfl (by kernel_rfl) (by kernel_rfl) (by kernel_rfl) (fun _ _ _ h => h) (Or.inl ⟨wanted_free rfl, fun w' hSw => ?_⟩) hHeld ?_
          · go_simp
          try simp only [Act.put, List.setIfInBounds_toArray, List.set_cons_zero, List.set_cons_succ]
          refine wpAnyH_done (by kernel_rfl) ?_ _
          clear hHeld
          go_wp2_with fail
          go_meet
          exact ⟨rfl, Sta.drop 1 1 HS257⟩
      case rest =>
        obtain ⟨rfl, HS258⟩ := hcut
        rename Go.World => wl258
        go_wp2_with fail
        have HS259 : Hid (Sta [] w [(w217.heap.size, [.int .i64 3, .string ⟨#[]⟩, .string ⟨#[]⟩])] [⟨fun k => (Value.slice none 0 0).ownBlock = some k, fun w' => InsO w' w.heap.size (.slice none 0 0) ([])⟩, ⟨fun k => (Value.slice (some ⟨a224, 0, none⟩) m224 c224).ownBlock = some k, fun w' => InsO w' w.heap.size (.slice (some ⟨a224, 0, none⟩) m224 c224) (l1 ++ l2)⟩, ⟨fun k => w1.heap.size ≤ k ∧ k < w2.heap.size, fun w2 => InsAt w2 (some ⟨q9, r9, none⟩) l2 ∧ LabAt w2 ea es⟩, ⟨fun k => w.heap.size ≤ k ∧ k < w1.heap.size, fun w2 => InsAt w2 (some ⟨p9, o9, none⟩) l1 ∧ LabAt w2 da ls⟩, ⟨fun k => k < w.heap.size, fun w' => Bytes w' a1 n1 ∧ Bytes w' a2 n2⟩] wl258) := Sta.own0 w.heap.size 41 3 HS258
        try simp only [Act.put, List.setIfInBounds_toArray, List.set_cons_zero, List.set_cons_succ]
        go_cut [15] (fun v0 wx => ∃ (g15 : Nat) (m15 : Nat) (k15 : Nat), v0 = .slice (some ⟨g15, 0, none⟩) m15 k15 ∧ Hid ((l1 ++ ([⟨3, ⟨#[]⟩, ⟨#[]⟩⟩] : List InsV)).length = m15) ∧ Hid (Sta [] w [(w217.heap.size, [.int .i64 3, .string ⟨#[]⟩, .string ⟨#[]⟩])] [⟨fun k => (Value.slice (some ⟨g15, 0, none⟩) m15 k15).ownBlock = some k, fun w' => InsO w' w.heap.size (.slice (some ⟨g15, 0, none⟩) m15 k15) (l1 ++ ([⟨3, ⟨#[]⟩, ⟨#[]⟩⟩] : List InsV))⟩, ⟨fun k => (Value.slice (some ⟨a224, 0, none⟩) m224 c224).ownBlock = some k, fun w' => InsO w' w.heap.size (.slice (some ⟨a224, 0, none⟩) m224 c224) (l1 ++ l2)⟩, ⟨fun k => w1.heap.size ≤ k ∧ k < w2.heap.size, fun w2 => InsAt w2 (some ⟨q9, r9, none⟩) l2 ∧ LabAt w2 ea es⟩, ⟨fun k => w.heap.size ≤ k ∧ k < w1.heap.size, fun w2 => InsAt w2 (some ⟨p9, o9, none⟩) l1 ∧ LabAt w2 da ls⟩, ⟨fun k => k < w.heap.size, fun w' => Bytes w' a1 n1 ∧ Bytes w' a2 n2⟩] wx))
        case first =>
          go_wp2_with fail
          have HS260 := Sta.drew HS259
          refine wp_region_held_drew (S := fun w' => w'.cell? ⟨w217.heap.size, 0, none⟩ = some (.int .i64 3) ∧ w'.cell? ⟨w217.heap.size, 1, none⟩ = some (.string ⟨#[]⟩) ∧ w'.cell? ⟨w217.heap.size, 2, none⟩ = some (.string ⟨#[]⟩)) (by kernel_rfl) ⟨Sta.c (i := 0) HS260 rfl rfl, Sta.c (i := 0) HS260 rfl rfl, Sta.c (i := 0) HS260 rfl rfl⟩ (fun hHeld => ?_)
          generalize wl258.drew = w260 at *
          refine wpAnyH_take (i := 1) (oi := ⟨_, _, _, _, _, _⟩) (v := .slice (some ⟨p9, o9, none⟩) pn pc) rfl (by kernel_rfl) (by kernel_rfl) (by kernel_rfl) (fun _ _ _ h => h) (Or.inl ⟨wanted_free rfl, fun w' hSw => ?_⟩) hHeld ?_
          · go_simp
          try simp only [Act.put, List.setIfInBounds_toArray, List.set_cons_zero, List.set_cons_succ]
          refine wpAnyH_take (i := 3) (oi := ⟨_, _, _, _, _, _⟩) (v := .agg #[.int .i64 3, .string ⟨#[]⟩, .string ⟨#[]⟩]) rfl (by kernel_rfl) (by kernel_rfl) (by kernel_rfl) (fun _ _ _ h => h) (Or.inl ⟨wanted_free rfl, fun w' hSw => ?_⟩) hHeld ?_
          · obtain ⟨s0, s1, s2⟩ := hSw
            go_simp
          try simp only [Act.put, List.setIfInBounds_toArray, List.set_cons_zero, List.set_cons_succ]
          refine wpAnyH_ready (rs := [0, 4]) (by kernel_rfl) (by simp) (AllReadyH.cons (o := ⟨_, _, _, _, _, _⟩) rfl (fun K hK => ?_) (AllReadyH.cons (o := ⟨_, _, _, _, _, _⟩) rfl (fun K hK => ?_) AllReadyH.nil))
          · as_aux_lemma =>
            rewrite [if_pos (wanted_free rfl)]
            with_reducible refine wp_buildIns0 (by with_unfolding_all rfl) w.heap.size (Sta.size HS260) ?_
            intro w261 hO261 hG261
            have HS261 := Sta.app 0 HS260 rfl (Nat.le_refl _) hO261 hG261 (Or.inr rfl)
            clear hO261 hG261
            refine hK.out _ _ ⟨Sta.c (i := 0) HS261 rfl rfl, Sta.c (i := 0) HS261 rfl rfl, Sta.c (i := 0) HS261 rfl rfl⟩ (fun hHeld => ?_)
            clear hK K
            try simp only [Act.put, List.setIfInBounds_toArray, List.set_cons_zero, List.set_cons_succ]
            refine wpAnyH_ready (rs := [2, 4]) (by kernel_rfl) (by simp) (AllReadyH.cons (o := ⟨_, _, _, _, _, _⟩) rfl (fun K hK => ?_) (AllReadyH.cons (o := ⟨_, _, _, _, _, _⟩) rfl (fun K hK => ?_) AllReadyH.nil))
            · as_aux_lemma =>
              rewrite [if_pos (wanted_free rfl)]
              with_reducible refine wp_appendInsM (W := w261) (.tmp 89) (.tmp 90) (by with_unfolding_all rfl) w.heap.size (.slice (some ⟨w260.heap.size, 0, none⟩) 0 0) ([]) p9 o9 pn pc l1 (by with_unfolding_all rfl) (Sta.t (i := 0) HS261 rfl) (by with_unfolding_all rfl) Hp1.out.1 (Sta.t (i := 3) HS261 rfl :).1 (by have hx := Hp1.out.1; have h1 := HY.out.len; have h2 := Hp1.out.1; have h3 := Hp2.out.1; simp only [List.length_append, List.length_cons, List.length_nil] at *; omega) (Sta.size HS261) ?_
              intro v262 w262 hO262 hG262 hb262
              obtain ⟨a262, m262, c262, hm262, rfl⟩ := InsO.formS hO262 (app_ne HN1.out)
              have HS262 := Sta.app 0 HS261 rfl (Nat.le_refl _) hO262 hG262 hb262
              have Hm262 := hidP hm262
              clear hO262 hG262 hb262 hm262
              refine hK.out _ _ ⟨Sta.c (i := 0) HS262 rfl rfl, Sta.c (i := 0) HS262 rfl rfl, Sta.c (i := 0) HS262 rfl rfl⟩ (fun hHeld => ?_)
              clear hK K
              try simp only [Act.put, List.setIfInBounds_toArray, List.set_cons_zero, List.set_cons_succ]
              refine wpAnyH_ready (rs := [4]) (by kernel_rfl) (by simp) (AllReadyH.cons (o := ⟨_, _, _, _, _, _⟩) rfl (fun K hK => ?_) AllReadyH.nil)
              rewrite [if_pos (wanted_free rfl)]
              with_reducible refine wp_buildIns (.tmp 92) (by with_unfolding_all rfl) 3 (⟨#[]⟩) (⟨#[]⟩) (by with_unfolding_all rfl) ?_
              intro w263 hA263 hB263
              have HS263 := Sta.new HS262 hA263 hB263 (by simp [insv])
              clear hA263 hB263
              refine hK.out _ _ ⟨Sta.c (i := 1) HS263 rfl rfl, Sta.c (i := 1) HS263 rfl rfl, Sta.c (i := 1) HS263 rfl rfl⟩ (fun hHeld => ?_)
              clear hK K
              try simp only [Act.put, List.setIfInBounds_toArray, List.set_cons_zero, List.set_cons_succ]
              refine wpAnyH_ready (rs := [5]) (by kernel_rfl) (by simp) (AllReadyH.cons (o := ⟨_, _, _, _, _, _⟩) rfl (fun K hK => ?_) AllReadyH.nil)
              rewrite [if_pos (wanted_free rfl)]
              with_reducible refine wp_appendInsM (W := w263) (.tmp 91) (.tmp 93) (by with_unfolding_all rfl) w.heap.size (.slice (some ⟨a262, 0, none⟩) m262 c262) l1 w262.heap.size 0 1 1 ([⟨3, ⟨#[]⟩, ⟨#[]⟩⟩] : List InsV) (by with_unfolding_all rfl) (Sta.t (i := 0) HS263 rfl) (by with_unfolding_all rfl) rfl (RowV.ins (l := [⟨3, ⟨#[]⟩, ⟨#[]⟩⟩]) (Sta.r (i := 0) HS263 (by with_unfolding_all rfl))) (by have hx := True.intro; have h1 := HY.out.len; have h2 := Hp1.out.1; have h3 := Hp2.out.1; simp only [List.length_append, List.length_cons, List.length_nil] at *; omega) (Sta.size HS263) ?_
              intro v264 w264 hO264 hG264 hb264
              obtain ⟨a264, m264, c264, hm264, rfl⟩ := InsO.formS hO264 (app_ne (by simp))
              have HS264 := Sta.app 0 HS263 rfl (Nat.le_refl _) hO264 hG264 hb264
              have Hm264 := hidP hm264
              clear hO264 hG264 hb264 hm264
              refine hK.out _ _ ⟨Sta.c (i := 1) HS264 rfl rfl, Sta.c (i := 1) HS264 rfl rfl, Sta.c (i := 1) HS264 rfl rfl⟩ (fun hHeld => ?_)
              clear hK K
              try simp only [Act.put, List.setIfInBounds_toArray, List.set_cons_zero, List.set_cons_succ]
              refine wpAnyH_take (i := 6) (oi := ⟨_, _, _, _, _, _⟩) (v := .slice (some ⟨a264, 0, none⟩) m264 c264) rfl (by kernel_rfl) (by kernel_rfl) (by kernel_rfl) (fun _ _ _ h => h) (Or.inl ⟨wanted_free rfl, fun w' hSw => ?_⟩) hHeld ?_
              · go_simp
              try simp only [Act.put, List.setIfInBounds_toArray, List.set_cons_zero, List.set_cons_succ]
              refine wpAnyH_done (by kernel_rfl) ?_ _
              clear hHeld
              go_wp2_with fail
              go_meet
              exact ⟨a264, m264, c264, rfl, Hm264, Sta.drop 1 0 HS264⟩
            · as_aux_lemma =>
              rewrite [if_pos (wanted_free rfl)]
              with_reducible refine wp_buildIns (.tmp 92) (by with_unfolding_all rfl) 3 (⟨#[]⟩) (⟨#[]⟩) (by with_unfolding_all rfl) ?_
              intro w265 hA265 hB265
              have HS265 := Sta.new HS261 hA265 hB265 (by simp [insv])
              clear hA265 hB265
              refine hK.out _ _ ⟨Sta.c (i := 1) HS265 rfl rfl, Sta.c (i := 1) HS265 rfl rfl, Sta.c (i := 1) HS265 rfl rfl⟩ (fun hHeld => ?_)
              clear hK K
              try simp only [Act.put, List.setIfInBounds_toArray, List.set_cons_zero, List.set_cons_succ]
              refine wpAnyH_ready (rs := [2]) (by kernel_rfl) (by simp) (AllReadyH.cons (o := ⟨_, _, _, _, _, _⟩) rfl (fun K hK => ?_) AllReadyH.nil)
              rewrite [if_pos (wanted_free rfl)]
              with_reducible refine wp_appendInsM (W := w265) (.tmp 89) (.tmp 90) (by with_unfolding_all rfl) w.heap.size (.slice (some ⟨w260.heap.size, 0, none⟩) 0 0) ([]) p9 o9 pn pc l1 (by with_unfolding_all rfl) (Sta.t (i := 0) HS265 rfl) (by with_unfolding_all rfl) Hp1.out.1 (Sta.t (i := 3) HS265 rfl :).1 (by have hx := Hp1.out.1; have h1 := HY.out.len; have h2 := Hp1.out.1; have h3 := Hp2.out.1; simp only [List.length_append, List.length_cons, List.length_nil] at *; omega) (Sta.size HS265) ?_
              intro v266 w266 hO266 hG266 hb266
              obtain ⟨a266, m266, c266, hm266, rfl⟩ := InsO.formS hO266 (app_ne HN1.out)
              have HS266 := Sta.app 0 HS265 rfl (Nat.le_refl _) hO266 hG266 hb266
              have Hm266 := hidP hm266
              clear hO266 hG266 hb266 hm266
              refine hK.out _ _ ⟨Sta.c (i := 1) HS266 rfl rfl, Sta.c (i := 1) HS266 rfl rfl, Sta.c (i := 1) HS266 rfl rfl⟩ (fun hHeld => ?_)
              clear hK K
              try simp only [Act.put, List.setIfInBounds_toArray, List.set_cons_zero, List.set_cons_succ]
              refine wpAnyH_ready (rs := [5]) (by kernel_rfl) (by simp) (AllReadyH.cons (o := ⟨_, _, _, _, _, _⟩) rfl (fun K hK => ?_) AllReadyH.nil)
              rewrite [if_pos (wanted_free rfl)]
              with_reducible refine wp_appendInsM (W := w266) (.tmp 91) (.tmp 93) (by with_unfolding_all rfl) w.heap.size (.slice (some ⟨a266, 0, none⟩) m266 c266) l1 w261.heap.size 0 1 1 ([⟨3, ⟨#[]⟩, ⟨#[]⟩⟩] : List InsV) (by with_unfolding_all rfl) (Sta.t (i := 0) HS266 rfl) (by with_unfolding_all rfl) rfl (RowV.ins (l := [⟨3, ⟨#[]⟩, ⟨#[]⟩⟩]) (Sta.r (i := 0) HS266 (by with_unfolding_all rfl))) (by have hx := True.intro; have h1 := HY.out.len; have h2 := Hp1.out.1; have h3 := Hp2.out.1; simp only [List.length_append, List.length_cons, List.length_nil] at *; omega) (Sta.size HS266) ?_
              intro v267 w267 hO267 hG267 hb267
              obtain ⟨a267, m267, c267, hm267, rfl⟩ := InsO.formS hO267 (app_ne (by simp))
              have HS267 := Sta.app 0 HS266 rfl (Nat.le_refl _) hO267 hG267 hb267
              have Hm267 := hidP hm267
              clear hO267 hG267 hb267 hm267
              refine hK.out _ _ ⟨Sta.c (i := 1) HS267 rfl rfl, Sta.c (i := 1) HS267 rfl rfl, Sta.c (i := 1) HS267 rfl rfl⟩ (fun hHeld => ?_)
              clear hK K
              try simp only [Act.put, List.setIfInBounds_toArray, List.set_cons_zero, List.set_cons_succ]
              refine wpAnyH_take (i := 6) (oi := ⟨_, _, _, _, _, _⟩) (v := .slice (some ⟨a267, 0, none⟩) m267 c267) rfl (by kernel_rfl) (by kernel_rfl) (by kernel_rfl) (fun _ _ _ h => h) (Or.inl ⟨wanted_free rfl, fun w' hSw => ?_⟩) hHeld ?_
              · go_simp
              try simp only [Act.put, List.setIfInBounds_toArray, List.set_cons_zero, List.set_cons_succ]
              refine wpAnyH_done (by kernel_rfl) ?_ _
              clear hHeld
              go_wp2_with fail
              go_meet
              exact ⟨a267, m267, c267, rfl, Hm267, Sta.drop 1 0 HS267⟩
          · as_aux_lemma =>
            rewrite [if_pos (wanted_free rfl)]
            with_reducible refine wp_buildIns (.tmp 92) (by with_unfolding_all rfl) 3 (⟨#[]⟩) (⟨#[]⟩) (by with_unfolding_all rfl) ?_
            intro w268 hA268 hB268
            have HS268 := Sta.new HS260 hA268 hB268 (by simp [insv])
            clear hA268 hB268
            refine hK.out _ _ ⟨Sta.c (i := 1) HS268 rfl rfl, Sta.c (i := 1) HS268 rfl rfl, Sta.c (i := 1) HS268 rfl rfl⟩ (fun hHeld => ?_)
            clear hK K
            try simp only [Act.put, List.setIfInBounds_toArray, List.set_cons_zero, List.set_cons_succ]
            refine wpAnyH_ready (rs := [0]) (by kernel_rfl) (by simp) (AllReadyH.cons (o := ⟨_, _, _, _, _, _⟩) rfl (fun K hK => ?_) AllReadyH.nil)
            rewrite [if_pos (wanted_free rfl)]
            with_reducible refine wp_buildIns0 (by with_unfolding_all rfl) w.heap.size (Sta.size HS268) ?_
            intro w269 hO269 hG269
            have HS269 := Sta.app 0 HS268 rfl (Nat.le_refl _) hO269 hG269 (Or.inr rfl)
            clear hO269 hG269
            refine hK.out _ _ ⟨Sta.c (i := 1) HS269 rfl rfl, Sta.c (i := 1) HS269 rfl rfl, Sta.c (i := 1) HS269 rfl rfl⟩ (fun hHeld => ?_)
            clear hK K
            try simp only [Act.put, List.setIfInBounds_toArray, List.set_cons_zero, List.set_cons_succ]
            refine wpAnyH_ready (rs := [2]) (by kernel_rfl) (by simp) (AllReadyH.cons (o := ⟨_, _, _, _, _, _⟩) rfl (fun K hK => ?_) AllReadyH.nil)
            rewrite [if_pos (wanted_free rfl)]
            with_reducible refine wp_appendInsM (W := w269) (.tmp 89) (.tmp 90) (by with_unfolding_all rfl) w.heap.size (.slice (some ⟨w268.heap.size, 0, none⟩) 0 0) ([]) p9 o9 pn pc l1 (by with_unfolding_all rfl) (Sta.t (i := 0) HS269 rfl) (by with_unfolding_all rfl) Hp1.out.1 (Sta.t (i := 3) HS269 rfl :).1 (by have hx := Hp1.out.1; have h1 := HY.out.len; have h2 := Hp1.out.1; have h3 := Hp2.out.1; simp only [List.length_append, List.length_cons, List.length_nil] at *; omega) (Sta.size HS269) ?_
            intro v270 w270 hO270 hG270 hb270
            obtain ⟨a270, m270, c270, hm270, rfl⟩ := InsO.formS hO270 (app_ne HN1.out)
            have HS270 := Sta.app 0 HS269 rfl (Nat.le_refl _) hO270 hG270 hb270
            have Hm270 := hidP hm270
            clear hO270 hG270 hb270 hm270
            refine hK.out _ _ ⟨Sta.c (i := 1) HS270 rfl rfl, Sta.c (i := 1) HS270 rfl rfl, Sta.c (i := 1) HS270 rfl rfl⟩ (fun hHeld => ?_)
            clear hK K
            try simp only [Act.put, List.setIfInBounds_toArray, List.set_cons_zero, List.set_cons_succ]
            refine wpAnyH_ready (rs := [5]) (by kernel_rfl) (by simp) (AllReadyH.cons (o := ⟨_, _, _, _, _, _⟩) rfl (fun K hK => ?_) AllReadyH.nil)
            rewrite [if_pos (wanted_free rfl)]
            with_reducible refine wp_appendInsM (W := w270) (.tmp 91) (.tmp 93) (by with_unfolding_all rfl) w.heap.size (.slice (some ⟨a270, 0, none⟩) m270 c270) l1 w260.heap.size 0 1 1 ([⟨3, ⟨#[]⟩, ⟨#[]⟩⟩] : List InsV) (by with_unfolding_all rfl) (Sta.t (i := 0) HS270 rfl) (by with_unfolding_all rfl) rfl (RowV.ins (l := [⟨3, ⟨#[]⟩, ⟨#[]⟩⟩]) (Sta.r (i := 0) HS270 (by with_unfolding_all rfl))) (by have hx := True.intro; have h1 := HY.out.len; have h2 := Hp1.out.1; have h3 := Hp2.out.1; simp only [List.length_append, List.length_cons, List.length_nil] at *; omega) (Sta.size HS270) ?_
            intro v271 w271 hO271 hG271 hb271
            obtain ⟨a271, m271, c271, hm271, rfl⟩ := InsO.formS hO271 (app_ne (by simp))
            have HS271 := Sta.app 0 HS270 rfl (Nat.le_refl _) hO271 hG271 hb271
            have Hm271 := hidP hm271
            clear hO271 hG271 hb271 hm271
            refine hK.out _ _ ⟨Sta.c (i := 1) HS271 rfl rfl, Sta.c (i := 1) HS271 rfl rfl, Sta.c (i := 1) HS271 rfl rfl⟩ (fun hHeld => ?_)
            clear hK K
            try simp only [Act.put, List.setIfInBounds_toArray, List.set_cons_zero, List.set_cons_succ]
            refine wpAnyH_take (i := 6) (oi := ⟨_, _, _, _, _, _⟩) (v := .slice (some ⟨a271, 0, none⟩) m271 c271) rfl (by kernel_rfl) (by kernel_rfl) (by kernel_rfl) (fun _ _ _ h => h) (Or.inl ⟨wanted_free rfl, fun w' hSw => ?_⟩) hHeld ?_
            · go_simp
            try simp only [Act.put, List.setIfInBounds_toArray, List.set_cons_zero, List.set_cons_succ]
            refine wpAnyH_done (by kernel_rfl) ?_ _
            clear hHeld
            go_wp2_with fail
            go_meet
            exact ⟨a271, m271, c271, rfl, Hm271, Sta.drop 1 0 HS271⟩
        case rest =>
          obtain ⟨g15, m15, k15, rfl, H15, HS272⟩ := hcut
          rename Go.World => wl272
          go_wp2_with fail
          try simp only [Act.put, List.setIfInBounds_toArray, List.set_cons_zero, List.set_cons_succ]
          go_cut [15] (fun v0 wx => ∃ (g16 : Nat) (m16 : Nat) (k16 : Nat), v0 = .slice (some ⟨g16, 0, none⟩) m16 k16 ∧ Hid ((((l1 ++ ([⟨3, ⟨#[]⟩, ⟨#[]⟩⟩] : List InsV)) ++ l2) ++ ([⟨3, ⟨#[]⟩, ⟨#[]⟩⟩] : List InsV)).length = m16) ∧ Hid (Sta [] w [(w217.heap.size, [.int .i64 3, .string ⟨#[]⟩, .string ⟨#[]⟩])] [⟨fun k => (Value.slice (some ⟨g16, 0, none⟩) m16 k16).ownBlock = some k, fun w' => InsO w' w.heap.size (.slice (some ⟨g16, 0, none⟩) m16 k16) (((l1 ++ ([⟨3, ⟨#[]⟩, ⟨#[]⟩⟩] : List InsV)) ++ l2) ++ ([⟨3, ⟨#[]⟩, ⟨#[]⟩⟩] : List InsV))⟩, ⟨fun k => (Value.slice (some ⟨a224, 0, none⟩) m224 c224).ownBlock = some k, fun w' => InsO w' w.heap.size (.slice (some ⟨a224, 0, none⟩) m224 c224) (l1 ++ l2)⟩, ⟨fun k => w1.heap.size ≤ k ∧ k < w2.heap.size, fun w2 => InsAt w2 (some ⟨q9, r9, none⟩) l2 ∧ LabAt w2 ea es⟩, ⟨fun k => w.heap.size ≤ k ∧ k < w1.heap.size, fun w2 => InsAt w2 (some ⟨p9, o9, none⟩) l1 ∧ LabAt w2 da ls⟩, ⟨fun k => k < w.heap.size, fun w' => Bytes w' a1 n1 ∧ Bytes w' a2 n2⟩] wx))
          case first =>
            go_wp2_with fail
            have HS273 := Sta.drew HS272
            refine wp_region_held_drew (S := fun w' => w'.cell? ⟨w217.heap.size, 0, none⟩ = some (.int .i64 3) ∧ w'.cell? ⟨w217.heap.size, 1, none⟩ = some (.string ⟨#[]⟩) ∧ w'.cell? ⟨w217.heap.size, 2, none⟩ = some (.string ⟨#[]⟩)) (by kernel_rfl) ⟨Sta.c (i := 0) HS273 rfl rfl, Sta.c (i := 0) HS273 rfl rfl, Sta.c (i := 0) HS273 rfl rfl⟩ (fun hHeld => ?_)
            generalize wl272.drew = w273 at *
            refine wpAnyH_take (i := 0) (oi := ⟨_, _, _, _, _, _⟩) (v := .slice (some ⟨g15, 0, none⟩) m15 k15) rfl (by kernel_rfl) (by kernel_rfl) (by kernel_rfl) (fun _ _ _ h => h) (Or.inl ⟨wanted_free rfl, fun w' hSw => ?_⟩) hHeld ?_
            · go_simp
            try simp only [Act.put, List.setIfInBounds_toArray, List.set_cons_zero, List.set_cons_succ]
            refine wpAnyH_take (i := 1) (oi := ⟨_, _, _, _, _, _⟩) (v := .slice (some ⟨q9, r9, none⟩) qn qc) rfl (by kernel_rfl) (by kernel_rfl) (by kernel_rfl) (fun _ _ _ h => h) (Or.inl ⟨wanted_free rfl, fun w' hSw => ?_⟩) hHeld ?_
            · go_simp
            try simp only [Act.put, List.setIfInBounds_toArray, List.set_cons_zero, List.set_cons_succ]
            refine wpAnyH_take (i := 3) (oi := ⟨_, _, _, _, _, _⟩) (v := .agg #[.int .i64 3, .string ⟨#[]⟩, .string ⟨#[]⟩]) rfl (by kernel_rfl) (by kernel_rfl) (by kernel_rfl) (fun _ _ _ h => h) (Or.inl ⟨wanted_free rfl, fun w' hSw => ?_⟩) hHeld ?_
            · obtain ⟨s0, s1, s2⟩ := hSw
              go_simp
            try simp only [Act.put, List.setIfInBounds_toArray, List.set_cons_zero, List.set_cons_succ]
            refine wpAnyH_ready (rs := [2, 4]) (by kernel_rfl) (by simp) (AllReadyH.cons (o := ⟨_, _, _, _, _, _⟩) rfl (fun K hK => ?_) (AllReadyH.cons (o := ⟨_, _, _, _, _, _⟩) rfl (fun K hK => ?_) AllReadyH.nil))
            · as_aux_lemma =>
              rewrite [if_pos (wanted_free rfl)]
              with_reducible refine wp_appendInsM (W := w273) (.tmp 95) (.tmp 96) (by with_unfolding_all rfl) w.heap.size (.slice (some ⟨g15, 0, none⟩) m15 k15) (l1 ++ ([⟨3, ⟨#[]⟩, ⟨#[]⟩⟩] : List InsV)) q9 r9 qn qc l2 (by with_unfolding_all rfl) (Sta.t (i := 0) HS273 rfl) (by with_unfolding_all rfl) Hp2.out.1 (Sta.t (i := 2) HS273 rfl :).1 (by have hx := Hp2.out.1; have h1 := HY.out.len; have h2 := Hp1.out.1; have h3 := Hp2.out.1; simp only [List.length_append, List.length_cons, List.length_nil] at *; omega) (Sta.size HS273) ?_
              intro v274 w274 hO274 hG274 hb274
              obtain ⟨a274, m274, c274, hm274, rfl⟩ := InsO.formS hO274 (app_ne HN2.out)
              have HS274 := Sta.app 0 HS273 rfl (Nat.le_refl _) hO274 hG274 hb274
              have Hm274 := hidP hm274
              clear hO274 hG274 hb274 hm274
              refine hK.out _ _ ⟨Sta.c (i := 0) HS274 rfl rfl, Sta.c (i := 0) HS274 rfl rfl, Sta.c (i := 0) HS274 rfl rfl⟩ (fun hHeld => ?_)
              clear hK K
              try simp only [Act.put, List.setIfInBounds_toArray, List.set_cons_zero, List.set_cons_succ]
              refine wpAnyH_ready (rs := [4]) (by kernel_rfl) (by simp) (AllReadyH.cons (o := ⟨_, _, _, _, _, _⟩) rfl (fun K hK => ?_) AllReadyH.nil)
              rewrite [if_pos (wanted_free rfl)]
              with_reducible refine wp_buildIns (.tmp 98) (by with_unfolding_all rfl) 3 (⟨#[]⟩) (⟨#[]⟩) (by with_unfolding_all rfl) ?_
              intro w275 hA275 hB275
              have HS275 := Sta.new HS274 hA275 hB275 (by simp [insv])
              clear hA275 hB275
              refine hK.out _ _ ⟨Sta.c (i := 1) HS275 rfl rfl, Sta.c (i := 1) HS275 rfl rfl, Sta.c (i := 1) HS275 rfl rfl⟩ (fun hHeld => ?_)
              clear hK K
              try simp only [Act.put, List.setIfInBounds_toArray, List.set_cons_zero, List.set_cons_succ]
              refine wpAnyH_ready (rs := [5]) (by kernel_rfl) (by simp) (AllReadyH.cons (o := ⟨_, _, _, _, _, _⟩) rfl (fun K hK => ?_) AllReadyH.nil)
              rewrite [if_pos (wanted_free rfl)]
              with_reducible refine wp_appendInsM (W := w275) (.tmp 97) (.tmp 99) (by with_unfolding_all rfl) w.heap.size (.slice (some ⟨a274, 0, none⟩) m274 c274) ((l1 ++ ([⟨3, ⟨#[]⟩, ⟨#[]⟩⟩] : List InsV)) ++ l2) w274.heap.size 0 1 1 ([⟨3, ⟨#[]⟩, ⟨#[]⟩⟩] : List InsV) (by with_unfolding_all rfl) (Sta.t (i := 0) HS275 rfl) (by with_unfolding_all rfl) rfl (RowV.ins (l := [⟨3, ⟨#[]⟩, ⟨#[]⟩⟩]) (Sta.r (i := 0) HS275 (by with_unfolding_all rfl))) (by have hx := True.intro; have h1 := HY.out.len; have h2 := Hp1.out.1; have h3 := Hp2.out.1; simp only [List.length_append, List.length_cons, List.length_nil] at *; omega) (Sta.size HS275) ?_
              intro v276 w276 hO276 hG276 hb276
              obtain ⟨a276, m276, c276, hm276, rfl⟩ := InsO.formS hO276 (app_ne (by simp))
              have HS276 := Sta.app 0 HS275 rfl (Nat.le_refl _) hO276 hG276 hb276
              have Hm276 := hidP hm276
              clear hO276 hG276 hb276 hm276
              refine hK.out _ _ ⟨Sta.c (i := 1) HS276 rfl rfl, Sta.c (i := 1) HS276 rfl rfl, Sta.c (i := 1) HS276 rfl rfl⟩ (fun hHeld => ?_)
              clear hK K
              try simp only [Act.put, List.setIfInBounds_toArray, List.set_cons_zero, List.set_cons_succ]
              refine wpAnyH_take (i := 6) (oi := ⟨_, _, _, _, _, _⟩) (v := .slice (some ⟨a276, 0, none⟩) m276 c276) rfl (by kernel_rfl) (by kernel_rfl) (by kernel_rfl) (fun _ _ _ h => h) (Or.inl ⟨wanted_free rfl, fun w' hSw => ?_⟩) hHeld ?_
              · go_simp
              try simp only [Act.put, List.setIfInBounds_toArray, List.set_cons_zero, List.set_cons_succ]
              refine wpAnyH_done (by kernel_rfl) ?_ _
              clear hHeld
              go_wp2_with fail
              go_meet
              exact ⟨a276, m276, c276, rfl, Hm276, Sta.drop 1 0 HS276⟩
            · as_aux_lemma =>
              rewrite [if_pos (wanted_free rfl)]
              with_reducible refine wp_buildIns (.tmp 98) (by with_unfolding_all rfl) 3 (⟨#[]⟩) (⟨#[]⟩) (by with_unfolding_all rfl) ?_
              intro w277 hA277 hB277
              have HS277 := Sta.new HS273 hA277 hB277 (by simp [insv])
              clear hA277 hB277
              refine hK.out _ _ ⟨Sta.c (i := 1) HS277 rfl rfl, Sta.c (i := 1) HS277 rfl rfl, Sta.c (i := 1) HS277 rfl rfl⟩ (fun hHeld => ?_)
              clear hK K
              try simp only [Act.put, List.setIfInBounds_toArray, List.set_cons_zero, List.set_cons_succ]
              refine wpAnyH_ready (rs := [2]) (by kernel_rfl) (by simp) (AllReadyH.cons (o := ⟨_, _, _, _, _, _⟩) rfl (fun K hK => ?_) AllReadyH.nil)
              rewrite [if_pos (wanted_free rfl)]
              with_reducible refine wp_appendInsM (W := w277) (.tmp 95) (.tmp 96) (by with_unfolding_all rfl) w.heap.size (.slice (some ⟨g15, 0, none⟩) m15 k15) (l1 ++ ([⟨3, ⟨#[]⟩, ⟨#[]⟩⟩] : List InsV)) q9 r9 qn qc l2 (by with_unfolding_all rfl) (Sta.t (i := 0) HS277 rfl) (by with_unfolding_all rfl) Hp2.out.1 (Sta.t (i := 2) HS277 rfl :).1 (by have hx := Hp2.out.1; have h1 := HY.out.len; have h2 := Hp1.out.1; have h3 := Hp2.out.1; simp only [List.length_append, List.length_cons, List.length_nil] at *; omega) (Sta.size HS277) ?_
              intro v278 w278 hO278 hG278 hb278
              obtain ⟨a278, m278, c278, hm278, rfl⟩ := InsO.formS hO278 (app_ne HN2.out)
              have HS278 := Sta.app 0 HS277 rfl (Nat.le_refl _) hO278 hG278 hb278
              have Hm278 := hidP hm278
              clear hO278 hG278 hb278 hm278
              refine hK.out _ _ ⟨Sta.c (i := 1) HS278 rfl rfl, Sta.c (i := 1) HS278 rfl rfl, Sta.c (i := 1) HS278 rfl rfl⟩ (fun hHeld => ?_)
              clear hK K
              try simp only [Act.put, List.setIfInBounds_toArray, List.set_cons_zero, List.set_cons_succ]
              refine wpAnyH_ready (rs := [5]) (by kernel_rfl) (by simp) (AllReadyH.cons (o := ⟨_, _, _, _, _, _⟩) rfl (fun K hK => ?_) AllReadyH.nil)
              rewrite [if_pos (wanted_free rfl)]
              with_reducible refine wp_appendInsM (W := w278) (.tmp 97) (.tmp 99) (by with_unfolding_all rfl) w.heap.size (.slice (some ⟨a278, 0, none⟩) m278 c278) ((l1 ++ ([⟨3, ⟨#[]⟩, ⟨#[]⟩⟩] : List InsV)) ++ l2) w273.heap.size 0 1 1 ([⟨3, ⟨#[]⟩, ⟨#[]⟩⟩] : List InsV) (by with_unfolding_all rfl) (Sta.t (i := 0) HS278 rfl) (by with_unfolding_all rfl) rfl (RowV.ins (l := [⟨3, ⟨#[]⟩, ⟨#[]⟩⟩]) (Sta.r (i := 0) HS278 (by with_unfolding_all rfl))) (by have hx := True.intro; have h1 := HY.out.len; have h2 := Hp1.out.1; have h3 := Hp2.out.1; simp only [List.length_append, List.length_cons, List.length_nil] at *; omega) (Sta.size HS278) ?_
              intro v279 w279 hO279 hG279 hb279
              obtain ⟨a279, m279, c279, hm279, rfl⟩ := InsO.formS hO279 (app_ne (by simp))
              have HS279 := Sta.app 0 HS278 rfl (Nat.le_refl _) hO279 hG279 hb279
              have Hm279 := hidP hm279
              clear hO279 hG279 hb279 hm279
              refine hK.out _ _ ⟨Sta.c (i := 1) HS279 rfl rfl, Sta.c (i := 1) HS279 rfl rfl, Sta.c (i := 1) HS279 rfl rfl⟩ (fun hHeld => ?_)
              clear hK K
              try simp only [Act.put, List.setIfInBounds_toArray, List.set_cons_zero, List.set_cons_succ]
              refine wpAnyH_take (i := 6) (oi := ⟨_, _, _, _, _, _⟩) (v := .slice (some ⟨a279, 0, none⟩) m279 c279) rfl (by kernel_rfl) (by kernel_rfl) (by kernel_rfl) (fun _ _ _ h => h) (Or.inl ⟨wanted_free rfl, fun w' hSw => ?_⟩) hHeld ?_
              · go_simp
              try simp only [Act.put, List.setIfInBounds_toArray, List.set_cons_zero, List.set_cons_succ]
              refine wpAnyH_done (by kernel_rfl) ?_ _
              clear hHeld
              go_wp2_with fail
              go_meet
              exact ⟨a279, m279, c279, rfl, Hm279, Sta.drop 1 0 HS279⟩
          case rest =>
            obtain ⟨g16, m16, k16, rfl, H16, HS280⟩ := hcut
            rename Go.World => wl280
            · skip
              have HS281 : Hid (Sta [] w [(w217.heap.size, [.int .i64 3, .string ⟨#[]⟩, .string ⟨#[]⟩])] [⟨fun k => (Value.slice none 0 0).ownBlock = some k, fun w' => InsO w' w.heap.size (.slice none 0 0) ([])⟩, ⟨fun k => (Value.slice (some ⟨g16, 0, none⟩) m16 k16).ownBlock = some k, fun w' => InsO w' w.heap.size (.slice (some ⟨g16, 0, none⟩) m16 k16) (((l1 ++ ([⟨3, ⟨#[]⟩, ⟨#[]⟩⟩] : List InsV)) ++ l2) ++ ([⟨3, ⟨#[]⟩, ⟨#[]⟩⟩] : List InsV))⟩, ⟨fun k => (Value.slice (some ⟨a224, 0, none⟩) m224 c224).ownBlock = some k, fun w' => InsO w' w.heap.size (.slice (some ⟨a224, 0, none⟩) m224 c224) (l1 ++ l2)⟩, ⟨fun k => w1.heap.size ≤ k ∧ k < w2.heap.size, fun w2 => InsAt w2 (some ⟨q9, r9, none⟩) l2 ∧ LabAt w2 ea es⟩, ⟨fun k => w.heap.size ≤ k ∧ k < w1.heap.size, fun w2 => InsAt w2 (some ⟨p9, o9, none⟩) l1 ∧ LabAt w2 da ls⟩, ⟨fun k => k < w.heap.size, fun w' => Bytes w' a1 n1 ∧ Bytes w' a2 n2⟩] wl280) := Sta.own0 w.heap.size 41 3 HS280
              have hO282 := World.ownsRow_made (base := w.heap.size) (size := 3) (e := 41) wl280 #[] 0 (Sta.size HS281) (by decide) (by simp)
              have hG282 := World.grownBy_alloc wl280 (.cells #[] 41) (Value.slice none 0 0).ownBlock
              have HS282 := Sta.app 0 HS281 rfl (Nat.le_refl _) hO282 hG282 (Or.inr rfl)
              clear hO282 hG282
              go_upto_region 18 with (first
                | ((with_reducible refine wpList_appendInsM (W := (wl280.alloc (.cells #[] 41))) (by with_unfolding_all rfl) (.tmp 101) (.tmp 102) (by with_unfolding_all rfl) w.heap.size (.slice (some ⟨wl280.heap.size, 0, none⟩) 0 0) ([]) g16 0 m16 k16 (((l1 ++ ([⟨3, ⟨#[]⟩, ⟨#[]⟩⟩] : List InsV)) ++ l2) ++ ([⟨3, ⟨#[]⟩, ⟨#[]⟩⟩] : List InsV)) (by with_unfolding_all rfl) (Sta.t (i := 0) HS282 rfl) (by with_unfolding_all rfl) H16.out (InsO.row (Sta.t (i := 1) HS282 rfl)).1.ins (by have hx := H16.out; have h1 := HY.out.len; have h2 := Hp1.out.1; have h3 := Hp2.out.1; simp only [List.length_append, List.length_cons, List.length_nil] at *; omega) (Sta.size HS282) ?_); intro v283 w283 hO283 hG283 hb283; obtain ⟨a283, m283, c283, hm283, rfl⟩ := InsO.formS hO283 (app_ne (app_ne (by simp))); have HS283 := Sta.app 0 HS282 rfl (Nat.le_refl _) hO283 hG283 hb283; have Hm283 := hidP hm283; clear hO283 hG283 hb283 hm283)
                | ((with_reducible refine wpList_buildIns (w := w283) (by with_unfolding_all rfl) (.tmp 104) (by with_unfolding_all rfl) 5 (⟨#[]⟩) (⟨#[]⟩) (by with_unfolding_all rfl) ?_); intro w284 hA284 hB284; have HS284 := Sta.new HS283 hA284 hB284 (by simp [insv]); clear hA284 hB284)
                | ((with_reducible refine wpList_appendInsM (W := w284) (by with_unfolding_all rfl) (.tmp 103) (.tmp 105) (by with_unfolding_all rfl) w.heap.size (.slice (some ⟨a283, 0, none⟩) m283 c283) (((l1 ++ ([⟨3, ⟨#[]⟩, ⟨#[]⟩⟩] : List InsV)) ++ l2) ++ ([⟨3, ⟨#[]⟩, ⟨#[]⟩⟩] : List InsV)) w283.heap.size 0 1 1 ([⟨5, ⟨#[]⟩, ⟨#[]⟩⟩] : List InsV) (by with_unfolding_all rfl) (Sta.t (i := 0) HS284 rfl) (by with_unfolding_all rfl) rfl (RowV.ins (l := [⟨5, ⟨#[]⟩, ⟨#[]⟩⟩]) (Sta.r (i := 0) HS284 (by with_unfolding_all rfl))) (by have hx := True.intro; have h1 := HY.out.len; have h2 := Hp1.out.1; have h3 := Hp2.out.1; simp only [List.length_append, List.length_cons, List.length_nil] at *; omega) (Sta.size HS284) ?_); intro v285 w285 hO285 hG285 hb285; obtain ⟨a285, m285, c285, hm285, rfl⟩ := InsO.formS hO285 (app_ne (by simp)); have HS285 := Sta.app 0 HS284 rfl (Nat.le_refl _) hO285 hG285 hb285; have Hm285 := hidP hm285; clear hO285 hG285 hb285 hm285)
                | (go_at_call 19; have n286_0 : InsAt w285 (some ⟨a285, 0, none⟩) ((((l1 ++ ([⟨3, ⟨#[]⟩, ⟨#[]⟩⟩] : List InsV)) ++ l2) ++ ([⟨3, ⟨#[]⟩, ⟨#[]⟩⟩] : List InsV)) ++ ([⟨5, ⟨#[]⟩, ⟨#[]⟩⟩] : List InsV)) := (InsO.row (Sta.t (i := 0) HS285 rfl)).1.ins; have n286_1 : LabAt w285 da ls := (Sta.t (i := 4) HS285 rfl :).2; have n286_2 : ls.length = dm ∧ dm ≤ 100 := (And.intro Hp1.out.2.2.2.1 Hp1.out.2.2.2.2.1); have n286_3 : ((((l1 ++ ([⟨3, ⟨#[]⟩, ⟨#[]⟩⟩] : List InsV)) ++ l2) ++ ([⟨3, ⟨#[]⟩, ⟨#[]⟩⟩] : List InsV)) ++ ([⟨5, ⟨#[]⟩, ⟨#[]⟩⟩] : List InsV)).length = m285 ∧ m285 ≤ 100 ∧ (∀ x ∈ ((((l1 ++ ([⟨3, ⟨#[]⟩, ⟨#[]⟩⟩] : List InsV)) ++ l2) ++ ([⟨3, ⟨#[]⟩, ⟨#[]⟩⟩] : List InsV)) ++ ([⟨5, ⟨#[]⟩, ⟨#[]⟩⟩] : List InsV)), x.w) := (len_w Hm285.out (by have h1 := HY.out.len; simp; omega) (w_app (w_app (w_app (w_app Hp1.out.2.2.1 (w_one w_3)) Hp2.out.2.2.1) (w_one w_3)) (w_one w_5))); have n286_4 : evalN ((((l1 ++ ([⟨3, ⟨#[]⟩, ⟨#[]⟩⟩] : List InsV)) ++ l2) ++ ([⟨3, ⟨#[]⟩, ⟨#[]⟩⟩] : List InsV)) ++ ([⟨5, ⟨#[]⟩, ⟨#[]⟩⟩] : List InsV)) ls = true := (HY.out.u); (with_reducible refine (hC46 w285 l1 da dm de ls l2 a285 m285 c285 n286_0 n286_1 n286_2 n286_3 n286_4).mono ?_); rintro r w286 ⟨rfl, hB286⟩; have HS286 := Sta.call HS285 hB286; clear hB286))
              · skip
                have HS288 : Hid (Sta [] w [(w283.heap.size, [.int .i64 5, .string ⟨#[]⟩, .string ⟨#[]⟩]), (w217.heap.size, [.int .i64 3, .string ⟨#[]⟩, .string ⟨#[]⟩])] [⟨fun k => (Value.slice none 0 0).ownBlock = some k, fun w' => InsO w' w.heap.size (.slice none 0 0) ([])⟩, ⟨fun k => (Value.slice (some ⟨a285, 0, none⟩) m285 c285).ownBlock = some k, fun w' => InsO w' w.heap.size (.slice (some ⟨a285, 0, none⟩) m285 c285) ((((l1 ++ ([⟨3, ⟨#[]⟩, ⟨#[]⟩⟩] : List InsV)) ++ l2) ++ ([⟨3, ⟨#[]⟩, ⟨#[]⟩⟩] : List InsV)) ++ ([⟨5, ⟨#[]⟩, ⟨#[]⟩⟩] : List InsV))⟩, ⟨fun k => (Value.slice (some ⟨g16, 0, none⟩) m16 k16).ownBlock = some k, fun w' => InsO w' w.heap.size (.slice (some ⟨g16, 0, none⟩) m16 k16) (((l1 ++ ([⟨3, ⟨#[]⟩, ⟨#[]⟩⟩] : List InsV)) ++ l2) ++ ([⟨3, ⟨#[]⟩, ⟨#[]⟩⟩] : List InsV))⟩, ⟨fun k => (Value.slice (some ⟨a224, 0, none⟩) m224 c224).ownBlock = some k, fun w' => InsO w' w.heap.size (.slice (some ⟨a224, 0, none⟩) m224 c224) (l1 ++ l2)⟩, ⟨fun k => w1.heap.size ≤ k ∧ k < w2.heap.size, fun w2 => InsAt w2 (some ⟨q9, r9, none⟩) l2 ∧ LabAt w2 ea es⟩, ⟨fun k => w.heap.size ≤ k ∧ k < w1.heap.size, fun w2 => InsAt w2 (some ⟨p9, o9, none⟩) l1 ∧ LabAt w2 da ls⟩, ⟨fun k => k < w.heap.size, fun w' => Bytes w' a1 n1 ∧ Bytes w' a2 n2⟩] w286) := Sta.own0 w.heap.size 41 3 HS286
                have hO289 := World.ownsRow_made (base := w.heap.size) (size := 3) (e := 41) w286 #[] 0 (Sta.size HS288) (by decide) (by simp)
                have hG289 := World.grownBy_alloc w286 (.cells #[] 41) (Value.slice none 0 0).ownBlock
                have HS289 := Sta.app 0 HS288 rfl (Nat.le_refl _) hO289 hG289 (Or.inr rfl)
                clear hO289 hG289
                go_wp2_with (first
                  | ((with_reducible refine wpList_appendInsM (W := (w286.alloc (.cells #[] 41))) (by with_unfolding_all rfl) (.tmp 109) (.tmp 110) (by with_unfolding_all rfl) w.heap.size (.slice (some ⟨w286.heap.size, 0, none⟩) 0 0) ([]) g16 0 m16 k16 (((l1 ++ ([⟨3, ⟨#[]⟩, ⟨#[]⟩⟩] : List InsV)) ++ l2) ++ ([⟨3, ⟨#[]⟩, ⟨#[]⟩⟩] : List InsV)) (by with_unfolding_all rfl) (Sta.t (i := 0) HS289 rfl) (by with_unfolding_all rfl) H16.out (InsO.row (Sta.t (i := 2) HS289 rfl)).1.ins (by have hx := H16.out; have h1 := HY.out.len; have h2 := Hp1.out.1; have h3 := Hp2.out.1; simp only [List.length_append, List.length_cons, List.length_nil] at *; omega) (Sta.size HS289) ?_); intro v290 w290 hO290 hG290 hb290; obtain ⟨a290, m290, c290, hm290, rfl⟩ := InsO.formS hO290 (app_ne (app_ne (by simp))); have HS290 := Sta.app 0 HS289 rfl (Nat.le_refl _) hO290 hG290 hb290; have Hm290 := hidP hm290; clear hO290 hG290 hb290 hm290)
                  | ((with_reducible refine wpList_buildIns (w := w290) (by with_unfolding_all rfl) (.tmp 112) (by with_unfolding_all rfl) 4 (⟨#[]⟩) (⟨#[]⟩) (by with_unfolding_all rfl) ?_); intro w291 hA291 hB291; have HS291 := Sta.new HS290 hA291 hB291 (by simp [insv]); clear hA291 hB291)
                  | ((with_reducible refine wpList_appendInsM (W := w291) (by with_unfolding_all rfl) (.tmp 111) (.tmp 113) (by with_unfolding_all rfl) w.heap.size (.slice (some ⟨a290, 0, none⟩) m290 c290) (((l1 ++ ([⟨3, ⟨#[]⟩, ⟨#[]⟩⟩] : List InsV)) ++ l2) ++ ([⟨3, ⟨#[]⟩, ⟨#[]⟩⟩] : List InsV)) w290.heap.size 0 1 1 ([⟨4, ⟨#[]⟩, ⟨#[]⟩⟩] : List InsV) (by with_unfolding_all rfl) (Sta.t (i := 0) HS291 rfl) (by with_unfolding_all rfl) rfl (RowV.ins (l := [⟨4, ⟨#[]⟩, ⟨#[]⟩⟩]) (Sta.r (i := 0) HS291 (by with_unfolding_all rfl))) (by have hx := True.intro; have h1 := HY.out.len; have h2 := Hp1.out.1; have h3 := Hp2.out.1; simp only [List.length_append, List.length_cons, List.length_nil] at *; omega) (Sta.size HS291) ?_); intro v292 w292 hO292 hG292 hb292; obtain ⟨a292, m292, c292, hm292, rfl⟩ := InsO.formS hO292 (app_ne (by simp)); have HS292 := Sta.app 0 HS291 rfl (Nat.le_refl _) hO292 hG292 hb292; have Hm292 := hidP hm292; clear hO292 hG292 hb292 hm292)
                  | (go_at_call 19; have n293_0 : InsAt w292 (some ⟨a292, 0, none⟩) ((((l1 ++ ([⟨3, ⟨#[]⟩, ⟨#[]⟩⟩] : List InsV)) ++ l2) ++ ([⟨3, ⟨#[]⟩, ⟨#[]⟩⟩] : List InsV)) ++ ([⟨4, ⟨#[]⟩, ⟨#[]⟩⟩] : List InsV)) := (InsO.row (Sta.t (i := 0) HS292 rfl)).1.ins; have n293_1 : LabAt w292 da ls := (Sta.t (i := 5) HS292 rfl :).2; have n293_2 : ls.length = dm ∧ dm ≤ 100 := (And.intro Hp1.out.2.2.2.1 Hp1.out.2.2.2.2.1); have n293_3 : ((((l1 ++ ([⟨3, ⟨#[]⟩, ⟨#[]⟩⟩] : List InsV)) ++ l2) ++ ([⟨3, ⟨#[]⟩, ⟨#[]⟩⟩] : List InsV)) ++ ([⟨4, ⟨#[]⟩, ⟨#[]⟩⟩] : List InsV)).length = m292 ∧ m292 ≤ 100 ∧ (∀ x ∈ ((((l1 ++ ([⟨3, ⟨#[]⟩, ⟨#[]⟩⟩] : List InsV)) ++ l2) ++ ([⟨3, ⟨#[]⟩, ⟨#[]⟩⟩] : List InsV)) ++ ([⟨4, ⟨#[]⟩, ⟨#[]⟩⟩] : List InsV)), x.w) := (len_w Hm292.out (by have h1 := HY.out.len; simp; omega) (w_app (w_app (w_app (w_app Hp1.out.2.2.1 (w_one w_3)) Hp2.out.2.2.1) (w_one w_3)) (w_one w_4))); have n293_4 : evalN ((((l1 ++ ([⟨3, ⟨#[]⟩, ⟨#[]⟩⟩] : List InsV)) ++ l2) ++ ([⟨3, ⟨#[]⟩, ⟨#[]⟩⟩] : List InsV)) ++ ([⟨4, ⟨#[]⟩, ⟨#[]⟩⟩] : List InsV)) ls = false := (HY.out.v); (with_reducible refine (hC47 w292 l1 da dm de ls l2 a292 m292 c292 n293_0 n293_1 n293_2 n293_3 n293_4).mono ?_); rintro r w293 ⟨rfl, hB293⟩; have HS293 := Sta.call HS292 hB293; clear hB293))
                have HS294 : Hid (Sta [] w [(w290.heap.size, [.int .i64 4, .string ⟨#[]⟩, .string ⟨#[]⟩]), (w283.heap.size, [.int .i64 5, .string ⟨#[]⟩, .string ⟨#[]⟩]), (w217.heap.size, [.int .i64 3, .string ⟨#[]⟩, .string ⟨#[]⟩])] [⟨fun k => (Value.slice none 0 0).ownBlock = some k, fun w' => InsO w' w.heap.size (.slice none 0 0) ([])⟩, ⟨fun k => (Value.slice (some ⟨a292, 0, none⟩) m292 c292).ownBlock = some k, fun w' => InsO w' w.heap.size (.slice (some ⟨a292, 0, none⟩) m292 c292) ((((l1 ++ ([⟨3, ⟨#[]⟩, ⟨#[]⟩⟩] : List InsV)) ++ l2) ++ ([⟨3, ⟨#[]⟩, ⟨#[]⟩⟩] : List InsV)) ++ ([⟨4, ⟨#[]⟩, ⟨#[]⟩⟩] : List InsV))⟩, ⟨fun k => (Value.slice (some ⟨a285, 0, none⟩) m285 c285).ownBlock = some k, fun w' => InsO w' w.heap.size (.slice (some ⟨a285, 0, none⟩) m285 c285) ((((l1 ++ ([⟨3, ⟨#[]⟩, ⟨#[]⟩⟩] : List InsV)) ++ l2) ++ ([⟨3, ⟨#[]⟩, ⟨#[]⟩⟩] : List InsV)) ++ ([⟨5, ⟨#[]⟩, ⟨#[]⟩⟩] : List InsV))⟩, ⟨fun k => (Value.slice (some ⟨g16, 0, none⟩) m16 k16).ownBlock = some k, fun w' => InsO w' w.heap.size (.slice (some ⟨g16, 0, none⟩) m16 k16) (((l1 ++ ([⟨3, ⟨#[]⟩, ⟨#[]⟩⟩] : List InsV)) ++ l2) ++ ([⟨3, ⟨#[]⟩, ⟨#[]⟩⟩] : List InsV))⟩, ⟨fun k => (Value.slice (some ⟨a224, 0, none⟩) m224 c224).ownBlock = some k, fun w' => InsO w' w.heap.size (.slice (some ⟨a224, 0, none⟩) m224 c224) (l1 ++ l2)⟩, ⟨fun k => w1.heap.size ≤ k ∧ k < w2.heap.size, fun w2 => InsAt w2 (some ⟨q9, r9, none⟩) l2 ∧ LabAt w2 ea es⟩, ⟨fun k => w.heap.size ≤ k ∧ k < w1.heap.size, fun w2 => InsAt w2 (some ⟨p9, o9, none⟩) l1 ∧ LabAt w2 da ls⟩, ⟨fun k => k < w.heap.size, fun w' => Bytes w' a1 n1 ∧ Bytes w' a2 n2⟩] w293) := Sta.own0 w.heap.size 41 3 HS293
                try simp only [Act.put, List.setIfInBounds_toArray, List.set_cons_zero, List.set_cons_succ]
                go_cut [18] (fun v0 wx => v0 = .bool true ∧ Hid (Sta [] w [(w290.heap.size, [.int .i64 4, .string ⟨#[]⟩, .string ⟨#[]⟩]), (w283.heap.size, [.int .i64 5, .string ⟨#[]⟩, .string ⟨#[]⟩]), (w217.heap.size, [.int .i64 3, .string ⟨#[]⟩, .string ⟨#[]⟩])] [⟨fun k => (Value.slice (some ⟨a292, 0, none⟩) m292 c292).ownBlock = some k, fun w' => InsO w' w.heap.size (.slice (some ⟨a292, 0, none⟩) m292 c292) ((((l1 ++ ([⟨3, ⟨#[]⟩, ⟨#[]⟩⟩] : List InsV)) ++ l2) ++ ([⟨3, ⟨#[]⟩, ⟨#[]⟩⟩] : List InsV)) ++ ([⟨4, ⟨#[]⟩, ⟨#[]⟩⟩] : List InsV))⟩, ⟨fun k => (Value.slice (some ⟨a285, 0, none⟩) m285 c285).ownBlock = some k, fun w' => InsO w' w.heap.size (.slice (some ⟨a285, 0, none⟩) m285 c285) ((((l1 ++ ([⟨3, ⟨#[]⟩, ⟨#[]⟩⟩] : List InsV)) ++ l2) ++ ([⟨3, ⟨#[]⟩, ⟨#[]⟩⟩] : List InsV)) ++ ([⟨5, ⟨#[]⟩, ⟨#[]⟩⟩] : List InsV))⟩, ⟨fun k => (Value.slice (some ⟨g16, 0, none⟩) m16 k16).ownBlock = some k, fun w' => InsO w' w.heap.size (.slice (some ⟨g16, 0, none⟩) m16 k16) (((l1 ++ ([⟨3, ⟨#[]⟩, ⟨#[]⟩⟩] : List InsV)) ++ l2) ++ ([⟨3, ⟨#[]⟩, ⟨#[]⟩⟩] : List InsV))⟩, ⟨fun k => (Value.slice (some ⟨a224, 0, none⟩) m224 c224).ownBlock = some k, fun w' => InsO w' w.heap.size (.slice (some ⟨a224, 0, none⟩) m224 c224) (l1 ++ l2)⟩, ⟨fun k => w1.heap.size ≤ k ∧ k < w2.heap.size, fun w2 => InsAt w2 (some ⟨q9, r9, none⟩) l2 ∧ LabAt w2 ea es⟩, ⟨fun k => w.heap.size ≤ k ∧ k < w1.heap.size, fun w2 => InsAt w2 (some ⟨p9, o9, none⟩) l1 ∧ LabAt w2 da ls⟩, ⟨fun k => k < w.heap.size, fun w' => Bytes w' a1 n1 ∧ Bytes w' a2 n2⟩] wx))
                case first =>
                  go_wp2_with fail
                  have HS295 := Sta.drew HS294
                  refine wp_region_held_drew (S := fun w' => w'.cell? ⟨w217.heap.size, 0, none⟩ = some (.int .i64 3) ∧ w'.cell? ⟨w217.heap.size, 1, none⟩ = some (.string ⟨#[]⟩) ∧ w'.cell? ⟨w217.heap.size, 2, none⟩ = some (.string ⟨#[]⟩)) (by kernel_rfl) ⟨Sta.c (i := 2) HS295 rfl rfl, Sta.c (i := 2) HS295 rfl rfl, Sta.c (i := 2) HS295 rfl rfl⟩ (fun hHeld => ?_)
                  generalize w293.drew = w295 at *
                  refine wpAnyH_take (i := 1) (oi := ⟨_, _, _, _, _, _⟩) (v := .slice (some ⟨p9, o9, none⟩) pn pc) rfl (by kernel_rfl) (by kernel_rfl) (by kernel_rfl) (fun _ _ _ h => h) (Or.inl ⟨wanted_free rfl, fun w' hSw => ?_⟩) hHeld ?_
                  · go_simp
                  try simp only [Act.put, List.setIfInBounds_toArray, List.set_cons_zero, List.set_cons_succ]
                  refine wpAnyH_take (i := 3) (oi := ⟨_, _, _, _, _, _⟩) (v := .agg #[.int .i64 3, .string ⟨#[]⟩, .string ⟨#[]⟩]) rfl (by kernel_rfl) (by kernel_rfl) (by kernel_rfl) (fun _ _ _ h => h) (Or.inl ⟨wanted_free rfl, fun w' hSw => ?_⟩) hHeld ?_
                  · obtain ⟨s0, s1, s2⟩ := hSw
                    go_simp
                  try simp only [Act.put, List.setIfInBounds_toArray, List.set_cons_zero, List.set_cons_succ]
                  refine wpAnyH_take (i := 4) (oi := ⟨_, _, _, _, _, _⟩) (v := .agg #[.int .i64 3, .string ⟨#[]⟩, .string ⟨#[]⟩]) rfl (by kernel_rfl) (by kernel_rfl) (by kernel_rfl) (fun _ _ _ h => h) (Or.inl ⟨wanted_free rfl, fun w' hSw => ?_⟩) hHeld ?_
                  · obtain ⟨s0, s1, s2⟩ := hSw
                    go_simp
                  try simp only [Act.put, List.setIfInBounds_toArray, List.set_cons_zero, List.set_cons_succ]
                  refine wpAnyH_take (i := 7) (oi := ⟨_, _, _, _, _, _⟩) (v := .slice da dm de) rfl (by kernel_rfl) (by kernel_rfl) (by kernel_rfl) (fun _ _ _ h => h) (Or.inl ⟨wanted_free rfl, fun w' hSw => ?_⟩) hHeld ?_
                  · go_simp
                  try simp only [Act.put, List.setIfInBounds_toArray, List.set_cons_zero, List.set_cons_succ]
                  refine wpAnyH_ready (rs := [0, 5]) (by kernel_rfl) (by simp) (AllReadyH.cons (o := ⟨_, _, _, _, _, _⟩) rfl (fun K hK => ?_) (AllReadyH.cons (o := ⟨_, _, _, _, _, _⟩) rfl (fun K hK => ?_) AllReadyH.nil))
                  · as_aux_lemma =>
                    rewrite [if_pos (wanted_free rfl)]
                    with_reducible refine wp_buildIns0 (by with_unfolding_all rfl) w.heap.size (Sta.size HS295) ?_
                    intro w296 hO296 hG296
                    have HS296 := Sta.app 0 HS295 rfl (Nat.le_refl _) hO296 hG296 (Or.inr rfl)
                    clear hO296 hG296
                    refine hK.out _ _ ⟨Sta.c (i := 2) HS296 rfl rfl, Sta.c (i := 2) HS296 rfl rfl, Sta.c (i := 2) HS296 rfl rfl⟩ (fun hHeld => ?_)
                    clear hK K
                    try simp only [Act.put, List.setIfInBounds_toArray, List.set_cons_zero, List.set_cons_succ]
                    refine wpAnyH_ready (rs := [2, 5]) (by kernel_rfl) (by simp) (AllReadyH.cons (o := ⟨_, _, _, _, _, _⟩) rfl (fun K hK => ?_) (AllReadyH.cons (o := ⟨_, _, _, _, _, _⟩) rfl (fun K hK => ?_) AllReadyH.nil))
                    · as_aux_lemma =>
                      rewrite [if_pos (wanted_free rfl)]
                      with_reducible refine wp_appendInsM (W := w296) (.tmp 117) (.tmp 118) (by with_unfolding_all rfl) w.heap.size (.slice (some ⟨w295.heap.size, 0, none⟩) 0 0) ([]) p9 o9 pn pc l1 (by with_unfolding_all rfl) (Sta.t (i := 0) HS296 rfl) (by with_unfolding_all rfl) Hp1.out.1 (Sta.t (i := 6) HS296 rfl :).1 (by have hx := Hp1.out.1; have h1 := HY.out.len; have h2 := Hp1.out.1; have h3 := Hp2.out.1; simp only [List.length_append, List.length_cons, List.length_nil] at *; omega) (Sta.size HS296) ?_
                      intro v297 w297 hO297 hG297 hb297
                      obtain ⟨a297, m297, c297, hm297, rfl⟩ := InsO.formS hO297 (app_ne HN1.out)
                      have HS297 := Sta.app 0 HS296 rfl (Nat.le_refl _) hO297 hG297 hb297
                      have Hm297 := hidP hm297
                      clear hO297 hG297 hb297 hm297
                      refine hK.out _ _ ⟨Sta.c (i := 2) HS297 rfl rfl, Sta.c (i := 2) HS297 rfl rfl, Sta.c (i := 2) HS297 rfl rfl⟩ (fun hHeld => ?_)
                      clear hK K
                      try simp only [Act.put, List.setIfInBounds_toArray, List.set_cons_zero, List.set_cons_succ]
                      refine wpAnyH_ready (rs := [5]) (by kernel_rfl) (by simp) (AllReadyH.cons (o := ⟨_, _, _, _, _, _⟩) rfl (fun K hK => ?_) AllReadyH.nil)
                      rewrite [if_pos (wanted_free rfl)]
                      with_reducible refine wp_buildIns2 (.tmp 120) (.tmp 121) (by with_unfolding_all rfl) 3 (⟨#[]⟩) (⟨#[]⟩) 3 (⟨#[]⟩) (⟨#[]⟩) (by with_unfolding_all rfl) (by with_unfolding_all rfl) ?_
                      intro w298 hA298 hB298
                      have HS298 := Sta.new HS297 hA298 hB298 (by simp)
                      clear hA298 hB298
                      refine hK.out _ _ ⟨Sta.c (i := 3) HS298 rfl rfl, Sta.c (i := 3) HS298 rfl rfl, Sta.c (i := 3) HS298 rfl rfl⟩ (fun hHeld => ?_)
                      clear hK K
                      try simp only [Act.put, List.setIfInBounds_toArray, List.set_cons_zero, List.set_cons_succ]
                      refine wpAnyH_ready (rs := [6]) (by kernel_rfl) (by simp) (AllReadyH.cons (o := ⟨_, _, _, _, _, _⟩) rfl (fun K hK => ?_) AllReadyH.nil)
                      rewrite [if_pos (wanted_free rfl)]
                      with_reducible refine wp_appendInsM (W := w298) (.tmp 119) (.tmp 122) (by with_unfolding_all rfl) w.heap.size (.slice (some ⟨a297, 0, none⟩) m297 c297) l1 w297.heap.size 0 2 2 ([⟨3, ⟨#[]⟩, ⟨#[]⟩⟩, ⟨3, ⟨#[]⟩, ⟨#[]⟩⟩] : List InsV) (by with_unfolding_all rfl) (Sta.t (i := 0) HS298 rfl) (by with_unfolding_all rfl) rfl (RowV.ins (l := [⟨3, ⟨#[]⟩, ⟨#[]⟩⟩, ⟨3, ⟨#[]⟩, ⟨#[]⟩⟩]) (Sta.r (i := 0) HS298 (by with_unfolding_all rfl))) (by have hx := True.intro; have h1 := HY.out.len; have h2 := Hp1.out.1; have h3 := Hp2.out.1; simp only [List.length_append, List.length_cons, List.length_nil] at *; omega) (Sta.size HS298) ?_
                      intro v299 w299 hO299 hG299 hb299
                      obtain ⟨a299, m299, c299, hm299, rfl⟩ := InsO.formS hO299 (app_ne (by simp))
                      have HS299 := Sta.app 0 HS298 rfl (Nat.le_refl _) hO299 hG299 hb299
                      have Hm299 := hidP hm299
                      clear hO299 hG299 hb299 hm299
                      refine hK.out _ _ ⟨Sta.c (i := 3) HS299 rfl rfl, Sta.c (i := 3) HS299 rfl rfl, Sta.c (i := 3) HS299 rfl rfl⟩ (fun hHeld => ?_)
                      clear hK K
                      try simp only [Act.put, List.setIfInBounds_toArray, List.set_cons_zero, List.set_cons_succ]
                      refine wpAnyH_ready (rs := [8]) (by kernel_rfl) (by simp) (AllReadyH.cons (o := ⟨_, _, _, _, _, _⟩) rfl (fun K hK => ?_) AllReadyH.nil)
                      rewrite [if_pos (wanted_free rfl)]
                      go_simp
                      have n300_0 : InsAt w299 (some ⟨a299, 0, none⟩) (l1 ++ ([⟨3, ⟨#[]⟩, ⟨#[]⟩⟩, ⟨3, ⟨#[]⟩, ⟨#[]⟩⟩] : List InsV)) := (InsO.row (Sta.t (i := 0) HS299 rfl)).1.ins
                      have n300_1 : LabAt w299 da ls := (Sta.t (i := 6) HS299 rfl :).2
                      have n300_2 : ls.length = dm ∧ dm ≤ 100 := (And.intro Hp1.out.2.2.2.1 Hp1.out.2.2.2.2.1)
                      have n300_3 : (l1 ++ ([⟨3, ⟨#[]⟩, ⟨#[]⟩⟩, ⟨3, ⟨#[]⟩, ⟨#[]⟩⟩] : List InsV)).length = m299 ∧ m299 ≤ 100 ∧ (∀ x ∈ (l1 ++ ([⟨3, ⟨#[]⟩, ⟨#[]⟩⟩, ⟨3, ⟨#[]⟩, ⟨#[]⟩⟩] : List InsV)), x.w) := (len_w Hm299.out (by have h1 := HY.out.len; simp; omega) (w_app Hp1.out.2.2.1 (w_two w_3 w_3)))
                      have n300_4 : evalN (l1 ++ ([⟨3, ⟨#[]⟩, ⟨#[]⟩⟩, ⟨3, ⟨#[]⟩, ⟨#[]⟩⟩] : List InsV)) ls = true := (HY.out.w)
                      (with_reducible refine (hC48 w299 l1 da dm de ls a299 m299 c299 n300_0 n300_1 n300_2 n300_3 n300_4).mono ?_)
                      rintro r w300 ⟨rfl, hB300⟩
                      have HS300 := Sta.call HS299 hB300
                      clear hB300
                      go_wp2_with fail
                      refine hK.out _ _ ⟨Sta.c (i := 3) HS300 rfl rfl, Sta.c (i := 3) HS300 rfl rfl, Sta.c (i := 3) HS300 rfl rfl⟩ (fun hHeld => ?_)
                      clear hK K
                      try simp only [Act.put, List.setIfInBounds_toArray, List.set_cons_zero, List.set_cons_succ]
                      refine wpAnyH_take (i := 9) (oi := ⟨_, _, _, _, _, _⟩) (v := .bool true) rfl (by kernel_rfl) (by kernel_rfl) (by kernel_rfl) (fun _ _ _ h => h) (Or.inl ⟨wanted_free rfl, fun w' hSw => ?_⟩) hHeld ?_
                      · go_simp
                      try simp only [Act.put, List.setIfInBounds_toArray, List.set_cons_zero, List.set_cons_succ]
                      refine wpAnyH_done (by kernel_rfl) ?_ _
                      clear hHeld
                      go_wp2_with fail
                      go_meet
                      exact ⟨rfl, Sta.drop 1 1 HS300⟩
                    · as_aux_lemma =>
                      rewrite [if_pos (wanted_free rfl)]
                      with_reducible refine wp_buildIns2 (.tmp 120) (.tmp 121) (by with_unfolding_all rfl) 3 (⟨#[]⟩) (⟨#[]⟩) 3 (⟨#[]⟩) (⟨#[]⟩) (by with_unfolding_all rfl) (by with_unfolding_all rfl) ?_
                      intro w301 hA301 hB301
                      have HS301 := Sta.new HS296 hA301 hB301 (by simp)
                      clear hA301 hB301
                      refine hK.out _ _ ⟨Sta.c (i := 3) HS301 rfl rfl, Sta.c (i := 3) HS301 rfl rfl, Sta.c (i := 3) HS301 rfl rfl⟩ (fun hHeld => ?_)
                      clear hK K
                      try simp only [Act.put, List.setIfInBounds_toArray, List.set_cons_zero, List.set_cons_succ]
                      refine wpAnyH_ready (rs := [2]) (by kernel_rfl) (by simp) (AllReadyH.cons (o := ⟨_, _, _, _, _, _⟩) rfl (fun K hK => ?_) AllReadyH.nil)
                      rewrite [if_pos (wanted_free rfl)]
                      with_reducible refine wp_appendInsM (W := w301) (.tmp 117) (.tmp 118) (by with_unfolding_all rfl) w.heap.size (.slice (some ⟨w295.heap.size, 0, none⟩) 0 0) ([]) p9 o9 pn pc l1 (by with_unfolding_all rfl) (Sta.t (i := 0) HS301 rfl) (by with_unfolding_all rfl) Hp1.out.1 (Sta.t (i := 6) HS301 rfl :).1 (by have hx := Hp1.out.1; have h1 := HY.out.len; have h2 := Hp1.out.1; have h3 := Hp2.out.1; simp only [List.length_append, List.length_cons, List.length_nil] at *; omega) (Sta.size HS301) ?_
                      intro v302 w302 hO302 hG302 hb302
                      obtain ⟨a302, m302, c302, hm302, rfl⟩ := InsO.formS hO302 (app_ne HN1.out)
                      have HS302 := Sta.app 0 HS301 rfl (Nat.le_refl _) hO302 hG302 hb302
                      have Hm302 := hidP hm302
                      clear hO302 hG302 hb302 hm302
                      refine hK.out _ _ ⟨Sta.c (i := 3) HS302 rfl rfl, Sta.c (i := 3) HS302 rfl rfl, Sta.c (i := 3) HS302 rfl rfl⟩ (fun hHeld => ?_)
                      clear hK K
                      try simp only [Act.put, List.setIfInBounds_toArray, List.set_cons_zero, List.set_cons_succ]
                      refine wpAnyH_ready (rs := [6]) (by kernel_rfl) (by simp) (AllReadyH.cons (o := ⟨_, _, _, _, _, _⟩) rfl (fun K hK => ?_) AllReadyH.nil)
                      rewrite [if_pos (wanted_free rfl)]
                      with_reducible refine wp_appendInsM (W := w302) (.tmp 119) (.tmp 122) (by with_unfolding_all rfl) w.heap.size (.slice (some ⟨a302, 0, none⟩) m302 c302) l1 w296.heap.size 0 2 2 ([⟨3, ⟨#[]⟩, ⟨#[]⟩⟩, ⟨3, ⟨#[]⟩, ⟨#[]⟩⟩] : List InsV) (by with_unfolding_all rfl) (Sta.t (i := 0) HS302 rfl) (by with_unfolding_all rfl) rfl (RowV.ins (l := [⟨3, ⟨#[]⟩, ⟨#[]⟩⟩, ⟨3, ⟨#[]⟩, ⟨#[]⟩⟩]) (Sta.r (i := 0) HS302 (by with_unfolding_all rfl))) (by have hx := True.intro; have h1 := HY.out.len; have h2 := Hp1.out.1; have h3 := Hp2.out.1; simp only [List.length_append, List.length_cons, List.length_nil] at *; omega) (Sta.size HS302) ?_
                      intro v303 w303 hO303 hG303 hb303
                      obtain ⟨a303, m303, c303, hm303, rfl⟩ := InsO.formS hO303 (app_ne (by simp))
                      have HS303 := Sta.app 0 HS302 rfl (Nat.le_refl _) hO303 hG303 hb303
                      have Hm303 := hidP hm303
                      clear hO303 hG303 hb303 hm303
                      refine hK.out _ _ ⟨Sta.c (i := 3) HS303 rfl rfl, Sta.c (i := 3) HS303 rfl rfl, Sta.c (i := 3) HS303 rfl rfl⟩ (fun hHeld => ?_)
                      clear hK K
                      try simp only [Act.put, List.setIfInBounds_toArray, List.set_cons_zero, List.set_cons_succ]
                      refine wpAnyH_ready (rs := [8]) (by kernel_rfl) (by simp) (AllReadyH.cons (o := ⟨_, _, _, _, _, _⟩) rfl (fun K hK => ?_) AllReadyH.nil)
                      rewrite [if_pos (wanted_free rfl)]
                      go_simp
                      have n304_0 : InsAt w303 (some ⟨a303, 0, none⟩) (l1 ++ ([⟨3, ⟨#[]⟩, ⟨#[]⟩⟩, ⟨3, ⟨#[]⟩, ⟨#[]⟩⟩] : List InsV)) := (InsO.row (Sta.t (i := 0) HS303 rfl)).1.ins
                      have n304_1 : LabAt w303 da ls := (Sta.t (i := 6) HS303 rfl :).2
                      have n304_2 : ls.length = dm ∧ dm ≤ 100 := (And.intro Hp1.out.2.2.2.1 Hp1.out.2.2.2.2.1)
                      have n304_3 : (l1 ++ ([⟨3, ⟨#[]⟩, ⟨#[]⟩⟩, ⟨3, ⟨#[]⟩, ⟨#[]⟩⟩] : List InsV)).length = m303 ∧ m303 ≤ 100 ∧ (∀ x ∈ (l1 ++ ([⟨3, ⟨#[]⟩, ⟨#[]⟩⟩, ⟨3, ⟨#[]⟩, ⟨#[]⟩⟩] : List InsV)), x.w) := (len_w Hm303.out (by have h1 := HY.out.len; simp; omega) (w_app Hp1.out.2.2.1 (w_two w_3 w_3)))
                      have n304_4 : evalN (l1 ++ ([⟨3, ⟨#[]⟩, ⟨#[]⟩⟩, ⟨3, ⟨#[]⟩, ⟨#[]⟩⟩] : List InsV)) ls = true := (HY.out.w)
                      (with_reducible refine (hC49 w303 l1 da dm de ls a303 m303 c303 n304_0 n304_1 n304_2 n304_3 n304_4).mono ?_)
                      rintro r w304 ⟨rfl, hB304⟩
                      have HS304 := Sta.call HS303 hB304
                      clear hB304
                      go_wp2_with fail
                      refine hK.out _ _ ⟨Sta.c (i := 3) HS304 rfl rfl, Sta.c (i := 3) HS304 rfl rfl, Sta.c (i := 3) HS304 rfl rfl⟩ (fun hHeld => ?_)
                      clear hK K
                      try simp only [Act.put, List.setIfInBounds_toArray, List.set_cons_zero, List.set_cons_succ]
                      refine wpAnyH_take (i := 9) (oi := ⟨_, _, _, _, _, _⟩) (v := .bool true) rfl (by kernel_rfl) (by kernel_rfl) (by kernel_rfl) (fun _ _ _ h => h) (Or.inl ⟨wanted_free rfl, fun w' hSw => ?_⟩) hHeld ?_
                      · go_simp
                      try simp only [Act.put, List.setIfInBounds_toArray, List.set_cons_zero, List.set_cons_succ]
                      refine wpAnyH_done (by kernel_rfl) ?_ _
                      clear hHeld
                      go_wp2_with fail
                      go_meet
                      exact ⟨rfl, Sta.drop 1 1 HS304⟩
                  · as_aux_lemma =>
                    rewrite [if_pos (wanted_free rfl)]
                    with_reducible refine wp_buildIns2 (.tmp 120) (.tmp 121) (by with_unfolding_all rfl) 3 (⟨#[]⟩) (⟨#[]⟩) 3 (⟨#[]⟩) (⟨#[]⟩) (by with_unfolding_all rfl) (by with_unfolding_all rfl) ?_
                    intro w305 hA305 hB305
                    have HS305 := Sta.new HS295 hA305 hB305 (by simp)
                    clear hA305 hB305
                    refine hK.out _ _ ⟨Sta.c (i := 3) HS305 rfl rfl, Sta.c (i := 3) HS305 rfl rfl, Sta.c (i := 3) HS305 rfl rfl⟩ (fun hHeld => ?_)
                    clear hK K
                    try simp only [Act.put, List.setIfInBounds_toArray, List.set_cons_zero, List.set_cons_succ]
                    refine wpAnyH_ready (rs := [0]) (by kernel_rfl) (by simp) (AllReadyH.cons (o := ⟨_, _, _, _, _, _⟩) rfl (fun K hK => ?_) AllReadyH.nil)
                    rewrite [if_pos (wanted_free rfl)]
                    with_reducible refine wp_buildIns0 (by with_unfolding_all rfl) w.heap.size (Sta.size HS305) ?_
                    intro w306 hO306 hG306
                    have HS306 := Sta.app 0 HS305 rfl (Nat.le_refl _) hO306 hG306 (Or.inr rfl)
                    clear hO306 hG306
                    refine hK.out _ _ ⟨Sta.c (i := 3) HS306 rfl rfl, Sta.c (i := 3) HS306 rfl rfl, Sta.c (i := 3) HS306 rfl rfl⟩ (fun hHeld => ?_)
                    clear hK K
                    try simp only [Act.put, List.setIfInBounds_toArray, List.set_cons_zero, List.set_cons_succ]
                    refine wpAnyH_ready (rs := [2]) (by kernel_rfl) (by simp) (AllReadyH.cons (o := ⟨_, _, _, _, _, _⟩) rfl (fun K hK => ?_) AllReadyH.nil)
                    rewrite [if_pos (wanted_free rfl)]
                    with_reducible refine wp_appendInsM (W := w306) (.tmp 117) (.tmp 118) (by with_unfolding_all rfl) w.heap.size (.slice (some ⟨w305.heap.size, 0, none⟩) 0 0) ([]) p9 o9 pn pc l1 (by with_unfolding_all rfl) (Sta.t (i := 0) HS306 rfl) (by with_unfolding_all rfl) Hp1.out.1 (Sta.t (i := 6) HS306 rfl :).1 (by have hx := Hp1.out.1; have h1 := HY.out.len; have h2 := Hp1.out.1; have h3 := Hp2.out.1; simp only [List.length_append, List.length_cons, List.length_nil] at *; omega) (Sta.size HS306) ?_
                    intro v307 w307 hO307 hG307 hb307
                    obtain ⟨a307, m307, c307, hm307, rfl⟩ := InsO.formS hO307 (app_ne HN1.out)
                    have HS307 := Sta.app 0 HS306 rfl (Nat.le_refl _) hO307 hG307 hb307
                    have Hm307 := hidP hm307
                    clear hO307 hG307 hb307 hm307
                    refine hK.out _ _ ⟨Sta.c (i := 3) HS307 rfl rfl, Sta.c (i := 3) HS307 rfl rfl, Sta.c (i := 3) HS307 rfl rfl⟩ (fun hHeld => ?_)
                    clear hK K
                    try simp only [Act.put, List.setIfInBounds_toArray, List.set_cons_zero, List.set_cons_succ]
                    refine wpAnyH_ready (rs := [6]) (by kernel_rfl) (by simp) (AllReadyH.cons (o := ⟨_, _, _, _, _, _⟩) rfl (fun K hK => ?_) AllReadyH.nil)
                    rewrite [if_pos (wanted_free rfl)]
                    with_reducible refine wp_appendInsM (W := w307) (.tmp 119) (.tmp 122) (by with_unfolding_all rfl) w.heap.size (.slice (some ⟨a307, 0, none⟩) m307 c307) l1 w295.heap.size 0 2 2 ([⟨3, ⟨#[]⟩, ⟨#[]⟩⟩, ⟨3, ⟨#[]⟩, ⟨#[]⟩⟩] : List InsV) (by with_unfolding_all rfl) (Sta.t (i := 0) HS307 rfl) (by with_unfolding_all rfl) rfl (RowV.ins (l := [⟨3, ⟨#[]⟩, ⟨#[]⟩⟩, ⟨3, ⟨#[]⟩, ⟨#[]⟩⟩]) (Sta.r (i := 0) HS307 (by with_unfolding_all rfl))) (by have hx := True.intro; have h1 := HY.out.len; have h2 := Hp1.out.1; have h3 := Hp2.out.1; simp only [List.length_append, List.length_cons, List.length_nil] at *; omega) (Sta.size HS307) ?_
                    intro v308 w308 hO308 hG308 hb308
                    obtain ⟨a308, m308, c308, hm308, rfl⟩ := InsO.formS hO308 (app_ne (by simp))
                    have HS308 := Sta.app 0 HS307 rfl (Nat.le_refl _) hO308 hG308 hb308
                    have Hm308 := hidP hm308
                    clear hO308 hG308 hb308 hm308
                    refine hK.out _ _ ⟨Sta.c (i := 3) HS308 rfl rfl, Sta.c (i := 3) HS308 rfl rfl, Sta.c (i := 3) HS308 rfl rfl⟩ (fun hHeld => ?_)
                    clear hK K
                    try simp only [Act.put, List.setIfInBounds_toArray, List.set_cons_zero, List.set_cons_succ]
                    refine wpAnyH_ready (rs := [8]) (by kernel_rfl) (by simp) (AllReadyH.cons (o := ⟨_, _, _, _, _, _⟩) rfl (fun K hK => ?_) AllReadyH.nil)
                    rewrite [if_pos (wanted_free rfl)]
                    go_simp
                    have n309_0 : InsAt w308 (some ⟨a308, 0, none⟩) (l1 ++ ([⟨3, ⟨#[]⟩, ⟨#[]⟩⟩, ⟨3, ⟨#[]⟩, ⟨#[]⟩⟩] : List InsV)) := (InsO.row (Sta.t (i := 0) HS308 rfl)).1.ins
                    have n309_1 : LabAt w308 da ls := (Sta.t (i := 6) HS308 rfl :).2
                    have n309_2 : ls.length = dm ∧ dm ≤ 100 := (And.intro Hp1.out.2.2.2.1 Hp1.out.2.2.2.2.1)
                    have n309_3 : (l1 ++ ([⟨3, ⟨#[]⟩, ⟨#[]⟩⟩, ⟨3, ⟨#[]⟩, ⟨#[]⟩⟩] : List InsV)).length = m308 ∧ m308 ≤ 100 ∧ (∀ x ∈ (l1 ++ ([⟨3, ⟨#[]⟩, ⟨#[]⟩⟩, ⟨3, ⟨#[]⟩, ⟨#[]⟩⟩] : List InsV)), x.w) := (len_w Hm308.out (by have h1 := HY.out.len; simp; omega) (w_app Hp1.out.2.2.1 (w_two w_3 w_3)))
                    have n309_4 : evalN (l1 ++ ([⟨3, ⟨#[]⟩, ⟨#[]⟩⟩, ⟨3, ⟨#[]⟩, ⟨#[]⟩⟩] : List InsV)) ls = true := (HY.out.w)
                    (with_reducible refine (hC50 w308 l1 da dm de ls a308 m308 c308 n309_0 n309_1 n309_2 n309_3 n309_4).mono ?_)
                    rintro r w309 ⟨rfl, hB309⟩
                    have HS309 := Sta.call HS308 hB309
                    clear hB309
                    go_wp2_with fail
                    refine hK.out _ _ ⟨Sta.c (i := 3) HS309 rfl rfl, Sta.c (i := 3) HS309 rfl rfl, Sta.c (i := 3) HS309 rfl rfl⟩ (fun hHeld => ?_)
                    clear hK K
                    try simp only [Act.put, List.setIfInBounds_toArray, List.set_cons_zero, List.set_cons_succ]
                    refine wpAnyH_take (i := 9) (oi := ⟨_, _, _, _, _, _⟩) (v := .bool true) rfl (by kernel_rfl) (by kernel_rfl) (by kernel_rfl) (fun _ _ _ h => h) (Or.inl ⟨wanted_free rfl, fun w' hSw => ?_⟩) hHeld ?_
                    · go_simp
                    try simp only [Act.put, List.setIfInBounds_toArray, List.set_cons_zero, List.set_cons_succ]
                    refine wpAnyH_done (by kernel_rfl) ?_ _
                    clear hHeld
                    go_wp2_with fail
                    go_meet
                    exact ⟨rfl, Sta.drop 1 1 HS309⟩
                case rest =>
                  obtain ⟨rfl, HS310⟩ := hcut
                  rename Go.World => wl310
                  go_wp2_with fail
                  go_ret
                  exact ⟨rfl, Sta.fin HS310⟩
end Go.Proofs.Ytaalegjhhpfhbaa
