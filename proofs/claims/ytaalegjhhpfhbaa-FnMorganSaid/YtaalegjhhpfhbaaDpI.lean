/- A branch of the law FnMorgan. -/
import Derived.Test.YtaalegjhhpfhbaaDpH
import Derived.Deep.RegionHeld3
import Derived.Deep.DeepCutAuto
import Derived.Deep.CutRange
namespace Go.Proofs.Ytaalegjhhpfhbaa
open Go.RowKit
set_option linter.unusedVariables false

set_option maxRecDepth 100000 in
set_option maxHeartbeats 64000000 in
theorem morgQ0 (a1 : Option Addr) (n1 c1 : Nat) (a2 : Option Addr) (n2 c2 : Nat) (w : World) (hn1 : n1 ≤ 9223372036854775807) (hn2 : n2 ≤ 9223372036854775807) : (morgPack a1 n1 c1 a2 n2 c2 w hn1 hn2).q0 := by
  skip
  have hC10 : ∀ w0 (pn : Nat) (pc : Nat) (l1 : List InsV) (da : Option Addr) (dm : Nat) (de : Nat) (ls : List LabV) (p9 : Nat) (o9 : Nat), (InsAt w0 (some ⟨p9, o9, none⟩) l1) → (LabAt w0 da ls) → (ls.length = dm ∧ dm ≤ 100) → (l1.length = pn ∧ pn ≤ 100 ∧ (∀ x ∈ l1, x.w)) → (evalN l1 ls = false) → Calls Try.prog 19 #[.slice (some ⟨p9, o9, none⟩) pn pc, .slice da dm de] w0 fun r w' => r = .returned (.bool false) ∧ Below w0.heap.size w0 w' := fun w0 pn pc l1 da dm de ls p9 o9 n0 n1 n2 n3 n4 => by rw [← n4]; exact implPolE (some ⟨p9, o9, none⟩) pc pn l1 da de dm ls w0 n3.1 n0 (Nat.le_trans n3.2.1 (by decide)) n3.2.2 n2.1 n1 (Nat.le_trans n2.2 (by decide))
  have hC11 : ∀ w0 (da : Option Addr) (dm : Nat) (de : Nat) (ls : List LabV) (qn : Nat) (qc : Nat) (l2 : List InsV) (q9 : Nat) (r9 : Nat), (InsAt w0 (some ⟨q9, r9, none⟩) l2) → (LabAt w0 da ls) → (ls.length = dm ∧ dm ≤ 100) → (l2.length = qn ∧ qn ≤ 100 ∧ (∀ x ∈ l2, x.w)) → (evalN l2 ls = false) → Calls Try.prog 19 #[.slice (some ⟨q9, r9, none⟩) qn qc, .slice da dm de] w0 fun r w' => r = .returned (.bool false) ∧ Below w0.heap.size w0 w' := fun w0 da dm de ls qn qc l2 q9 r9 n0 n1 n2 n3 n4 => by rw [← n4]; exact implPolE (some ⟨q9, r9, none⟩) qc qn l2 da de dm ls w0 n3.1 n0 (Nat.le_trans n3.2.1 (by decide)) n3.2.2 n2.1 n1 (Nat.le_trans n2.2 (by decide))
  have hC12 : ∀ w0 (pn : Nat) (pc : Nat) (l1 : List InsV) (da : Option Addr) (dm : Nat) (de : Nat) (ls : List LabV) (p9 : Nat) (o9 : Nat), (InsAt w0 (some ⟨p9, o9, none⟩) l1) → (LabAt w0 da ls) → (ls.length = dm ∧ dm ≤ 100) → (l1.length = pn ∧ pn ≤ 100 ∧ (∀ x ∈ l1, x.w)) → (evalN l1 ls = false) → Calls Try.prog 17 #[.slice (some ⟨p9, o9, none⟩) pn pc, .slice da dm de] w0 fun r w' => r = .returned (.bool false) ∧ Below w0.heap.size w0 w' := fun w0 pn pc l1 da dm de ls p9 o9 n0 n1 n2 n3 n4 => by rw [← n4]; exact specPolE (some ⟨p9, o9, none⟩) pc pn l1 da de dm ls w0 n3.1 n0 (Nat.le_trans n3.2.1 (by decide)) n3.2.2 n2.1 n1 (Nat.le_trans n2.2 (by decide))
  have hC13 : ∀ w0 (pn : Nat) (pc : Nat) (l1 : List InsV) (y1 : Nd) (p9 : Nat) (o9 : Nat), (InsAt w0 (some ⟨p9, o9, none⟩) l1) → (l1.length = pn ∧ pn ≤ 100 ∧ (∀ x ∈ l1, x.w)) → (nodeN l1 = some y1) → Calls Try.prog 12 #[.slice (some ⟨p9, o9, none⟩) pn pc] w0 fun r w' => r = .returned (.bool true) ∧ Below w0.heap.size w0 w' := fun w0 pn pc l1 y1 p9 o9 n0 n1 n2 => by have hh := specPolR (some ⟨p9, o9, none⟩) pc pn l1 w0 n1.1 n0 (Nat.le_trans n1.2.1 (by decide)) n1.2.2; rw [n2] at hh; exact hh
  have hC14 : ∀ w0 (qn : Nat) (qc : Nat) (l2 : List InsV) (y2 : Nd) (q9 : Nat) (r9 : Nat), (InsAt w0 (some ⟨q9, r9, none⟩) l2) → (l2.length = qn ∧ qn ≤ 100 ∧ (∀ x ∈ l2, x.w)) → (nodeN l2 = some y2) → Calls Try.prog 12 #[.slice (some ⟨q9, r9, none⟩) qn qc] w0 fun r w' => r = .returned (.bool true) ∧ Below w0.heap.size w0 w' := fun w0 qn qc l2 y2 q9 r9 n0 n1 n2 => by have hh := specPolR (some ⟨q9, r9, none⟩) qc qn l2 w0 n1.1 n0 (Nat.le_trans n1.2.1 (by decide)) n1.2.2; rw [n2] at hh; exact hh
  have hC15 : ∀ w0 (l1 : List InsV) (da : Option Addr) (dm : Nat) (de : Nat) (ls : List LabV) (l2 : List InsV) (a34 : Nat) (m34 : Nat) (c34 : Nat), (InsAt w0 (some ⟨a34, 0, none⟩) ((l1 ++ l2) ++ ([⟨4, ⟨#[]⟩, ⟨#[]⟩⟩, ⟨3, ⟨#[]⟩, ⟨#[]⟩⟩] : List InsV))) → (LabAt w0 da ls) → (ls.length = dm ∧ dm ≤ 100) → (((l1 ++ l2) ++ ([⟨4, ⟨#[]⟩, ⟨#[]⟩⟩, ⟨3, ⟨#[]⟩, ⟨#[]⟩⟩] : List InsV)).length = m34 ∧ m34 ≤ 100 ∧ (∀ x ∈ ((l1 ++ l2) ++ ([⟨4, ⟨#[]⟩, ⟨#[]⟩⟩, ⟨3, ⟨#[]⟩, ⟨#[]⟩⟩] : List InsV)), x.w)) → (evalN ((l1 ++ l2) ++ ([⟨4, ⟨#[]⟩, ⟨#[]⟩⟩, ⟨3, ⟨#[]⟩, ⟨#[]⟩⟩] : List InsV)) ls = true) → Calls Try.prog 19 #[.slice (some ⟨a34, 0, none⟩) m34 c34, .slice da dm de] w0 fun r w' => r = .returned (.bool true) ∧ Below w0.heap.size w0 w' := fun w0 l1 da dm de ls l2 a34 m34 c34 n0 n1 n2 n3 n4 => by rw [← n4]; exact implPolE (some ⟨a34, 0, none⟩) c34 m34 ((l1 ++ l2) ++ ([⟨4, ⟨#[]⟩, ⟨#[]⟩⟩, ⟨3, ⟨#[]⟩, ⟨#[]⟩⟩] : List InsV)) da de dm ls w0 n3.1 n0 (Nat.le_trans n3.2.1 (by decide)) n3.2.2 n2.1 n1 (Nat.le_trans n2.2 (by decide))
  have hC16 : ∀ w0 (l1 : List InsV) (da : Option Addr) (dm : Nat) (de : Nat) (ls : List LabV) (l2 : List InsV) (a38 : Nat) (m38 : Nat) (c38 : Nat), (InsAt w0 (some ⟨a38, 0, none⟩) ((l1 ++ l2) ++ ([⟨4, ⟨#[]⟩, ⟨#[]⟩⟩, ⟨3, ⟨#[]⟩, ⟨#[]⟩⟩] : List InsV))) → (LabAt w0 da ls) → (ls.length = dm ∧ dm ≤ 100) → (((l1 ++ l2) ++ ([⟨4, ⟨#[]⟩, ⟨#[]⟩⟩, ⟨3, ⟨#[]⟩, ⟨#[]⟩⟩] : List InsV)).length = m38 ∧ m38 ≤ 100 ∧ (∀ x ∈ ((l1 ++ l2) ++ ([⟨4, ⟨#[]⟩, ⟨#[]⟩⟩, ⟨3, ⟨#[]⟩, ⟨#[]⟩⟩] : List InsV)), x.w)) → (evalN ((l1 ++ l2) ++ ([⟨4, ⟨#[]⟩, ⟨#[]⟩⟩, ⟨3, ⟨#[]⟩, ⟨#[]⟩⟩] : List InsV)) ls = true) → Calls Try.prog 19 #[.slice (some ⟨a38, 0, none⟩) m38 c38, .slice da dm de] w0 fun r w' => r = .returned (.bool true) ∧ Below w0.heap.size w0 w' := fun w0 l1 da dm de ls l2 a38 m38 c38 n0 n1 n2 n3 n4 => by rw [← n4]; exact implPolE (some ⟨a38, 0, none⟩) c38 m38 ((l1 ++ l2) ++ ([⟨4, ⟨#[]⟩, ⟨#[]⟩⟩, ⟨3, ⟨#[]⟩, ⟨#[]⟩⟩] : List InsV)) da de dm ls w0 n3.1 n0 (Nat.le_trans n3.2.1 (by decide)) n3.2.2 n2.1 n1 (Nat.le_trans n2.2 (by decide))
  have hC17 : ∀ w0 (l1 : List InsV) (da : Option Addr) (dm : Nat) (de : Nat) (ls : List LabV) (l2 : List InsV) (a43 : Nat) (m43 : Nat) (c43 : Nat), (InsAt w0 (some ⟨a43, 0, none⟩) ((l1 ++ l2) ++ ([⟨4, ⟨#[]⟩, ⟨#[]⟩⟩, ⟨3, ⟨#[]⟩, ⟨#[]⟩⟩] : List InsV))) → (LabAt w0 da ls) → (ls.length = dm ∧ dm ≤ 100) → (((l1 ++ l2) ++ ([⟨4, ⟨#[]⟩, ⟨#[]⟩⟩, ⟨3, ⟨#[]⟩, ⟨#[]⟩⟩] : List InsV)).length = m43 ∧ m43 ≤ 100 ∧ (∀ x ∈ ((l1 ++ l2) ++ ([⟨4, ⟨#[]⟩, ⟨#[]⟩⟩, ⟨3, ⟨#[]⟩, ⟨#[]⟩⟩] : List InsV)), x.w)) → (evalN ((l1 ++ l2) ++ ([⟨4, ⟨#[]⟩, ⟨#[]⟩⟩, ⟨3, ⟨#[]⟩, ⟨#[]⟩⟩] : List InsV)) ls = true) → Calls Try.prog 19 #[.slice (some ⟨a43, 0, none⟩) m43 c43, .slice da dm de] w0 fun r w' => r = .returned (.bool true) ∧ Below w0.heap.size w0 w' := fun w0 l1 da dm de ls l2 a43 m43 c43 n0 n1 n2 n3 n4 => by rw [← n4]; exact implPolE (some ⟨a43, 0, none⟩) c43 m43 ((l1 ++ l2) ++ ([⟨4, ⟨#[]⟩, ⟨#[]⟩⟩, ⟨3, ⟨#[]⟩, ⟨#[]⟩⟩] : List InsV)) da de dm ls w0 n3.1 n0 (Nat.le_trans n3.2.1 (by decide)) n3.2.2 n2.1 n1 (Nat.le_trans n2.2 (by decide))
  have hC18 : ∀ w0 (l1 : List InsV) (da : Option Addr) (dm : Nat) (de : Nat) (ls : List LabV) (l2 : List InsV) (a51 : Nat) (m51 : Nat) (c51 : Nat), (InsAt w0 (some ⟨a51, 0, none⟩) ((l1 ++ l2) ++ ([⟨5, ⟨#[]⟩, ⟨#[]⟩⟩, ⟨3, ⟨#[]⟩, ⟨#[]⟩⟩] : List InsV))) → (LabAt w0 da ls) → (ls.length = dm ∧ dm ≤ 100) → (((l1 ++ l2) ++ ([⟨5, ⟨#[]⟩, ⟨#[]⟩⟩, ⟨3, ⟨#[]⟩, ⟨#[]⟩⟩] : List InsV)).length = m51 ∧ m51 ≤ 100 ∧ (∀ x ∈ ((l1 ++ l2) ++ ([⟨5, ⟨#[]⟩, ⟨#[]⟩⟩, ⟨3, ⟨#[]⟩, ⟨#[]⟩⟩] : List InsV)), x.w)) → (evalN ((l1 ++ l2) ++ ([⟨5, ⟨#[]⟩, ⟨#[]⟩⟩, ⟨3, ⟨#[]⟩, ⟨#[]⟩⟩] : List InsV)) ls = true) → Calls Try.prog 19 #[.slice (some ⟨a51, 0, none⟩) m51 c51, .slice da dm de] w0 fun r w' => r = .returned (.bool true) ∧ Below w0.heap.size w0 w' := fun w0 l1 da dm de ls l2 a51 m51 c51 n0 n1 n2 n3 n4 => by rw [← n4]; exact implPolE (some ⟨a51, 0, none⟩) c51 m51 ((l1 ++ l2) ++ ([⟨5, ⟨#[]⟩, ⟨#[]⟩⟩, ⟨3, ⟨#[]⟩, ⟨#[]⟩⟩] : List InsV)) da de dm ls w0 n3.1 n0 (Nat.le_trans n3.2.1 (by decide)) n3.2.2 n2.1 n1 (Nat.le_trans n2.2 (by decide))
  have hC19 : ∀ w0 (l1 : List InsV) (da : Option Addr) (dm : Nat) (de : Nat) (ls : List LabV) (l2 : List InsV) (a55 : Nat) (m55 : Nat) (c55 : Nat), (InsAt w0 (some ⟨a55, 0, none⟩) ((l1 ++ l2) ++ ([⟨5, ⟨#[]⟩, ⟨#[]⟩⟩, ⟨3, ⟨#[]⟩, ⟨#[]⟩⟩] : List InsV))) → (LabAt w0 da ls) → (ls.length = dm ∧ dm ≤ 100) → (((l1 ++ l2) ++ ([⟨5, ⟨#[]⟩, ⟨#[]⟩⟩, ⟨3, ⟨#[]⟩, ⟨#[]⟩⟩] : List InsV)).length = m55 ∧ m55 ≤ 100 ∧ (∀ x ∈ ((l1 ++ l2) ++ ([⟨5, ⟨#[]⟩, ⟨#[]⟩⟩, ⟨3, ⟨#[]⟩, ⟨#[]⟩⟩] : List InsV)), x.w)) → (evalN ((l1 ++ l2) ++ ([⟨5, ⟨#[]⟩, ⟨#[]⟩⟩, ⟨3, ⟨#[]⟩, ⟨#[]⟩⟩] : List InsV)) ls = true) → Calls Try.prog 19 #[.slice (some ⟨a55, 0, none⟩) m55 c55, .slice da dm de] w0 fun r w' => r = .returned (.bool true) ∧ Below w0.heap.size w0 w' := fun w0 l1 da dm de ls l2 a55 m55 c55 n0 n1 n2 n3 n4 => by rw [← n4]; exact implPolE (some ⟨a55, 0, none⟩) c55 m55 ((l1 ++ l2) ++ ([⟨5, ⟨#[]⟩, ⟨#[]⟩⟩, ⟨3, ⟨#[]⟩, ⟨#[]⟩⟩] : List InsV)) da de dm ls w0 n3.1 n0 (Nat.le_trans n3.2.1 (by decide)) n3.2.2 n2.1 n1 (Nat.le_trans n2.2 (by decide))
  have hC20 : ∀ w0 (l1 : List InsV) (da : Option Addr) (dm : Nat) (de : Nat) (ls : List LabV) (l2 : List InsV) (a60 : Nat) (m60 : Nat) (c60 : Nat), (InsAt w0 (some ⟨a60, 0, none⟩) ((l1 ++ l2) ++ ([⟨5, ⟨#[]⟩, ⟨#[]⟩⟩, ⟨3, ⟨#[]⟩, ⟨#[]⟩⟩] : List InsV))) → (LabAt w0 da ls) → (ls.length = dm ∧ dm ≤ 100) → (((l1 ++ l2) ++ ([⟨5, ⟨#[]⟩, ⟨#[]⟩⟩, ⟨3, ⟨#[]⟩, ⟨#[]⟩⟩] : List InsV)).length = m60 ∧ m60 ≤ 100 ∧ (∀ x ∈ ((l1 ++ l2) ++ ([⟨5, ⟨#[]⟩, ⟨#[]⟩⟩, ⟨3, ⟨#[]⟩, ⟨#[]⟩⟩] : List InsV)), x.w)) → (evalN ((l1 ++ l2) ++ ([⟨5, ⟨#[]⟩, ⟨#[]⟩⟩, ⟨3, ⟨#[]⟩, ⟨#[]⟩⟩] : List InsV)) ls = true) → Calls Try.prog 19 #[.slice (some ⟨a60, 0, none⟩) m60 c60, .slice da dm de] w0 fun r w' => r = .returned (.bool true) ∧ Below w0.heap.size w0 w' := fun w0 l1 da dm de ls l2 a60 m60 c60 n0 n1 n2 n3 n4 => by rw [← n4]; exact implPolE (some ⟨a60, 0, none⟩) c60 m60 ((l1 ++ l2) ++ ([⟨5, ⟨#[]⟩, ⟨#[]⟩⟩, ⟨3, ⟨#[]⟩, ⟨#[]⟩⟩] : List InsV)) da de dm ls w0 n3.1 n0 (Nat.le_trans n3.2.1 (by decide)) n3.2.2 n2.1 n1 (Nat.le_trans n2.2 (by decide))
  have hC21 : ∀ w0 (l1 : List InsV) (da : Option Addr) (dm : Nat) (de : Nat) (ls : List LabV) (l2 : List InsV) (a89 : Nat) (m89 : Nat) (c89 : Nat), (InsAt w0 (some ⟨a89, 0, none⟩) ((((l1 ++ ([⟨3, ⟨#[]⟩, ⟨#[]⟩⟩] : List InsV)) ++ l2) ++ ([⟨3, ⟨#[]⟩, ⟨#[]⟩⟩] : List InsV)) ++ ([⟨5, ⟨#[]⟩, ⟨#[]⟩⟩] : List InsV))) → (LabAt w0 da ls) → (ls.length = dm ∧ dm ≤ 100) → (((((l1 ++ ([⟨3, ⟨#[]⟩, ⟨#[]⟩⟩] : List InsV)) ++ l2) ++ ([⟨3, ⟨#[]⟩, ⟨#[]⟩⟩] : List InsV)) ++ ([⟨5, ⟨#[]⟩, ⟨#[]⟩⟩] : List InsV)).length = m89 ∧ m89 ≤ 100 ∧ (∀ x ∈ ((((l1 ++ ([⟨3, ⟨#[]⟩, ⟨#[]⟩⟩] : List InsV)) ++ l2) ++ ([⟨3, ⟨#[]⟩, ⟨#[]⟩⟩] : List InsV)) ++ ([⟨5, ⟨#[]⟩, ⟨#[]⟩⟩] : List InsV)), x.w)) → (evalN ((((l1 ++ ([⟨3, ⟨#[]⟩, ⟨#[]⟩⟩] : List InsV)) ++ l2) ++ ([⟨3, ⟨#[]⟩, ⟨#[]⟩⟩] : List InsV)) ++ ([⟨5, ⟨#[]⟩, ⟨#[]⟩⟩] : List InsV)) ls = true) → Calls Try.prog 19 #[.slice (some ⟨a89, 0, none⟩) m89 c89, .slice da dm de] w0 fun r w' => r = .returned (.bool true) ∧ Below w0.heap.size w0 w' := fun w0 l1 da dm de ls l2 a89 m89 c89 n0 n1 n2 n3 n4 => by rw [← n4]; exact implPolE (some ⟨a89, 0, none⟩) c89 m89 ((((l1 ++ ([⟨3, ⟨#[]⟩, ⟨#[]⟩⟩] : List InsV)) ++ l2) ++ ([⟨3, ⟨#[]⟩, ⟨#[]⟩⟩] : List InsV)) ++ ([⟨5, ⟨#[]⟩, ⟨#[]⟩⟩] : List InsV)) da de dm ls w0 n3.1 n0 (Nat.le_trans n3.2.1 (by decide)) n3.2.2 n2.1 n1 (Nat.le_trans n2.2 (by decide))
  have hC22 : ∀ w0 (l1 : List InsV) (da : Option Addr) (dm : Nat) (de : Nat) (ls : List LabV) (l2 : List InsV) (a96 : Nat) (m96 : Nat) (c96 : Nat), (InsAt w0 (some ⟨a96, 0, none⟩) ((((l1 ++ ([⟨3, ⟨#[]⟩, ⟨#[]⟩⟩] : List InsV)) ++ l2) ++ ([⟨3, ⟨#[]⟩, ⟨#[]⟩⟩] : List InsV)) ++ ([⟨4, ⟨#[]⟩, ⟨#[]⟩⟩] : List InsV))) → (LabAt w0 da ls) → (ls.length = dm ∧ dm ≤ 100) → (((((l1 ++ ([⟨3, ⟨#[]⟩, ⟨#[]⟩⟩] : List InsV)) ++ l2) ++ ([⟨3, ⟨#[]⟩, ⟨#[]⟩⟩] : List InsV)) ++ ([⟨4, ⟨#[]⟩, ⟨#[]⟩⟩] : List InsV)).length = m96 ∧ m96 ≤ 100 ∧ (∀ x ∈ ((((l1 ++ ([⟨3, ⟨#[]⟩, ⟨#[]⟩⟩] : List InsV)) ++ l2) ++ ([⟨3, ⟨#[]⟩, ⟨#[]⟩⟩] : List InsV)) ++ ([⟨4, ⟨#[]⟩, ⟨#[]⟩⟩] : List InsV)), x.w)) → (evalN ((((l1 ++ ([⟨3, ⟨#[]⟩, ⟨#[]⟩⟩] : List InsV)) ++ l2) ++ ([⟨3, ⟨#[]⟩, ⟨#[]⟩⟩] : List InsV)) ++ ([⟨4, ⟨#[]⟩, ⟨#[]⟩⟩] : List InsV)) ls = true) → Calls Try.prog 19 #[.slice (some ⟨a96, 0, none⟩) m96 c96, .slice da dm de] w0 fun r w' => r = .returned (.bool true) ∧ Below w0.heap.size w0 w' := fun w0 l1 da dm de ls l2 a96 m96 c96 n0 n1 n2 n3 n4 => by rw [← n4]; exact implPolE (some ⟨a96, 0, none⟩) c96 m96 ((((l1 ++ ([⟨3, ⟨#[]⟩, ⟨#[]⟩⟩] : List InsV)) ++ l2) ++ ([⟨3, ⟨#[]⟩, ⟨#[]⟩⟩] : List InsV)) ++ ([⟨4, ⟨#[]⟩, ⟨#[]⟩⟩] : List InsV)) da de dm ls w0 n3.1 n0 (Nat.le_trans n3.2.1 (by decide)) n3.2.2 n2.1 n1 (Nat.le_trans n2.2 (by decide))
  have hC23 : ∀ w0 (l1 : List InsV) (da : Option Addr) (dm : Nat) (de : Nat) (ls : List LabV) (a103 : Nat) (m103 : Nat) (c103 : Nat), (InsAt w0 (some ⟨a103, 0, none⟩) (l1 ++ ([⟨3, ⟨#[]⟩, ⟨#[]⟩⟩, ⟨3, ⟨#[]⟩, ⟨#[]⟩⟩] : List InsV))) → (LabAt w0 da ls) → (ls.length = dm ∧ dm ≤ 100) → ((l1 ++ ([⟨3, ⟨#[]⟩, ⟨#[]⟩⟩, ⟨3, ⟨#[]⟩, ⟨#[]⟩⟩] : List InsV)).length = m103 ∧ m103 ≤ 100 ∧ (∀ x ∈ (l1 ++ ([⟨3, ⟨#[]⟩, ⟨#[]⟩⟩, ⟨3, ⟨#[]⟩, ⟨#[]⟩⟩] : List InsV)), x.w)) → (evalN (l1 ++ ([⟨3, ⟨#[]⟩, ⟨#[]⟩⟩, ⟨3, ⟨#[]⟩, ⟨#[]⟩⟩] : List InsV)) ls = false) → Calls Try.prog 19 #[.slice (some ⟨a103, 0, none⟩) m103 c103, .slice da dm de] w0 fun r w' => r = .returned (.bool false) ∧ Below w0.heap.size w0 w' := fun w0 l1 da dm de ls a103 m103 c103 n0 n1 n2 n3 n4 => by rw [← n4]; exact implPolE (some ⟨a103, 0, none⟩) c103 m103 (l1 ++ ([⟨3, ⟨#[]⟩, ⟨#[]⟩⟩, ⟨3, ⟨#[]⟩, ⟨#[]⟩⟩] : List InsV)) da de dm ls w0 n3.1 n0 (Nat.le_trans n3.2.1 (by decide)) n3.2.2 n2.1 n1 (Nat.le_trans n2.2 (by decide))
  have hC24 : ∀ w0 (l1 : List InsV) (da : Option Addr) (dm : Nat) (de : Nat) (ls : List LabV) (a107 : Nat) (m107 : Nat) (c107 : Nat), (InsAt w0 (some ⟨a107, 0, none⟩) (l1 ++ ([⟨3, ⟨#[]⟩, ⟨#[]⟩⟩, ⟨3, ⟨#[]⟩, ⟨#[]⟩⟩] : List InsV))) → (LabAt w0 da ls) → (ls.length = dm ∧ dm ≤ 100) → ((l1 ++ ([⟨3, ⟨#[]⟩, ⟨#[]⟩⟩, ⟨3, ⟨#[]⟩, ⟨#[]⟩⟩] : List InsV)).length = m107 ∧ m107 ≤ 100 ∧ (∀ x ∈ (l1 ++ ([⟨3, ⟨#[]⟩, ⟨#[]⟩⟩, ⟨3, ⟨#[]⟩, ⟨#[]⟩⟩] : List InsV)), x.w)) → (evalN (l1 ++ ([⟨3, ⟨#[]⟩, ⟨#[]⟩⟩, ⟨3, ⟨#[]⟩, ⟨#[]⟩⟩] : List InsV)) ls = false) → Calls Try.prog 19 #[.slice (some ⟨a107, 0, none⟩) m107 c107, .slice da dm de] w0 fun r w' => r = .returned (.bool false) ∧ Below w0.heap.size w0 w' := fun w0 l1 da dm de ls a107 m107 c107 n0 n1 n2 n3 n4 => by rw [← n4]; exact implPolE (some ⟨a107, 0, none⟩) c107 m107 (l1 ++ ([⟨3, ⟨#[]⟩, ⟨#[]⟩⟩, ⟨3, ⟨#[]⟩, ⟨#[]⟩⟩] : List InsV)) da de dm ls w0 n3.1 n0 (Nat.le_trans n3.2.1 (by decide)) n3.2.2 n2.1 n1 (Nat.le_trans n2.2 (by decide))
  have hC25 : ∀ w0 (l1 : List InsV) (da : Option Addr) (dm : Nat) (de : Nat) (ls : List LabV) (a112 : Nat) (m112 : Nat) (c112 : Nat), (InsAt w0 (some ⟨a112, 0, none⟩) (l1 ++ ([⟨3, ⟨#[]⟩, ⟨#[]⟩⟩, ⟨3, ⟨#[]⟩, ⟨#[]⟩⟩] : List InsV))) → (LabAt w0 da ls) → (ls.length = dm ∧ dm ≤ 100) → ((l1 ++ ([⟨3, ⟨#[]⟩, ⟨#[]⟩⟩, ⟨3, ⟨#[]⟩, ⟨#[]⟩⟩] : List InsV)).length = m112 ∧ m112 ≤ 100 ∧ (∀ x ∈ (l1 ++ ([⟨3, ⟨#[]⟩, ⟨#[]⟩⟩, ⟨3, ⟨#[]⟩, ⟨#[]⟩⟩] : List InsV)), x.w)) → (evalN (l1 ++ ([⟨3, ⟨#[]⟩, ⟨#[]⟩⟩, ⟨3, ⟨#[]⟩, ⟨#[]⟩⟩] : List InsV)) ls = false) → Calls Try.prog 19 #[.slice (some ⟨a112, 0, none⟩) m112 c112, .slice da dm de] w0 fun r w' => r = .returned (.bool false) ∧ Below w0.heap.size w0 w' := fun w0 l1 da dm de ls a112 m112 c112 n0 n1 n2 n3 n4 => by rw [← n4]; exact implPolE (some ⟨a112, 0, none⟩) c112 m112 (l1 ++ ([⟨3, ⟨#[]⟩, ⟨#[]⟩⟩, ⟨3, ⟨#[]⟩, ⟨#[]⟩⟩] : List InsV)) da de dm ls w0 n3.1 n0 (Nat.le_trans n3.2.1 (by decide)) n3.2.2 n2.1 n1 (Nat.le_trans n2.2 (by decide))
  intro HS0 g g2 d_n1 d_n2 qX n1_0 w1 pa pn pc l1 da dm de ls Hp1 HS1 n2_0 w2 qa qn qc l2 ea em ee es Hp2 HS2 kX1 aX1 kX aX y1 y2 hY
  have HY := hidP hY
  have HA := hidP hY.one
  have HB := hidP hY.two
  have HN1 : Hid (l1 ≠ []) := fun e => by have h := (node_some hY.r1).1; rw [e] at h; exact absurd h (by decide)
  have HN2 : Hid (l2 ≠ []) := fun e => by have h := (node_some hY.r2).1; rw [e] at h; exact absurd h (by decide)
  clear hY
  obtain ⟨p9, o9, rfl⟩ := ins_some (Sta.t (i := 1) HS2 rfl :).1 HN1.out
  obtain ⟨q9, r9, rfl⟩ := ins_some (Sta.t (i := 0) HS2 rfl :).1 HN2.out
  have hp1 := Hp1.out.1
  have hp11 := Hp1.out.2.1
  have hp2 := Hp2.out.1
  have hp22 := Hp2.out.2.1
  have hpl := HY.out.len
  have ew1 : IntKind.i64.wrap ((pn : Int) + (qn : Int)) = (pn : Int) + (qn : Int) := by simp [IntKind.wrap, IntKind.signed, IntKind.bits]; omega
  have ew2 : IntKind.i64.wrap ((pn : Int) + (qn : Int) + 3) = (pn : Int) + (qn : Int) + 3 := by simp [IntKind.wrap, IntKind.signed, IntKind.bits]; omega
  have dl : decide ((60 : Int) < (pn : Int) + (qn : Int) + 3) = false := decide_eq_false (by omega)
  go_upto_region 12 with (first
    | (go_at_call 19; have n17_0 : InsAt w2 (some ⟨p9, o9, none⟩) l1 := (Sta.t (i := 1) HS2 rfl :).1; have n17_1 : LabAt w2 da ls := (Sta.t (i := 1) HS2 rfl :).2; have n17_2 : ls.length = dm ∧ dm ≤ 100 := (And.intro Hp1.out.2.2.2.1 Hp1.out.2.2.2.2.1); have n17_3 : l1.length = pn ∧ pn ≤ 100 ∧ (∀ x ∈ l1, x.w) := (And.intro Hp1.out.1 (And.intro Hp1.out.2.1 Hp1.out.2.2.1)); (with_reducible refine (hC10 w2 pn pc l1 da dm de ls p9 o9 n17_0 n17_1 n17_2 n17_3 HA.out).mono ?_); rintro r w17 ⟨rfl, hB17⟩; have HS17 := Sta.call HS2 hB17; clear hB17)
    | (go_at_call 19; have n18_0 : InsAt w17 (some ⟨q9, r9, none⟩) l2 := (Sta.t (i := 0) HS17 rfl :).1; have n18_1 : LabAt w17 da ls := (Sta.t (i := 1) HS17 rfl :).2; have n18_2 : ls.length = dm ∧ dm ≤ 100 := (And.intro Hp1.out.2.2.2.1 Hp1.out.2.2.2.2.1); have n18_3 : l2.length = qn ∧ qn ≤ 100 ∧ (∀ x ∈ l2, x.w) := (And.intro Hp2.out.1 (And.intro Hp2.out.2.1 Hp2.out.2.2.1)); (with_reducible refine (hC11 w17 da dm de ls qn qc l2 q9 r9 n18_0 n18_1 n18_2 n18_3 HB.out).mono ?_); rintro r w18 ⟨rfl, hB18⟩; have HS18 := Sta.call HS17 hB18; clear hB18)
    | (go_at_call 17; have n19_0 : InsAt w18 (some ⟨p9, o9, none⟩) l1 := (Sta.t (i := 1) HS18 rfl :).1; have n19_1 : LabAt w18 da ls := (Sta.t (i := 1) HS18 rfl :).2; have n19_2 : ls.length = dm ∧ dm ≤ 100 := (And.intro Hp1.out.2.2.2.1 Hp1.out.2.2.2.2.1); have n19_3 : l1.length = pn ∧ pn ≤ 100 ∧ (∀ x ∈ l1, x.w) := (And.intro Hp1.out.1 (And.intro Hp1.out.2.1 Hp1.out.2.2.1)); (with_reducible refine (hC12 w18 pn pc l1 da dm de ls p9 o9 n19_0 n19_1 n19_2 n19_3 HA.out).mono ?_); rintro r w19 ⟨rfl, hB19⟩; have HS19 := Sta.call HS18 hB19; clear hB19)
    | (go_at_call 12; have n20_0 : InsAt w19 (some ⟨p9, o9, none⟩) l1 := (Sta.t (i := 1) HS19 rfl :).1; have n20_1 : l1.length = pn ∧ pn ≤ 100 ∧ (∀ x ∈ l1, x.w) := (And.intro Hp1.out.1 (And.intro Hp1.out.2.1 Hp1.out.2.2.1)); have n20_2 : nodeN l1 = some y1 := (HY.out.r1); (with_reducible refine (hC13 w19 pn pc l1 y1 p9 o9 n20_0 n20_1 n20_2).mono ?_); rintro r w20 ⟨rfl, hB20⟩; have HS20 := Sta.call HS19 hB20; clear hB20)
    | (go_at_call 12; have n21_0 : InsAt w20 (some ⟨q9, r9, none⟩) l2 := (Sta.t (i := 0) HS20 rfl :).1; have n21_1 : l2.length = qn ∧ qn ≤ 100 ∧ (∀ x ∈ l2, x.w) := (And.intro Hp2.out.1 (And.intro Hp2.out.2.1 Hp2.out.2.2.1)); have n21_2 : nodeN l2 = some y2 := (HY.out.r2); (with_reducible refine (hC14 w20 qn qc l2 y2 q9 r9 n21_0 n21_1 n21_2).mono ?_); rintro r w21 ⟨rfl, hB21⟩; have HS21 := Sta.call HS20 hB21; clear hB21)
    | ((with_reducible refine wpList_allocV (w := w21) (by with_unfolding_all rfl) 41 (by with_unfolding_all rfl) [.int .i64 0, .string ⟨#[]⟩, .string ⟨#[]⟩] Try.zT_implIns ?_); intro w22 hA22 hB22 hS22; clear hS22; have HS22 := Sta.new HS21 hA22 hB22 (by simp); clear hA22 hB22)
    | ((with_reducible refine wpList_storeS (w := w22) (by with_unfolding_all rfl) 41 (.tmp 11) (.tmp 65) (by with_unfolding_all rfl) w21.heap.size [.int .i64 0, .string ⟨#[]⟩, .string ⟨#[]⟩] [.int .i64 3, .string ⟨#[]⟩, .string ⟨#[]⟩] (by with_unfolding_all rfl) (by with_unfolding_all rfl) (Sta.r (i := 0) HS22 (by with_unfolding_all rfl)) 3 Try.sT_implIns (by with_unfolding_all rfl) (by with_unfolding_all rfl) (by with_unfolding_all rfl) ?_); intro w23 hA23 hO23; have HS23 := Sta.put 0 HS22 rfl hA23 (by simp) hO23; clear hA23 hO23))
  · skip
    have HS25 : Hid (Sta [] w [(w21.heap.size, [.int .i64 3, .string ⟨#[]⟩, .string ⟨#[]⟩])] [⟨fun k => (Value.slice none 0 0).ownBlock = some k, fun w' => InsO w' w.heap.size (.slice none 0 0) ([])⟩, ⟨fun k => w1.heap.size ≤ k ∧ k < w2.heap.size, fun w2 => InsAt w2 (some ⟨q9, r9, none⟩) l2 ∧ LabAt w2 ea es⟩, ⟨fun k => w.heap.size ≤ k ∧ k < w1.heap.size, fun w2 => InsAt w2 (some ⟨p9, o9, none⟩) l1 ∧ LabAt w2 da ls⟩, ⟨fun k => k < w.heap.size, fun w' => Bytes w' a1 n1 ∧ Bytes w' a2 n2⟩] w23) := Sta.own0 w.heap.size 41 3 HS23
    have hO26 := World.ownsRow_made (base := w.heap.size) (size := 3) (e := 41) w23 #[] 0 (Sta.size HS25) (by decide) (by simp)
    have hG26 := World.grownBy_alloc w23 (.cells #[] 41) (Value.slice none 0 0).ownBlock
    have HS26 := Sta.app 0 HS25 rfl (Nat.le_refl _) hO26 hG26 (Or.inr rfl)
    clear hO26 hG26
    go_wp2_with (first
      | ((with_reducible refine wpList_appendInsM (W := (w23.alloc (.cells #[] 41))) (by with_unfolding_all rfl) (.tmp 66) (.tmp 67) (by with_unfolding_all rfl) w.heap.size (.slice (some ⟨w23.heap.size, 0, none⟩) 0 0) ([]) p9 o9 pn pc l1 (by with_unfolding_all rfl) (Sta.t (i := 0) HS26 rfl) (by with_unfolding_all rfl) Hp1.out.1 (Sta.t (i := 2) HS26 rfl :).1 (by have hx := Hp1.out.1; have h1 := HY.out.len; have h2 := Hp1.out.1; have h3 := Hp2.out.1; simp only [List.length_append, List.length_cons, List.length_nil] at *; omega) (Sta.size HS26) ?_); intro v27 w27 hO27 hG27 hb27; obtain ⟨a27, m27, c27, hm27, rfl⟩ := InsO.formS hO27 (app_ne HN1.out); have HS27 := Sta.app 0 HS26 rfl (Nat.le_refl _) hO27 hG27 hb27; have Hm27 := hidP hm27; clear hO27 hG27 hb27 hm27)
      | ((with_reducible refine wpList_appendInsM (W := w27) (by with_unfolding_all rfl) (.tmp 68) (.tmp 69) (by with_unfolding_all rfl) w.heap.size (.slice (some ⟨a27, 0, none⟩) m27 c27) l1 q9 r9 qn qc l2 (by with_unfolding_all rfl) (Sta.t (i := 0) HS27 rfl) (by with_unfolding_all rfl) Hp2.out.1 (Sta.t (i := 1) HS27 rfl :).1 (by have hx := Hp2.out.1; have h1 := HY.out.len; have h2 := Hp1.out.1; have h3 := Hp2.out.1; simp only [List.length_append, List.length_cons, List.length_nil] at *; omega) (Sta.size HS27) ?_); intro v28 w28 hO28 hG28 hb28; obtain ⟨a28, m28, c28, hm28, rfl⟩ := InsO.formS hO28 (app_ne HN2.out); have HS28 := Sta.app 0 HS27 rfl (Nat.le_refl _) hO28 hG28 hb28; have Hm28 := hidP hm28; clear hO28 hG28 hb28 hm28))
    have HS29 : Hid (Sta [] w [(w21.heap.size, [.int .i64 3, .string ⟨#[]⟩, .string ⟨#[]⟩])] [⟨fun k => (Value.slice none 0 0).ownBlock = some k, fun w' => InsO w' w.heap.size (.slice none 0 0) ([])⟩, ⟨fun k => (Value.slice (some ⟨a28, 0, none⟩) m28 c28).ownBlock = some k, fun w' => InsO w' w.heap.size (.slice (some ⟨a28, 0, none⟩) m28 c28) (l1 ++ l2)⟩, ⟨fun k => w1.heap.size ≤ k ∧ k < w2.heap.size, fun w2 => InsAt w2 (some ⟨q9, r9, none⟩) l2 ∧ LabAt w2 ea es⟩, ⟨fun k => w.heap.size ≤ k ∧ k < w1.heap.size, fun w2 => InsAt w2 (some ⟨p9, o9, none⟩) l1 ∧ LabAt w2 da ls⟩, ⟨fun k => k < w.heap.size, fun w' => Bytes w' a1 n1 ∧ Bytes w' a2 n2⟩] w28) := Sta.own0 w.heap.size 41 3 HS28
    try simp only [Act.put, List.setIfInBounds_toArray, List.set_cons_zero, List.set_cons_succ]
    go_cut [13] (fun v0 wx => v0 = .bool true ∧ Hid (Sta [] w [(w21.heap.size, [.int .i64 3, .string ⟨#[]⟩, .string ⟨#[]⟩])] [⟨fun k => (Value.slice (some ⟨a28, 0, none⟩) m28 c28).ownBlock = some k, fun w' => InsO w' w.heap.size (.slice (some ⟨a28, 0, none⟩) m28 c28) (l1 ++ l2)⟩, ⟨fun k => w1.heap.size ≤ k ∧ k < w2.heap.size, fun w2 => InsAt w2 (some ⟨q9, r9, none⟩) l2 ∧ LabAt w2 ea es⟩, ⟨fun k => w.heap.size ≤ k ∧ k < w1.heap.size, fun w2 => InsAt w2 (some ⟨p9, o9, none⟩) l1 ∧ LabAt w2 da ls⟩, ⟨fun k => k < w.heap.size, fun w' => Bytes w' a1 n1 ∧ Bytes w' a2 n2⟩] wx))
    case first =>
      go_wp2_with fail
      have HS30 := Sta.drew HS29
      refine wp_region_held_drew (S := fun w' => w'.cell? ⟨w21.heap.size, 0, none⟩ = some (.int .i64 3) ∧ w'.cell? ⟨w21.heap.size, 1, none⟩ = some (.string ⟨#[]⟩) ∧ w'.cell? ⟨w21.heap.size, 2, none⟩ = some (.string ⟨#[]⟩)) (by kernel_rfl) ⟨Sta.c (i := 0) HS30 rfl rfl, Sta.c (i := 0) HS30 rfl rfl, Sta.c (i := 0) HS30 rfl rfl⟩ (fun hHeld => ?_)
      generalize w28.drew = w30 at *
      refine wpAnyH_take (i := 1) (oi := ⟨_, _, _, _, _, _⟩) (v := .slice (some ⟨a28, 0, none⟩) m28 c28) rfl (by kernel_rfl) (by kernel_rfl) (by kernel_rfl) (fun _ _ _ h => h) (Or.inl ⟨wanted_free rfl, fun w' hSw => ?_⟩) hHeld ?_
      · go_simp
      try simp only [Act.put, List.setIfInBounds_toArray, List.set_cons_zero, List.set_cons_succ]
      refine wpAnyH_take (i := 3) (oi := ⟨_, _, _, _, _, _⟩) (v := .agg #[.int .i64 4, .string ⟨#[]⟩, .string ⟨#[]⟩]) rfl (by kernel_rfl) (by kernel_rfl) (by kernel_rfl) (fun _ _ _ h => h) (Or.inl ⟨wanted_free rfl, fun w' hSw => ?_⟩) hHeld ?_
      · go_simp
      try simp only [Act.put, List.setIfInBounds_toArray, List.set_cons_zero, List.set_cons_succ]
      refine wpAnyH_take (i := 4) (oi := ⟨_, _, _, _, _, _⟩) (v := .agg #[.int .i64 3, .string ⟨#[]⟩, .string ⟨#[]⟩]) rfl (by kernel_rfl) (by kernel_rfl) (by kernel_rfl) (fun _ _ _ h => h) (Or.inl ⟨wanted_free rfl, fun w' hSw => ?_⟩) hHeld ?_
      · obtain ⟨s0, s1, s2⟩ := hSw
        go_simp
      try simp only [Act.put, List.setIfInBounds_toArray, List.set_cons_zero, List.set_cons_succ]
      refine wpAnyH_take (i := 7) (oi := ⟨_, _, _, _, _, _⟩) (v := .slice da dm de) rfl (by kernel_rfl) (by kernel_rfl) (by kernel_rfl) (fun _ _ _ h => h) (Or.inl ⟨wanted_free rfl, fun w' hSw => ?_⟩) hHeld ?_
      · go_simp
      try simp only [Act.put, List.setIfInBounds_toArray, List.set_cons_zero, List.set_cons_succ]
      refine wpAnyH_ready (rs := [0, 5]) (by kernel_rfl) (by simp) (AllReadyH.cons (o := ⟨_, _, _, _, _, _⟩) rfl (fun K hK => ?_) (AllReadyH.cons (o := ⟨_, _, _, _, _, _⟩) rfl (fun K hK => ?_) AllReadyH.nil))
      · as_aux_lemma =>
        rewrite [if_pos (wanted_free rfl)]
        with_reducible refine wp_buildIns0 (by with_unfolding_all rfl) w.heap.size (Sta.size HS30) ?_
        intro w31 hO31 hG31
        have HS31 := Sta.app 0 HS30 rfl (Nat.le_refl _) hO31 hG31 (Or.inr rfl)
        clear hO31 hG31
        refine hK.out _ _ ⟨Sta.c (i := 0) HS31 rfl rfl, Sta.c (i := 0) HS31 rfl rfl, Sta.c (i := 0) HS31 rfl rfl⟩ (fun hHeld => ?_)
        clear hK K
        try simp only [Act.put, List.setIfInBounds_toArray, List.set_cons_zero, List.set_cons_succ]
        refine wpAnyH_ready (rs := [2, 5]) (by kernel_rfl) (by simp) (AllReadyH.cons (o := ⟨_, _, _, _, _, _⟩) rfl (fun K hK => ?_) (AllReadyH.cons (o := ⟨_, _, _, _, _, _⟩) rfl (fun K hK => ?_) AllReadyH.nil))
        · as_aux_lemma =>
          rewrite [if_pos (wanted_free rfl)]
          with_reducible refine wp_appendInsM (W := w31) (.tmp 71) (.tmp 72) (by with_unfolding_all rfl) w.heap.size (.slice (some ⟨w30.heap.size, 0, none⟩) 0 0) ([]) a28 0 m28 c28 (l1 ++ l2) (by with_unfolding_all rfl) (Sta.t (i := 0) HS31 rfl) (by with_unfolding_all rfl) Hm28.out (InsO.row (Sta.t (i := 1) HS31 rfl)).1.ins (by have hx := Hm28.out; have h1 := HY.out.len; have h2 := Hp1.out.1; have h3 := Hp2.out.1; simp only [List.length_append, List.length_cons, List.length_nil] at *; omega) (Sta.size HS31) ?_
          intro v32 w32 hO32 hG32 hb32
          obtain ⟨a32, m32, c32, hm32, rfl⟩ := InsO.formS hO32 (app_ne (app_ne HN2.out))
          have HS32 := Sta.app 0 HS31 rfl (Nat.le_refl _) hO32 hG32 hb32
          have Hm32 := hidP hm32
          clear hO32 hG32 hb32 hm32
          refine hK.out _ _ ⟨Sta.c (i := 0) HS32 rfl rfl, Sta.c (i := 0) HS32 rfl rfl, Sta.c (i := 0) HS32 rfl rfl⟩ (fun hHeld => ?_)
          clear hK K
          try simp only [Act.put, List.setIfInBounds_toArray, List.set_cons_zero, List.set_cons_succ]
          refine wpAnyH_ready (rs := [5]) (by kernel_rfl) (by simp) (AllReadyH.cons (o := ⟨_, _, _, _, _, _⟩) rfl (fun K hK => ?_) AllReadyH.nil)
          rewrite [if_pos (wanted_free rfl)]
          with_reducible refine wp_buildIns2 (.tmp 74) (.tmp 75) (by with_unfolding_all rfl) 4 (⟨#[]⟩) (⟨#[]⟩) 3 (⟨#[]⟩) (⟨#[]⟩) (by with_unfolding_all rfl) (by with_unfolding_all rfl) ?_
          intro w33 hA33 hB33
          have HS33 := Sta.new HS32 hA33 hB33 (by simp)
          clear hA33 hB33
          refine hK.out _ _ ⟨Sta.c (i := 1) HS33 rfl rfl, Sta.c (i := 1) HS33 rfl rfl, Sta.c (i := 1) HS33 rfl rfl⟩ (fun hHeld => ?_)
          clear hK K
          try simp only [Act.put, List.setIfInBounds_toArray, List.set_cons_zero, List.set_cons_succ]
          refine wpAnyH_ready (rs := [6]) (by kernel_rfl) (by simp) (AllReadyH.cons (o := ⟨_, _, _, _, _, _⟩) rfl (fun K hK => ?_) AllReadyH.nil)
          rewrite [if_pos (wanted_free rfl)]
          with_reducible refine wp_appendInsM (W := w33) (.tmp 73) (.tmp 76) (by with_unfolding_all rfl) w.heap.size (.slice (some ⟨a32, 0, none⟩) m32 c32) (l1 ++ l2) w32.heap.size 0 2 2 ([⟨4, ⟨#[]⟩, ⟨#[]⟩⟩, ⟨3, ⟨#[]⟩, ⟨#[]⟩⟩] : List InsV) (by with_unfolding_all rfl) (Sta.t (i := 0) HS33 rfl) (by with_unfolding_all rfl) rfl (RowV.ins (l := [⟨4, ⟨#[]⟩, ⟨#[]⟩⟩, ⟨3, ⟨#[]⟩, ⟨#[]⟩⟩]) (Sta.r (i := 0) HS33 (by with_unfolding_all rfl))) (by have hx := True.intro; have h1 := HY.out.len; have h2 := Hp1.out.1; have h3 := Hp2.out.1; simp only [List.length_append, List.length_cons, List.length_nil] at *; omega) (Sta.size HS33) ?_
          intro v34 w34 hO34 hG34 hb34
          obtain ⟨a34, m34, c34, hm34, rfl⟩ := InsO.formS hO34 (app_ne (by simp))
          have HS34 := Sta.app 0 HS33 rfl (Nat.le_refl _) hO34 hG34 hb34
          have Hm34 := hidP hm34
          clear hO34 hG34 hb34 hm34
          refine hK.out _ _ ⟨Sta.c (i := 1) HS34 rfl rfl, Sta.c (i := 1) HS34 rfl rfl, Sta.c (i := 1) HS34 rfl rfl⟩ (fun hHeld => ?_)
          clear hK K
          try simp only [Act.put, List.setIfInBounds_toArray, List.set_cons_zero, List.set_cons_succ]
          refine wpAnyH_ready (rs := [8]) (by kernel_rfl) (by simp) (AllReadyH.cons (o := ⟨_, _, _, _, _, _⟩) rfl (fun K hK => ?_) AllReadyH.nil)
          rewrite [if_pos (wanted_free rfl)]
          go_simp
          have n35_0 : InsAt w34 (some ⟨a34, 0, none⟩) ((l1 ++ l2) ++ ([⟨4, ⟨#[]⟩, ⟨#[]⟩⟩, ⟨3, ⟨#[]⟩, ⟨#[]⟩⟩] : List InsV)) := (InsO.row (Sta.t (i := 0) HS34 rfl)).1.ins
          have n35_1 : LabAt w34 da ls := (Sta.t (i := 3) HS34 rfl :).2
          have n35_2 : ls.length = dm ∧ dm ≤ 100 := (And.intro Hp1.out.2.2.2.1 Hp1.out.2.2.2.2.1)
          have n35_3 : ((l1 ++ l2) ++ ([⟨4, ⟨#[]⟩, ⟨#[]⟩⟩, ⟨3, ⟨#[]⟩, ⟨#[]⟩⟩] : List InsV)).length = m34 ∧ m34 ≤ 100 ∧ (∀ x ∈ ((l1 ++ l2) ++ ([⟨4, ⟨#[]⟩, ⟨#[]⟩⟩, ⟨3, ⟨#[]⟩, ⟨#[]⟩⟩] : List InsV)), x.w) := (len_w Hm34.out (by have h1 := HY.out.len; simp; omega) (w_app (w_app Hp1.out.2.2.1 Hp2.out.2.2.1) (w_two w_4 w_3)))
          have n35_4 : evalN ((l1 ++ l2) ++ ([⟨4, ⟨#[]⟩, ⟨#[]⟩⟩, ⟨3, ⟨#[]⟩, ⟨#[]⟩⟩] : List InsV)) ls = true := (HY.out.x)
          (with_reducible refine (hC15 w34 l1 da dm de ls l2 a34 m34 c34 n35_0 n35_1 n35_2 n35_3 n35_4).mono ?_)
          rintro r w35 ⟨rfl, hB35⟩
          have HS35 := Sta.call HS34 hB35
          clear hB35
          go_wp2_with fail
          refine hK.out _ _ ⟨Sta.c (i := 1) HS35 rfl rfl, Sta.c (i := 1) HS35 rfl rfl, Sta.c (i := 1) HS35 rfl rfl⟩ (fun hHeld => ?_)
          clear hK K
          try simp only [Act.put, List.setIfInBounds_toArray, List.set_cons_zero, List.set_cons_succ]
          refine wpAnyH_take (i := 9) (oi := ⟨_, _, _, _, _, _⟩) (v := .bool true) rfl (by kernel_rfl) (by kernel_rfl) (by kernel_rfl) (fun _ _ _ h => h) (Or.inl ⟨wanted_free rfl, fun w' hSw => ?_⟩) hHeld ?_
          · go_simp
          try simp only [Act.put, List.setIfInBounds_toArray, List.set_cons_zero, List.set_cons_succ]
          refine wpAnyH_done (by kernel_rfl) ?_ _
          clear hHeld
          go_wp2_with fail
          go_meet
          exact ⟨rfl, Sta.drop 1 1 HS35⟩
        · as_aux_lemma =>
          rewrite [if_pos (wanted_free rfl)]
          with_reducible refine wp_buildIns2 (.tmp 74) (.tmp 75) (by with_unfolding_all rfl) 4 (⟨#[]⟩) (⟨#[]⟩) 3 (⟨#[]⟩) (⟨#[]⟩) (by with_unfolding_all rfl) (by with_unfolding_all rfl) ?_
          intro w36 hA36 hB36
          have HS36 := Sta.new HS31 hA36 hB36 (by simp)
          clear hA36 hB36
          refine hK.out _ _ ⟨Sta.c (i := 1) HS36 rfl rfl, Sta.c (i := 1) HS36 rfl rfl, Sta.c (i := 1) HS36 rfl rfl⟩ (fun hHeld => ?_)
          clear hK K
          try simp only [Act.put, List.setIfInBounds_toArray, List.set_cons_zero, List.set_cons_succ]
          refine wpAnyH_ready (rs := [2]) (by kernel_rfl) (by simp) (AllReadyH.cons (o := ⟨_, _, _, _, _, _⟩) rfl (fun K hK => ?_) AllReadyH.nil)
          rewrite [if_pos (wanted_free rfl)]
          with_reducible refine wp_appendInsM (W := w36) (.tmp 71) (.tmp 72) (by with_unfolding_all rfl) w.heap.size (.slice (some ⟨w30.heap.size, 0, none⟩) 0 0) ([]) a28 0 m28 c28 (l1 ++ l2) (by with_unfolding_all rfl) (Sta.t (i := 0) HS36 rfl) (by with_unfolding_all rfl) Hm28.out (InsO.row (Sta.t (i := 1) HS36 rfl)).1.ins (by have hx := Hm28.out; have h1 := HY.out.len; have h2 := Hp1.out.1; have h3 := Hp2.out.1; simp only [List.length_append, List.length_cons, List.length_nil] at *; omega) (Sta.size HS36) ?_
          intro v37 w37 hO37 hG37 hb37
          obtain ⟨a37, m37, c37, hm37, rfl⟩ := InsO.formS hO37 (app_ne (app_ne HN2.out))
          have HS37 := Sta.app 0 HS36 rfl (Nat.le_refl _) hO37 hG37 hb37
          have Hm37 := hidP hm37
          clear hO37 hG37 hb37 hm37
          refine hK.out _ _ ⟨Sta.c (i := 1) HS37 rfl rfl, Sta.c (i := 1) HS37 rfl rfl, Sta.c (i := 1) HS37 rfl rfl⟩ (fun hHeld => ?_)
          clear hK K
          try simp only [Act.put, List.setIfInBounds_toArray, List.set_cons_zero, List.set_cons_succ]
          refine wpAnyH_ready (rs := [6]) (by kernel_rfl) (by simp) (AllReadyH.cons (o := ⟨_, _, _, _, _, _⟩) rfl (fun K hK => ?_) AllReadyH.nil)
          rewrite [if_pos (wanted_free rfl)]
          with_reducible refine wp_appendInsM (W := w37) (.tmp 73) (.tmp 76) (by with_unfolding_all rfl) w.heap.size (.slice (some ⟨a37, 0, none⟩) m37 c37) (l1 ++ l2) w31.heap.size 0 2 2 ([⟨4, ⟨#[]⟩, ⟨#[]⟩⟩, ⟨3, ⟨#[]⟩, ⟨#[]⟩⟩] : List InsV) (by with_unfolding_all rfl) (Sta.t (i := 0) HS37 rfl) (by with_unfolding_all rfl) rfl (RowV.ins (l := [⟨4, ⟨#[]⟩, ⟨#[]⟩⟩, ⟨3, ⟨#[]⟩, ⟨#[]⟩⟩]) (Sta.r (i := 0) HS37 (by with_unfolding_all rfl))) (by have hx := True.intro; have h1 := HY.out.len; have h2 := Hp1.out.1; have h3 := Hp2.out.1; simp only [List.length_append, List.length_cons, List.length_nil] at *; omega) (Sta.size HS37) ?_
          intro v38 w38 hO38 hG38 hb38
          obtain ⟨a38, m38, c38, hm38, rfl⟩ := InsO.formS hO38 (app_ne (by simp))
          have HS38 := Sta.app 0 HS37 rfl (Nat.le_refl _) hO38 hG38 hb38
          have Hm38 := hidP hm38
          clear hO38 hG38 hb38 hm38
          refine hK.out _ _ ⟨Sta.c (i := 1) HS38 rfl rfl, Sta.c (i := 1) HS38 rfl rfl, Sta.c (i := 1) HS38 rfl rfl⟩ (fun hHeld => ?_)
          clear hK K
          try simp only [Act.put, List.setIfInBounds_toArray, List.set_cons_zero, List.set_cons_succ]
          refine wpAnyH_ready (rs := [8]) (by kernel_rfl) (by simp) (AllReadyH.cons (o := ⟨_, _, _, _, _, _⟩) rfl (fun K hK => ?_) AllReadyH.nil)
          rewrite [if_pos (wanted_free rfl)]
          go_simp
          have n39_0 : InsAt w38 (some ⟨a38, 0, none⟩) ((l1 ++ l2) ++ ([⟨4, ⟨#[]⟩, ⟨#[]⟩⟩, ⟨3, ⟨#[]⟩, ⟨#[]⟩⟩] : List InsV)) := (InsO.row (Sta.t (i := 0) HS38 rfl)).1.ins
          have n39_1 : LabAt w38 da ls := (Sta.t (i := 3) HS38 rfl :).2
          have n39_2 : ls.length = dm ∧ dm ≤ 100 := (And.intro Hp1.out.2.2.2.1 Hp1.out.2.2.2.2.1)
          have n39_3 : ((l1 ++ l2) ++ ([⟨4, ⟨#[]⟩, ⟨#[]⟩⟩, ⟨3, ⟨#[]⟩, ⟨#[]⟩⟩] : List InsV)).length = m38 ∧ m38 ≤ 100 ∧ (∀ x ∈ ((l1 ++ l2) ++ ([⟨4, ⟨#[]⟩, ⟨#[]⟩⟩, ⟨3, ⟨#[]⟩, ⟨#[]⟩⟩] : List InsV)), x.w) := (len_w Hm38.out (by have h1 := HY.out.len; simp; omega) (w_app (w_app Hp1.out.2.2.1 Hp2.out.2.2.1) (w_two w_4 w_3)))
          have n39_4 : evalN ((l1 ++ l2) ++ ([⟨4, ⟨#[]⟩, ⟨#[]⟩⟩, ⟨3, ⟨#[]⟩, ⟨#[]⟩⟩] : List InsV)) ls = true := (HY.out.x)
          (with_reducible refine (hC16 w38 l1 da dm de ls l2 a38 m38 c38 n39_0 n39_1 n39_2 n39_3 n39_4).mono ?_)
          rintro r w39 ⟨rfl, hB39⟩
          have HS39 := Sta.call HS38 hB39
          clear hB39
          go_wp2_with fail
          refine hK.out _ _ ⟨Sta.c (i := 1) HS39 rfl rfl, Sta.c (i := 1) HS39 rfl rfl, Sta.c (i := 1) HS39 rfl rfl⟩ (fun hHeld => ?_)
          clear hK K
          try simp only [Act.put, List.setIfInBounds_toArray, List.set_cons_zero, List.set_cons_succ]
          refine wpAnyH_take (i := 9) (oi := ⟨_, _, _, _, _, _⟩) (v := .bool true) rfl (by kernel_rfl) (by kernel_rfl) (by kernel_rfl) (fun _ _ _ h => h) (Or.inl ⟨wanted_free rfl, fun w' hSw => ?_⟩) hHeld ?_
          · go_simp
          try simp only [Act.put, List.setIfInBounds_toArray, List.set_cons_zero, List.set_cons_succ]
          refine wpAnyH_done (by kernel_rfl) ?_ _
          clear hHeld
          go_wp2_with fail
          go_meet
          exact ⟨rfl, Sta.drop 1 1 HS39⟩
      · as_aux_lemma =>
        rewrite [if_pos (wanted_free rfl)]
        with_reducible refine wp_buildIns2 (.tmp 74) (.tmp 75) (by with_unfolding_all rfl) 4 (⟨#[]⟩) (⟨#[]⟩) 3 (⟨#[]⟩) (⟨#[]⟩) (by with_unfolding_all rfl) (by with_unfolding_all rfl) ?_
        intro w40 hA40 hB40
        have HS40 := Sta.new HS30 hA40 hB40 (by simp)
        clear hA40 hB40
        refine hK.out _ _ ⟨Sta.c (i := 1) HS40 rfl rfl, Sta.c (i := 1) HS40 rfl rfl, Sta.c (i := 1) HS40 rfl rfl⟩ (fun hHeld => ?_)
        clear hK K
        try simp only [Act.put, List.setIfInBounds_toArray, List.set_cons_zero, List.set_cons_succ]
        refine wpAnyH_ready (rs := [0]) (by kernel_rfl) (by simp) (AllReadyH.cons (o := ⟨_, _, _, _, _, _⟩) rfl (fun K hK => ?_) AllReadyH.nil)
        rewrite [if_pos (wanted_free rfl)]
        with_reducible refine wp_buildIns0 (by with_unfolding_all rfl) w.heap.size (Sta.size HS40) ?_
        intro w41 hO41 hG41
        have HS41 := Sta.app 0 HS40 rfl (Nat.le_refl _) hO41 hG41 (Or.inr rfl)
        clear hO41 hG41
        refine hK.out _ _ ⟨Sta.c (i := 1) HS41 rfl rfl, Sta.c (i := 1) HS41 rfl rfl, Sta.c (i := 1) HS41 rfl rfl⟩ (fun hHeld => ?_)
        clear hK K
        try simp only [Act.put, List.setIfInBounds_toArray, List.set_cons_zero, List.set_cons_succ]
        refine wpAnyH_ready (rs := [2]) (by kernel_rfl) (by simp) (AllReadyH.cons (o := ⟨_, _, _, _, _, _⟩) rfl (fun K hK => ?_) AllReadyH.nil)
        rewrite [if_pos (wanted_free rfl)]
        with_reducible refine wp_appendInsM (W := w41) (.tmp 71) (.tmp 72) (by with_unfolding_all rfl) w.heap.size (.slice (some ⟨w40.heap.size, 0, none⟩) 0 0) ([]) a28 0 m28 c28 (l1 ++ l2) (by with_unfolding_all rfl) (Sta.t (i := 0) HS41 rfl) (by with_unfolding_all rfl) Hm28.out (InsO.row (Sta.t (i := 1) HS41 rfl)).1.ins (by have hx := Hm28.out; have h1 := HY.out.len; have h2 := Hp1.out.1; have h3 := Hp2.out.1; simp only [List.length_append, List.length_cons, List.length_nil] at *; omega) (Sta.size HS41) ?_
        intro v42 w42 hO42 hG42 hb42
        obtain ⟨a42, m42, c42, hm42, rfl⟩ := InsO.formS hO42 (app_ne (app_ne HN2.out))
        have HS42 := Sta.app 0 HS41 rfl (Nat.le_refl _) hO42 hG42 hb42
        have Hm42 := hidP hm42
        clear hO42 hG42 hb42 hm42
        refine hK.out _ _ ⟨Sta.c (i := 1) HS42 rfl rfl, Sta.c (i := 1) HS42 rfl rfl, Sta.c (i := 1) HS42 rfl rfl⟩ (fun hHeld => ?_)
        clear hK K
        try simp only [Act.put, List.setIfInBounds_toArray, List.set_cons_zero, List.set_cons_succ]
        refine wpAnyH_ready (rs := [6]) (by kernel_rfl) (by simp) (AllReadyH.cons (o := ⟨_, _, _, _, _, _⟩) rfl (fun K hK => ?_) AllReadyH.nil)
        rewrite [if_pos (wanted_free rfl)]
        with_reducible refine wp_appendInsM (W := w42) (.tmp 73) (.tmp 76) (by with_unfolding_all rfl) w.heap.size (.slice (some ⟨a42, 0, none⟩) m42 c42) (l1 ++ l2) w30.heap.size 0 2 2 ([⟨4, ⟨#[]⟩, ⟨#[]⟩⟩, ⟨3, ⟨#[]⟩, ⟨#[]⟩⟩] : List InsV) (by with_unfolding_all rfl) (Sta.t (i := 0) HS42 rfl) (by with_unfolding_all rfl) rfl (RowV.ins (l := [⟨4, ⟨#[]⟩, ⟨#[]⟩⟩, ⟨3, ⟨#[]⟩, ⟨#[]⟩⟩]) (Sta.r (i := 0) HS42 (by with_unfolding_all rfl))) (by have hx := True.intro; have h1 := HY.out.len; have h2 := Hp1.out.1; have h3 := Hp2.out.1; simp only [List.length_append, List.length_cons, List.length_nil] at *; omega) (Sta.size HS42) ?_
        intro v43 w43 hO43 hG43 hb43
        obtain ⟨a43, m43, c43, hm43, rfl⟩ := InsO.formS hO43 (app_ne (by simp))
        have HS43 := Sta.app 0 HS42 rfl (Nat.le_refl _) hO43 hG43 hb43
        have Hm43 := hidP hm43
        clear hO43 hG43 hb43 hm43
        refine hK.out _ _ ⟨Sta.c (i := 1) HS43 rfl rfl, Sta.c (i := 1) HS43 rfl rfl, Sta.c (i := 1) HS43 rfl rfl⟩ (fun hHeld => ?_)
        clear hK K
        try simp only [Act.put, List.setIfInBounds_toArray, List.set_cons_zero, List.set_cons_succ]
        refine wpAnyH_ready (rs := [8]) (by kernel_rfl) (by simp) (AllReadyH.cons (o := ⟨_, _, _, _, _, _⟩) rfl (fun K hK => ?_) AllReadyH.nil)
        rewrite [if_pos (wanted_free rfl)]
        go_simp
        have n44_0 : InsAt w43 (some ⟨a43, 0, none⟩) ((l1 ++ l2) ++ ([⟨4, ⟨#[]⟩, ⟨#[]⟩⟩, ⟨3, ⟨#[]⟩, ⟨#[]⟩⟩] : List InsV)) := (InsO.row (Sta.t (i := 0) HS43 rfl)).1.ins
        have n44_1 : LabAt w43 da ls := (Sta.t (i := 3) HS43 rfl :).2
        have n44_2 : ls.length = dm ∧ dm ≤ 100 := (And.intro Hp1.out.2.2.2.1 Hp1.out.2.2.2.2.1)
        have n44_3 : ((l1 ++ l2) ++ ([⟨4, ⟨#[]⟩, ⟨#[]⟩⟩, ⟨3, ⟨#[]⟩, ⟨#[]⟩⟩] : List InsV)).length = m43 ∧ m43 ≤ 100 ∧ (∀ x ∈ ((l1 ++ l2) ++ ([⟨4, ⟨#[]⟩, ⟨#[]⟩⟩, ⟨3, ⟨#[]⟩, ⟨#[]⟩⟩] : List InsV)), x.w) := (len_w Hm43.out (by have h1 := HY.out.len; simp; omega) (w_app (w_app Hp1.out.2.2.1 Hp2.out.2.2.1) (w_two w_4 w_3)))
        have n44_4 : evalN ((l1 ++ l2) ++ ([⟨4, ⟨#[]⟩, ⟨#[]⟩⟩, ⟨3, ⟨#[]⟩, ⟨#[]⟩⟩] : List InsV)) ls = true := (HY.out.x)
        (with_reducible refine (hC17 w43 l1 da dm de ls l2 a43 m43 c43 n44_0 n44_1 n44_2 n44_3 n44_4).mono ?_)
        rintro r w44 ⟨rfl, hB44⟩
        have HS44 := Sta.call HS43 hB44
        clear hB44
        go_wp2_with fail
        refine hK.out _ _ ⟨Sta.c (i := 1) HS44 rfl rfl, Sta.c (i := 1) HS44 rfl rfl, Sta.c (i := 1) HS44 rfl rfl⟩ (fun hHeld => ?_)
        clear hK K
        try simp only [Act.put, List.setIfInBounds_toArray, List.set_cons_zero, List.set_cons_succ]
        refine wpAnyH_take (i := 9) (oi := ⟨_, _, _, _, _, _⟩) (v := .bool true) rfl (by kernel_rfl) (by kernel_rfl) (by kernel_rfl) (fun _ _ _ h => h) (Or.inl ⟨wanted_free rfl, fun w' hSw => ?_⟩) hHeld ?_
        · go_simp
        try simp only [Act.put, List.setIfInBounds_toArray, List.set_cons_zero, List.set_cons_succ]
        refine wpAnyH_done (by kernel_rfl) ?_ _
        clear hHeld
        go_wp2_with fail
        go_meet
        exact ⟨rfl, Sta.drop 1 1 HS44⟩
    case rest =>
      obtain ⟨rfl, HS45⟩ := hcut
      rename Go.World => wl45
      go_wp2_with fail
      have HS46 : Hid (Sta [] w [(w21.heap.size, [.int .i64 3, .string ⟨#[]⟩, .string ⟨#[]⟩])] [⟨fun k => (Value.slice none 0 0).ownBlock = some k, fun w' => InsO w' w.heap.size (.slice none 0 0) ([])⟩, ⟨fun k => (Value.slice (some ⟨a28, 0, none⟩) m28 c28).ownBlock = some k, fun w' => InsO w' w.heap.size (.slice (some ⟨a28, 0, none⟩) m28 c28) (l1 ++ l2)⟩, ⟨fun k => w1.heap.size ≤ k ∧ k < w2.heap.size, fun w2 => InsAt w2 (some ⟨q9, r9, none⟩) l2 ∧ LabAt w2 ea es⟩, ⟨fun k => w.heap.size ≤ k ∧ k < w1.heap.size, fun w2 => InsAt w2 (some ⟨p9, o9, none⟩) l1 ∧ LabAt w2 da ls⟩, ⟨fun k => k < w.heap.size, fun w' => Bytes w' a1 n1 ∧ Bytes w' a2 n2⟩] wl45) := Sta.own0 w.heap.size 41 3 HS45
      try simp only [Act.put, List.setIfInBounds_toArray, List.set_cons_zero, List.set_cons_succ]
      go_cut [14] (fun v0 wx => v0 = .bool true ∧ Hid (Sta [] w [(w21.heap.size, [.int .i64 3, .string ⟨#[]⟩, .string ⟨#[]⟩])] [⟨fun k => (Value.slice (some ⟨a28, 0, none⟩) m28 c28).ownBlock = some k, fun w' => InsO w' w.heap.size (.slice (some ⟨a28, 0, none⟩) m28 c28) (l1 ++ l2)⟩, ⟨fun k => w1.heap.size ≤ k ∧ k < w2.heap.size, fun w2 => InsAt w2 (some ⟨q9, r9, none⟩) l2 ∧ LabAt w2 ea es⟩, ⟨fun k => w.heap.size ≤ k ∧ k < w1.heap.size, fun w2 => InsAt w2 (some ⟨p9, o9, none⟩) l1 ∧ LabAt w2 da ls⟩, ⟨fun k => k < w.heap.size, fun w' => Bytes w' a1 n1 ∧ Bytes w' a2 n2⟩] wx))
      case first =>
        go_wp2_with fail
        have HS47 := Sta.drew HS46
        refine wp_region_held_drew (S := fun w' => w'.cell? ⟨w21.heap.size, 0, none⟩ = some (.int .i64 3) ∧ w'.cell? ⟨w21.heap.size, 1, none⟩ = some (.string ⟨#[]⟩) ∧ w'.cell? ⟨w21.heap.size, 2, none⟩ = some (.string ⟨#[]⟩)) (by kernel_rfl) ⟨Sta.c (i := 0) HS47 rfl rfl, Sta.c (i := 0) HS47 rfl rfl, Sta.c (i := 0) HS47 rfl rfl⟩ (fun hHeld => ?_)
        generalize wl45.drew = w47 at *
        refine wpAnyH_take (i := 1) (oi := ⟨_, _, _, _, _, _⟩) (v := .slice (some ⟨a28, 0, none⟩) m28 c28) rfl (by kernel_rfl) (by kernel_rfl) (by kernel_rfl) (fun _ _ _ h => h) (Or.inl ⟨wanted_free rfl, fun w' hSw => ?_⟩) hHeld ?_
        · go_simp
        try simp only [Act.put, List.setIfInBounds_toArray, List.set_cons_zero, List.set_cons_succ]
        refine wpAnyH_take (i := 3) (oi := ⟨_, _, _, _, _, _⟩) (v := .agg #[.int .i64 5, .string ⟨#[]⟩, .string ⟨#[]⟩]) rfl (by kernel_rfl) (by kernel_rfl) (by kernel_rfl) (fun _ _ _ h => h) (Or.inl ⟨wanted_free rfl, fun w' hSw => ?_⟩) hHeld ?_
        · go_simp
        try simp only [Act.put, List.setIfInBounds_toArray, List.set_cons_zero, List.set_cons_succ]
        refine wpAnyH_take (i := 4) (oi := ⟨_, _, _, _, _, _⟩) (v := .agg #[.int .i64 3, .string ⟨#[]⟩, .string ⟨#[]⟩]) rfl (by kernel_rfl) (by kernel_rfl) (by kernel_rfl) (fun _ _ _ h => h) (Or.inl ⟨wanted_free rfl, fun w' hSw => ?_⟩) hHeld ?_
        · obtain ⟨s0, s1, s2⟩ := hSw
          go_simp
        try simp only [Act.put, List.setIfInBounds_toArray, List.set_cons_zero, List.set_cons_succ]
        refine wpAnyH_take (i := 7) (oi := ⟨_, _, _, _, _, _⟩) (v := .slice da dm de) rfl (by kernel_rfl) (by kernel_rfl) (by kernel_rfl) (fun _ _ _ h => h) (Or.inl ⟨wanted_free rfl, fun w' hSw => ?_⟩) hHeld ?_
        · go_simp
        try simp only [Act.put, List.setIfInBounds_toArray, List.set_cons_zero, List.set_cons_succ]
        refine wpAnyH_ready (rs := [0, 5]) (by kernel_rfl) (by simp) (AllReadyH.cons (o := ⟨_, _, _, _, _, _⟩) rfl (fun K hK => ?_) (AllReadyH.cons (o := ⟨_, _, _, _, _, _⟩) rfl (fun K hK => ?_) AllReadyH.nil))
        · as_aux_lemma =>
          rewrite [if_pos (wanted_free rfl)]
          with_reducible refine wp_buildIns0 (by with_unfolding_all rfl) w.heap.size (Sta.size HS47) ?_
          intro w48 hO48 hG48
          have HS48 := Sta.app 0 HS47 rfl (Nat.le_refl _) hO48 hG48 (Or.inr rfl)
          clear hO48 hG48
          refine hK.out _ _ ⟨Sta.c (i := 0) HS48 rfl rfl, Sta.c (i := 0) HS48 rfl rfl, Sta.c (i := 0) HS48 rfl rfl⟩ (fun hHeld => ?_)
          clear hK K
          try simp only [Act.put, List.setIfInBounds_toArray, List.set_cons_zero, List.set_cons_succ]
          refine wpAnyH_ready (rs := [2, 5]) (by kernel_rfl) (by simp) (AllReadyH.cons (o := ⟨_, _, _, _, _, _⟩) rfl (fun K hK => ?_) (AllReadyH.cons (o := ⟨_, _, _, _, _, _⟩) rfl (fun K hK => ?_) AllReadyH.nil))
          · as_aux_lemma =>
            rewrite [if_pos (wanted_free rfl)]
            with_reducible refine wp_appendInsM (W := w48) (.tmp 80) (.tmp 81) (by with_unfolding_all rfl) w.heap.size (.slice (some ⟨w47.heap.size, 0, none⟩) 0 0) ([]) a28 0 m28 c28 (l1 ++ l2) (by with_unfolding_all rfl) (Sta.t (i := 0) HS48 rfl) (by with_unfolding_all rfl) Hm28.out (InsO.row (Sta.t (i := 1) HS48 rfl)).1.ins (by have hx := Hm28.out; have h1 := HY.out.len; have h2 := Hp1.out.1; have h3 := Hp2.out.1; simp only [List.length_append, List.length_cons, List.length_nil] at *; omega) (Sta.size HS48) ?_
            intro v49 w49 hO49 hG49 hb49
            obtain ⟨a49, m49, c49, hm49, rfl⟩ := InsO.formS hO49 (app_ne (app_ne HN2.out))
            have HS49 := Sta.app 0 HS48 rfl (Nat.le_refl _) hO49 hG49 hb49
            have Hm49 := hidP hm49
            clear hO49 hG49 hb49 hm49
            refine hK.out _ _ ⟨Sta.c (i := 0) HS49 rfl rfl, Sta.c (i := 0) HS49 rfl rfl, Sta.c (i := 0) HS49 rfl rfl⟩ (fun hHeld => ?_)
            clear hK K
            try simp only [Act.put, List.setIfInBounds_toArray, List.set_cons_zero, List.set_cons_succ]
            refine wpAnyH_ready (rs := [5]) (by kernel_rfl) (by simp) (AllReadyH.cons (o := ⟨_, _, _, _, _, _⟩) rfl (fun K hK => ?_) AllReadyH.nil)
            rewrite [if_pos (wanted_free rfl)]
            with_reducible refine wp_buildIns2 (.tmp 83) (.tmp 84) (by with_unfolding_all rfl) 5 (⟨#[]⟩) (⟨#[]⟩) 3 (⟨#[]⟩) (⟨#[]⟩) (by with_unfolding_all rfl) (by with_unfolding_all rfl) ?_
            intro w50 hA50 hB50
            have HS50 := Sta.new HS49 hA50 hB50 (by simp)
            clear hA50 hB50
            refine hK.out _ _ ⟨Sta.c (i := 1) HS50 rfl rfl, Sta.c (i := 1) HS50 rfl rfl, Sta.c (i := 1) HS50 rfl rfl⟩ (fun hHeld => ?_)
            clear hK K
            try simp only [Act.put, List.setIfInBounds_toArray, List.set_cons_zero, List.set_cons_succ]
            refine wpAnyH_ready (rs := [6]) (by kernel_rfl) (by simp) (AllReadyH.cons (o := ⟨_, _, _, _, _, _⟩) rfl (fun K hK => ?_) AllReadyH.nil)
            rewrite [if_pos (wanted_free rfl)]
            with_reducible refine wp_appendInsM (W := w50) (.tmp 82) (.tmp 85) (by with_unfolding_all rfl) w.heap.size (.slice (some ⟨a49, 0, none⟩) m49 c49) (l1 ++ l2) w49.heap.size 0 2 2 ([⟨5, ⟨#[]⟩, ⟨#[]⟩⟩, ⟨3, ⟨#[]⟩, ⟨#[]⟩⟩] : List InsV) (by with_unfolding_all rfl) (Sta.t (i := 0) HS50 rfl) (by with_unfolding_all rfl) rfl (RowV.ins (l := [⟨5, ⟨#[]⟩, ⟨#[]⟩⟩, ⟨3, ⟨#[]⟩, ⟨#[]⟩⟩]) (Sta.r (i := 0) HS50 (by with_unfolding_all rfl))) (by have hx := True.intro; have h1 := HY.out.len; have h2 := Hp1.out.1; have h3 := Hp2.out.1; simp only [List.length_append, List.length_cons, List.length_nil] at *; omega) (Sta.size HS50) ?_
            intro v51 w51 hO51 hG51 hb51
            obtain ⟨a51, m51, c51, hm51, rfl⟩ := InsO.formS hO51 (app_ne (by simp))
            have HS51 := Sta.app 0 HS50 rfl (Nat.le_refl _) hO51 hG51 hb51
            have Hm51 := hidP hm51
            clear hO51 hG51 hb51 hm51
            refine hK.out _ _ ⟨Sta.c (i := 1) HS51 rfl rfl, Sta.c (i := 1) HS51 rfl rfl, Sta.c (i := 1) HS51 rfl rfl⟩ (fun hHeld => ?_)
            clear hK K
            try simp only [Act.put, List.setIfInBounds_toArray, List.set_cons_zero, List.set_cons_succ]
            refine wpAnyH_ready (rs := [8]) (by kernel_rfl) (by simp) (AllReadyH.cons (o := ⟨_, _, _, _, _, _⟩) rfl (fun K hK => ?_) AllReadyH.nil)
            rewrite [if_pos (wanted_free rfl)]
            go_simp
            have n52_0 : InsAt w51 (some ⟨a51, 0, none⟩) ((l1 ++ l2) ++ ([⟨5, ⟨#[]⟩, ⟨#[]⟩⟩, ⟨3, ⟨#[]⟩, ⟨#[]⟩⟩] : List InsV)) := (InsO.row (Sta.t (i := 0) HS51 rfl)).1.ins
            have n52_1 : LabAt w51 da ls := (Sta.t (i := 3) HS51 rfl :).2
            have n52_2 : ls.length = dm ∧ dm ≤ 100 := (And.intro Hp1.out.2.2.2.1 Hp1.out.2.2.2.2.1)
            have n52_3 : ((l1 ++ l2) ++ ([⟨5, ⟨#[]⟩, ⟨#[]⟩⟩, ⟨3, ⟨#[]⟩, ⟨#[]⟩⟩] : List InsV)).length = m51 ∧ m51 ≤ 100 ∧ (∀ x ∈ ((l1 ++ l2) ++ ([⟨5, ⟨#[]⟩, ⟨#[]⟩⟩, ⟨3, ⟨#[]⟩, ⟨#[]⟩⟩] : List InsV)), x.w) := (len_w Hm51.out (by have h1 := HY.out.len; simp; omega) (w_app (w_app Hp1.out.2.2.1 Hp2.out.2.2.1) (w_two w_5 w_3)))
            have n52_4 : evalN ((l1 ++ l2) ++ ([⟨5, ⟨#[]⟩, ⟨#[]⟩⟩, ⟨3, ⟨#[]⟩, ⟨#[]⟩⟩] : List InsV)) ls = true := (HY.out.y)
            (with_reducible refine (hC18 w51 l1 da dm de ls l2 a51 m51 c51 n52_0 n52_1 n52_2 n52_3 n52_4).mono ?_)
            rintro r w52 ⟨rfl, hB52⟩
            have HS52 := Sta.call HS51 hB52
            clear hB52
            go_wp2_with fail
            refine hK.out _ _ ⟨Sta.c (i := 1) HS52 rfl rfl, Sta.c (i := 1) HS52 rfl rfl, Sta.c (i := 1) HS52 rfl rfl⟩ (fun hHeld => ?_)
            clear hK K
            try simp only [Act.put, List.setIfInBounds_toArray, List.set_cons_zero, List.set_cons_succ]
            refine wpAnyH_take (i := 9) (oi := ⟨_, _, _, _, _, _⟩) (v := .bool true) rfl (by kernel_rfl) (by kernel_rfl) (by kernel_rfl) (fun _ _ _ h => h) (Or.inl ⟨wanted_free rfl, fun w' hSw => ?_⟩) hHeld ?_
            · go_simp
            try simp only [Act.put, List.setIfInBounds_toArray, List.set_cons_zero, List.set_cons_succ]
            refine wpAnyH_done (by kernel_rfl) ?_ _
            clear hHeld
            go_wp2_with fail
            go_meet
            exact ⟨rfl, Sta.drop 1 1 HS52⟩
          · as_aux_lemma =>
            rewrite [if_pos (wanted_free rfl)]
            with_reducible refine wp_buildIns2 (.tmp 83) (.tmp 84) (by with_unfolding_all rfl) 5 (⟨#[]⟩) (⟨#[]⟩) 3 (⟨#[]⟩) (⟨#[]⟩) (by with_unfolding_all rfl) (by with_unfolding_all rfl) ?_
            intro w53 hA53 hB53
            have HS53 := Sta.new HS48 hA53 hB53 (by simp)
            clear hA53 hB53
            refine hK.out _ _ ⟨Sta.c (i := 1) HS53 rfl rfl, Sta.c (i := 1) HS53 rfl rfl, Sta.c (i := 1) HS53 rfl rfl⟩ (fun hHeld => ?_)
            clear hK K
            try simp only [Act.put, List.setIfInBounds_toArray, List.set_cons_zero, List.set_cons_succ]
            refine wpAnyH_ready (rs := [2]) (by kernel_rfl) (by simp) (AllReadyH.cons (o := ⟨_, _, _, _, _, _⟩) rfl (fun K hK => ?_) AllReadyH.nil)
            rewrite [if_pos (wanted_free rfl)]
            with_reducible refine wp_appendInsM (W := w53) (.tmp 80) (.tmp 81) (by with_unfolding_all rfl) w.heap.size (.slice (some ⟨w47.heap.size, 0, none⟩) 0 0) ([]) a28 0 m28 c28 (l1 ++ l2) (by with_unfolding_all rfl) (Sta.t (i := 0) HS53 rfl) (by with_unfolding_all rfl) Hm28.out (InsO.row (Sta.t (i := 1) HS53 rfl)).1.ins (by have hx := Hm28.out; have h1 := HY.out.len; have h2 := Hp1.out.1; have h3 := Hp2.out.1; simp only [List.length_append, List.length_cons, List.length_nil] at *; omega) (Sta.size HS53) ?_
            intro v54 w54 hO54 hG54 hb54
            obtain ⟨a54, m54, c54, hm54, rfl⟩ := InsO.formS hO54 (app_ne (app_ne HN2.out))
            have HS54 := Sta.app 0 HS53 rfl (Nat.le_refl _) hO54 hG54 hb54
            have Hm54 := hidP hm54
            clear hO54 hG54 hb54 hm54
            refine hK.out _ _ ⟨Sta.c (i := 1) HS54 rfl rfl, Sta.c (i := 1) HS54 rfl rfl, Sta.c (i := 1) HS54 rfl rfl⟩ (fun hHeld => ?_)
            clear hK K
            try simp only [Act.put, List.setIfInBounds_toArray, List.set_cons_zero, List.set_cons_succ]
            refine wpAnyH_ready (rs := [6]) (by kernel_rfl) (by simp) (AllReadyH.cons (o := ⟨_, _, _, _, _, _⟩) rfl (fun K hK => ?_) AllReadyH.nil)
            rewrite [if_pos (wanted_free rfl)]
            with_reducible refine wp_appendInsM (W := w54) (.tmp 82) (.tmp 85) (by with_unfolding_all rfl) w.heap.size (.slice (some ⟨a54, 0, none⟩) m54 c54) (l1 ++ l2) w48.heap.size 0 2 2 ([⟨5, ⟨#[]⟩, ⟨#[]⟩⟩, ⟨3, ⟨#[]⟩, ⟨#[]⟩⟩] : List InsV) (by with_unfolding_all rfl) (Sta.t (i := 0) HS54 rfl) (by with_unfolding_all rfl) rfl (RowV.ins (l := [⟨5, ⟨#[]⟩, ⟨#[]⟩⟩, ⟨3, ⟨#[]⟩, ⟨#[]⟩⟩]) (Sta.r (i := 0) HS54 (by with_unfolding_all rfl))) (by have hx := True.intro; have h1 := HY.out.len; have h2 := Hp1.out.1; have h3 := Hp2.out.1; simp only [List.length_append, List.length_cons, List.length_nil] at *; omega) (Sta.size HS54) ?_
            intro v55 w55 hO55 hG55 hb55
            obtain ⟨a55, m55, c55, hm55, rfl⟩ := InsO.formS hO55 (app_ne (by simp))
            have HS55 := Sta.app 0 HS54 rfl (Nat.le_refl _) hO55 hG55 hb55
            have Hm55 := hidP hm55
            clear hO55 hG55 hb55 hm55
            refine hK.out _ _ ⟨Sta.c (i := 1) HS55 rfl rfl, Sta.c (i := 1) HS55 rfl rfl, Sta.c (i := 1) HS55 rfl rfl⟩ (fun hHeld => ?_)
            clear hK K
            try simp only [Act.put, List.setIfInBounds_toArray, List.set_cons_zero, List.set_cons_succ]
            refine wpAnyH_ready (rs := [8]) (by kernel_rfl) (by simp) (AllReadyH.cons (o := ⟨_, _, _, _, _, _⟩) rfl (fun K hK => ?_) AllReadyH.nil)
            rewrite [if_pos (wanted_free rfl)]
            go_simp
            have n56_0 : InsAt w55 (some ⟨a55, 0, none⟩) ((l1 ++ l2) ++ ([⟨5, ⟨#[]⟩, ⟨#[]⟩⟩, ⟨3, ⟨#[]⟩, ⟨#[]⟩⟩] : List InsV)) := (InsO.row (Sta.t (i := 0) HS55 rfl)).1.ins
            have n56_1 : LabAt w55 da ls := (Sta.t (i := 3) HS55 rfl :).2
            have n56_2 : ls.length = dm ∧ dm ≤ 100 := (And.intro Hp1.out.2.2.2.1 Hp1.out.2.2.2.2.1)
            have n56_3 : ((l1 ++ l2) ++ ([⟨5, ⟨#[]⟩, ⟨#[]⟩⟩, ⟨3, ⟨#[]⟩, ⟨#[]⟩⟩] : List InsV)).length = m55 ∧ m55 ≤ 100 ∧ (∀ x ∈ ((l1 ++ l2) ++ ([⟨5, ⟨#[]⟩, ⟨#[]⟩⟩, ⟨3, ⟨#[]⟩, ⟨#[]⟩⟩] : List InsV)), x.w) := (len_w Hm55.out (by have h1 := HY.out.len; simp; omega) (w_app (w_app Hp1.out.2.2.1 Hp2.out.2.2.1) (w_two w_5 w_3)))
            have n56_4 : evalN ((l1 ++ l2) ++ ([⟨5, ⟨#[]⟩, ⟨#[]⟩⟩, ⟨3, ⟨#[]⟩, ⟨#[]⟩⟩] : List InsV)) ls = true := (HY.out.y)
            (with_reducible refine (hC19 w55 l1 da dm de ls l2 a55 m55 c55 n56_0 n56_1 n56_2 n56_3 n56_4).mono ?_)
            rintro r w56 ⟨rfl, hB56⟩
            have HS56 := Sta.call HS55 hB56
            clear hB56
            go_wp2_with fail
            refine hK.out _ _ ⟨Sta.c (i := 1) HS56 rfl rfl, Sta.c (i := 1) HS56 rfl rfl, Sta.c (i := 1) HS56 rfl rfl⟩ (fun hHeld => ?_)
            clear hK K
            try simp only [Act.put, List.setIfInBounds_toArray, List.set_cons_zero, List.set_cons_succ]
            refine wpAnyH_take (i := 9) (oi := ⟨_, _, _, _, _, _⟩) (v := .bool true) rfl (by kernel_rfl) (by kernel_rfl) (by kernel_rfl) (fun _ _ _ h => h) (Or.inl ⟨wanted_free rfl, fun w' hSw => ?_⟩) hHeld ?_
            · go_simp
            try simp only [Act.put, List.setIfInBounds_toArray, List.set_cons_zero, List.set_cons_succ]
            refine wpAnyH_done (by kernel_rfl) ?_ _
            clear hHeld
            go_wp2_with fail
            go_meet
            exact ⟨rfl, Sta.drop 1 1 HS56⟩
        · as_aux_lemma =>
          rewrite [if_pos (wanted_free rfl)]
          with_reducible refine wp_buildIns2 (.tmp 83) (.tmp 84) (by with_unfolding_all rfl) 5 (⟨#[]⟩) (⟨#[]⟩) 3 (⟨#[]⟩) (⟨#[]⟩) (by with_unfolding_all rfl) (by with_unfolding_all rfl) ?_
          intro w57 hA57 hB57
          have HS57 := Sta.new HS47 hA57 hB57 (by simp)
          clear hA57 hB57
          refine hK.out _ _ ⟨Sta.c (i := 1) HS57 rfl rfl, Sta.c (i := 1) HS57 rfl rfl, Sta.c (i := 1) HS57 rfl rfl⟩ (fun hHeld => ?_)
          clear hK K
          try simp only [Act.put, List.setIfInBounds_toArray, List.set_cons_zero, List.set_cons_succ]
          refine wpAnyH_ready (rs := [0]) (by kernel_rfl) (by simp) (AllReadyH.cons (o := ⟨_, _, _, _, _, _⟩) rfl (fun K hK => ?_) AllReadyH.nil)
          rewrite [if_pos (wanted_free rfl)]
          with_reducible refine wp_buildIns0 (by with_unfolding_all rfl) w.heap.size (Sta.size HS57) ?_
          intro w58 hO58 hG58
          have HS58 := Sta.app 0 HS57 rfl (Nat.le_refl _) hO58 hG58 (Or.inr rfl)
          clear hO58 hG58
          refine hK.out _ _ ⟨Sta.c (i := 1) HS58 rfl rfl, Sta.c (i := 1) HS58 rfl rfl, Sta.c (i := 1) HS58 rfl rfl⟩ (fun hHeld => ?_)
          clear hK K
          try simp only [Act.put, List.setIfInBounds_toArray, List.set_cons_zero, List.set_cons_succ]
          refine wpAnyH_ready (rs := [2]) (by kernel_rfl) (by simp) (AllReadyH.cons (o := ⟨_, _, _, _, _, _⟩) rfl (fun K hK => ?_) AllReadyH.nil)
          rewrite [if_pos (wanted_free rfl)]
          with_reducible refine wp_appendInsM (W := w58) (.tmp 80) (.tmp 81) (by with_unfolding_all rfl) w.heap.size (.slice (some ⟨w57.heap.size, 0, none⟩) 0 0) ([]) a28 0 m28 c28 (l1 ++ l2) (by with_unfolding_all rfl) (Sta.t (i := 0) HS58 rfl) (by with_unfolding_all rfl) Hm28.out (InsO.row (Sta.t (i := 1) HS58 rfl)).1.ins (by have hx := Hm28.out; have h1 := HY.out.len; have h2 := Hp1.out.1; have h3 := Hp2.out.1; simp only [List.length_append, List.length_cons, List.length_nil] at *; omega) (Sta.size HS58) ?_
          intro v59 w59 hO59 hG59 hb59
          obtain ⟨a59, m59, c59, hm59, rfl⟩ := InsO.formS hO59 (app_ne (app_ne HN2.out))
          have HS59 := Sta.app 0 HS58 rfl (Nat.le_refl _) hO59 hG59 hb59
          have Hm59 := hidP hm59
          clear hO59 hG59 hb59 hm59
          refine hK.out _ _ ⟨Sta.c (i := 1) HS59 rfl rfl, Sta.c (i := 1) HS59 rfl rfl, Sta.c (i := 1) HS59 rfl rfl⟩ (fun hHeld => ?_)
          clear hK K
          try simp only [Act.put, List.setIfInBounds_toArray, List.set_cons_zero, List.set_cons_succ]
          refine wpAnyH_ready (rs := [6]) (by kernel_rfl) (by simp) (AllReadyH.cons (o := ⟨_, _, _, _, _, _⟩) rfl (fun K hK => ?_) AllReadyH.nil)
          rewrite [if_pos (wanted_free rfl)]
          with_reducible refine wp_appendInsM (W := w59) (.tmp 82) (.tmp 85) (by with_unfolding_all rfl) w.heap.size (.slice (some ⟨a59, 0, none⟩) m59 c59) (l1 ++ l2) w47.heap.size 0 2 2 ([⟨5, ⟨#[]⟩, ⟨#[]⟩⟩, ⟨3, ⟨#[]⟩, ⟨#[]⟩⟩] : List InsV) (by with_unfolding_all rfl) (Sta.t (i := 0) HS59 rfl) (by with_unfolding_all rfl) rfl (RowV.ins (l := [⟨5, ⟨#[]⟩, ⟨#[]⟩⟩, ⟨3, ⟨#[]⟩, ⟨#[]⟩⟩]) (Sta.r (i := 0) HS59 (by with_unfolding_all rfl))) (by have hx := True.intro; have h1 := HY.out.len; have h2 := Hp1.out.1; have h3 := Hp2.out.1; simp only [List.length_append, List.length_cons, List.length_nil] at *; omega) (Sta.size HS59) ?_
          intro v60 w60 hO60 hG60 hb60
          obtain ⟨a60, m60, c60, hm60, rfl⟩ := InsO.formS hO60 (app_ne (by simp))
          have HS60 := Sta.app 0 HS59 rfl (Nat.le_refl _) hO60 hG60 hb60
          have Hm60 := hidP hm60
          clear hO60 hG60 hb60 hm60
          refine hK.out _ _ ⟨Sta.c (i := 1) HS60 rfl rfl, Sta.c (i := 1) HS60 rfl rfl, Sta.c (i := 1) HS60 rfl rfl⟩ (fun hHeld => ?_)
          clear hK K
          try simp only [Act.put, List.setIfInBounds_toArray, List.set_cons_zero, List.set_cons_succ]
          refine wpAnyH_ready (rs := [8]) (by kernel_rfl) (by simp) (AllReadyH.cons (o := ⟨_, _, _, _, _, _⟩) rfl (fun K hK => ?_) AllReadyH.nil)
          rewrite [if_pos (wanted_free rfl)]
          go_simp
          have n61_0 : InsAt w60 (some ⟨a60, 0, none⟩) ((l1 ++ l2) ++ ([⟨5, ⟨#[]⟩, ⟨#[]⟩⟩, ⟨3, ⟨#[]⟩, ⟨#[]⟩⟩] : List InsV)) := (InsO.row (Sta.t (i := 0) HS60 rfl)).1.ins
          have n61_1 : LabAt w60 da ls := (Sta.t (i := 3) HS60 rfl :).2
          have n61_2 : ls.length = dm ∧ dm ≤ 100 := (And.intro Hp1.out.2.2.2.1 Hp1.out.2.2.2.2.1)
          have n61_3 : ((l1 ++ l2) ++ ([⟨5, ⟨#[]⟩, ⟨#[]⟩⟩, ⟨3, ⟨#[]⟩, ⟨#[]⟩⟩] : List InsV)).length = m60 ∧ m60 ≤ 100 ∧ (∀ x ∈ ((l1 ++ l2) ++ ([⟨5, ⟨#[]⟩, ⟨#[]⟩⟩, ⟨3, ⟨#[]⟩, ⟨#[]⟩⟩] : List InsV)), x.w) := (len_w Hm60.out (by have h1 := HY.out.len; simp; omega) (w_app (w_app Hp1.out.2.2.1 Hp2.out.2.2.1) (w_two w_5 w_3)))
          have n61_4 : evalN ((l1 ++ l2) ++ ([⟨5, ⟨#[]⟩, ⟨#[]⟩⟩, ⟨3, ⟨#[]⟩, ⟨#[]⟩⟩] : List InsV)) ls = true := (HY.out.y)
          (with_reducible refine (hC20 w60 l1 da dm de ls l2 a60 m60 c60 n61_0 n61_1 n61_2 n61_3 n61_4).mono ?_)
          rintro r w61 ⟨rfl, hB61⟩
          have HS61 := Sta.call HS60 hB61
          clear hB61
          go_wp2_with fail
          refine hK.out _ _ ⟨Sta.c (i := 1) HS61 rfl rfl, Sta.c (i := 1) HS61 rfl rfl, Sta.c (i := 1) HS61 rfl rfl⟩ (fun hHeld => ?_)
          clear hK K
          try simp only [Act.put, List.setIfInBounds_toArray, List.set_cons_zero, List.set_cons_succ]
          refine wpAnyH_take (i := 9) (oi := ⟨_, _, _, _, _, _⟩) (v := .bool true) rfl (by kernel_rfl) (by kernel_rfl) (by kernel_rfl) (fun _ _ _ h => h) (Or.inl ⟨wanted_free rfl, fun w' hSw => ?_⟩) hHeld ?_
          · go_simp
          try simp only [Act.put, List.setIfInBounds_toArray, List.set_cons_zero, List.set_cons_succ]
          refine wpAnyH_done (by kernel_rfl) ?_ _
          clear hHeld
          go_wp2_with fail
          go_meet
          exact ⟨rfl, Sta.drop 1 1 HS61⟩
      case rest =>
        obtain ⟨rfl, HS62⟩ := hcut
        rename Go.World => wl62
        go_wp2_with fail
        have HS63 : Hid (Sta [] w [(w21.heap.size, [.int .i64 3, .string ⟨#[]⟩, .string ⟨#[]⟩])] [⟨fun k => (Value.slice none 0 0).ownBlock = some k, fun w' => InsO w' w.heap.size (.slice none 0 0) ([])⟩, ⟨fun k => (Value.slice (some ⟨a28, 0, none⟩) m28 c28).ownBlock = some k, fun w' => InsO w' w.heap.size (.slice (some ⟨a28, 0, none⟩) m28 c28) (l1 ++ l2)⟩, ⟨fun k => w1.heap.size ≤ k ∧ k < w2.heap.size, fun w2 => InsAt w2 (some ⟨q9, r9, none⟩) l2 ∧ LabAt w2 ea es⟩, ⟨fun k => w.heap.size ≤ k ∧ k < w1.heap.size, fun w2 => InsAt w2 (some ⟨p9, o9, none⟩) l1 ∧ LabAt w2 da ls⟩, ⟨fun k => k < w.heap.size, fun w' => Bytes w' a1 n1 ∧ Bytes w' a2 n2⟩] wl62) := Sta.own0 w.heap.size 41 3 HS62
        try simp only [Act.put, List.setIfInBounds_toArray, List.set_cons_zero, List.set_cons_succ]
        go_cut [15] (fun v0 wx => ∃ (g15 : Nat) (m15 : Nat) (k15 : Nat), v0 = .slice (some ⟨g15, 0, none⟩) m15 k15 ∧ Hid ((l1 ++ ([⟨3, ⟨#[]⟩, ⟨#[]⟩⟩] : List InsV)).length = m15) ∧ Hid (Sta [] w [(w21.heap.size, [.int .i64 3, .string ⟨#[]⟩, .string ⟨#[]⟩])] [⟨fun k => (Value.slice (some ⟨g15, 0, none⟩) m15 k15).ownBlock = some k, fun w' => InsO w' w.heap.size (.slice (some ⟨g15, 0, none⟩) m15 k15) (l1 ++ ([⟨3, ⟨#[]⟩, ⟨#[]⟩⟩] : List InsV))⟩, ⟨fun k => (Value.slice (some ⟨a28, 0, none⟩) m28 c28).ownBlock = some k, fun w' => InsO w' w.heap.size (.slice (some ⟨a28, 0, none⟩) m28 c28) (l1 ++ l2)⟩, ⟨fun k => w1.heap.size ≤ k ∧ k < w2.heap.size, fun w2 => InsAt w2 (some ⟨q9, r9, none⟩) l2 ∧ LabAt w2 ea es⟩, ⟨fun k => w.heap.size ≤ k ∧ k < w1.heap.size, fun w2 => InsAt w2 (some ⟨p9, o9, none⟩) l1 ∧ LabAt w2 da ls⟩, ⟨fun k => k < w.heap.size, fun w' => Bytes w' a1 n1 ∧ Bytes w' a2 n2⟩] wx))
        case first =>
          go_wp2_with fail
          have HS64 := Sta.drew HS63
          refine wp_region_held_drew (S := fun w' => w'.cell? ⟨w21.heap.size, 0, none⟩ = some (.int .i64 3) ∧ w'.cell? ⟨w21.heap.size, 1, none⟩ = some (.string ⟨#[]⟩) ∧ w'.cell? ⟨w21.heap.size, 2, none⟩ = some (.string ⟨#[]⟩)) (by kernel_rfl) ⟨Sta.c (i := 0) HS64 rfl rfl, Sta.c (i := 0) HS64 rfl rfl, Sta.c (i := 0) HS64 rfl rfl⟩ (fun hHeld => ?_)
          generalize wl62.drew = w64 at *
          refine wpAnyH_take (i := 1) (oi := ⟨_, _, _, _, _, _⟩) (v := .slice (some ⟨p9, o9, none⟩) pn pc) rfl (by kernel_rfl) (by kernel_rfl) (by kernel_rfl) (fun _ _ _ h => h) (Or.inl ⟨wanted_free rfl, fun w' hSw => ?_⟩) hHeld ?_
          · go_simp
          try simp only [Act.put, List.setIfInBounds_toArray, List.set_cons_zero, List.set_cons_succ]
          refine wpAnyH_take (i := 3) (oi := ⟨_, _, _, _, _, _⟩) (v := .agg #[.int .i64 3, .string ⟨#[]⟩, .string ⟨#[]⟩]) rfl (by kernel_rfl) (by kernel_rfl) (by kernel_rfl) (fun _ _ _ h => h) (Or.inl ⟨wanted_free rfl, fun w' hSw => ?_⟩) hHeld ?_
          · obtain ⟨s0, s1, s2⟩ := hSw
            go_simp
          try simp only [Act.put, List.setIfInBounds_toArray, List.set_cons_zero, List.set_cons_succ]
          refine wpAnyH_ready (rs := [0, 4]) (by kernel_rfl) (by simp) (AllReadyH.cons (o := ⟨_, _, _, _, _, _⟩) rfl (fun K hK => ?_) (AllReadyH.cons (o := ⟨_, _, _, _, _, _⟩) rfl (fun K hK => ?_) AllReadyH.nil))
          · as_aux_lemma =>
            rewrite [if_pos (wanted_free rfl)]
            with_reducible refine wp_buildIns0 (by with_unfolding_all rfl) w.heap.size (Sta.size HS64) ?_
            intro w65 hO65 hG65
            have HS65 := Sta.app 0 HS64 rfl (Nat.le_refl _) hO65 hG65 (Or.inr rfl)
            clear hO65 hG65
            refine hK.out _ _ ⟨Sta.c (i := 0) HS65 rfl rfl, Sta.c (i := 0) HS65 rfl rfl, Sta.c (i := 0) HS65 rfl rfl⟩ (fun hHeld => ?_)
            clear hK K
            try simp only [Act.put, List.setIfInBounds_toArray, List.set_cons_zero, List.set_cons_succ]
            refine wpAnyH_ready (rs := [2, 4]) (by kernel_rfl) (by simp) (AllReadyH.cons (o := ⟨_, _, _, _, _, _⟩) rfl (fun K hK => ?_) (AllReadyH.cons (o := ⟨_, _, _, _, _, _⟩) rfl (fun K hK => ?_) AllReadyH.nil))
            · as_aux_lemma =>
              rewrite [if_pos (wanted_free rfl)]
              with_reducible refine wp_appendInsM (W := w65) (.tmp 89) (.tmp 90) (by with_unfolding_all rfl) w.heap.size (.slice (some ⟨w64.heap.size, 0, none⟩) 0 0) ([]) p9 o9 pn pc l1 (by with_unfolding_all rfl) (Sta.t (i := 0) HS65 rfl) (by with_unfolding_all rfl) Hp1.out.1 (Sta.t (i := 3) HS65 rfl :).1 (by have hx := Hp1.out.1; have h1 := HY.out.len; have h2 := Hp1.out.1; have h3 := Hp2.out.1; simp only [List.length_append, List.length_cons, List.length_nil] at *; omega) (Sta.size HS65) ?_
              intro v66 w66 hO66 hG66 hb66
              obtain ⟨a66, m66, c66, hm66, rfl⟩ := InsO.formS hO66 (app_ne HN1.out)
              have HS66 := Sta.app 0 HS65 rfl (Nat.le_refl _) hO66 hG66 hb66
              have Hm66 := hidP hm66
              clear hO66 hG66 hb66 hm66
              refine hK.out _ _ ⟨Sta.c (i := 0) HS66 rfl rfl, Sta.c (i := 0) HS66 rfl rfl, Sta.c (i := 0) HS66 rfl rfl⟩ (fun hHeld => ?_)
              clear hK K
              try simp only [Act.put, List.setIfInBounds_toArray, List.set_cons_zero, List.set_cons_succ]
              refine wpAnyH_ready (rs := [4]) (by kernel_rfl) (by simp) (AllReadyH.cons (o := ⟨_, _, _, _, _, _⟩) rfl (fun K hK => ?_) AllReadyH.nil)
              rewrite [if_pos (wanted_free rfl)]
              with_reducible refine wp_buildIns (.tmp 92) (by with_unfolding_all rfl) 3 (⟨#[]⟩) (⟨#[]⟩) (by with_unfolding_all rfl) ?_
              intro w67 hA67 hB67
              have HS67 := Sta.new HS66 hA67 hB67 (by simp [insv])
              clear hA67 hB67
              refine hK.out _ _ ⟨Sta.c (i := 1) HS67 rfl rfl, Sta.c (i := 1) HS67 rfl rfl, Sta.c (i := 1) HS67 rfl rfl⟩ (fun hHeld => ?_)
              clear hK K
              try simp only [Act.put, List.setIfInBounds_toArray, List.set_cons_zero, List.set_cons_succ]
              refine wpAnyH_ready (rs := [5]) (by kernel_rfl) (by simp) (AllReadyH.cons (o := ⟨_, _, _, _, _, _⟩) rfl (fun K hK => ?_) AllReadyH.nil)
              rewrite [if_pos (wanted_free rfl)]
              with_reducible refine wp_appendInsM (W := w67) (.tmp 91) (.tmp 93) (by with_unfolding_all rfl) w.heap.size (.slice (some ⟨a66, 0, none⟩) m66 c66) l1 w66.heap.size 0 1 1 ([⟨3, ⟨#[]⟩, ⟨#[]⟩⟩] : List InsV) (by with_unfolding_all rfl) (Sta.t (i := 0) HS67 rfl) (by with_unfolding_all rfl) rfl (RowV.ins (l := [⟨3, ⟨#[]⟩, ⟨#[]⟩⟩]) (Sta.r (i := 0) HS67 (by with_unfolding_all rfl))) (by have hx := True.intro; have h1 := HY.out.len; have h2 := Hp1.out.1; have h3 := Hp2.out.1; simp only [List.length_append, List.length_cons, List.length_nil] at *; omega) (Sta.size HS67) ?_
              intro v68 w68 hO68 hG68 hb68
              obtain ⟨a68, m68, c68, hm68, rfl⟩ := InsO.formS hO68 (app_ne (by simp))
              have HS68 := Sta.app 0 HS67 rfl (Nat.le_refl _) hO68 hG68 hb68
              have Hm68 := hidP hm68
              clear hO68 hG68 hb68 hm68
              refine hK.out _ _ ⟨Sta.c (i := 1) HS68 rfl rfl, Sta.c (i := 1) HS68 rfl rfl, Sta.c (i := 1) HS68 rfl rfl⟩ (fun hHeld => ?_)
              clear hK K
              try simp only [Act.put, List.setIfInBounds_toArray, List.set_cons_zero, List.set_cons_succ]
              refine wpAnyH_take (i := 6) (oi := ⟨_, _, _, _, _, _⟩) (v := .slice (some ⟨a68, 0, none⟩) m68 c68) rfl (by kernel_rfl) (by kernel_rfl) (by kernel_rfl) (fun _ _ _ h => h) (Or.inl ⟨wanted_free rfl, fun w' hSw => ?_⟩) hHeld ?_
              · go_simp
              try simp only [Act.put, List.setIfInBounds_toArray, List.set_cons_zero, List.set_cons_succ]
              refine wpAnyH_done (by kernel_rfl) ?_ _
              clear hHeld
              go_wp2_with fail
              go_meet
              exact ⟨a68, m68, c68, rfl, Hm68, Sta.drop 1 0 HS68⟩
            · as_aux_lemma =>
              rewrite [if_pos (wanted_free rfl)]
              with_reducible refine wp_buildIns (.tmp 92) (by with_unfolding_all rfl) 3 (⟨#[]⟩) (⟨#[]⟩) (by with_unfolding_all rfl) ?_
              intro w69 hA69 hB69
              have HS69 := Sta.new HS65 hA69 hB69 (by simp [insv])
              clear hA69 hB69
              refine hK.out _ _ ⟨Sta.c (i := 1) HS69 rfl rfl, Sta.c (i := 1) HS69 rfl rfl, Sta.c (i := 1) HS69 rfl rfl⟩ (fun hHeld => ?_)
              clear hK K
              try simp only [Act.put, List.setIfInBounds_toArray, List.set_cons_zero, List.set_cons_succ]
              refine wpAnyH_ready (rs := [2]) (by kernel_rfl) (by simp) (AllReadyH.cons (o := ⟨_, _, _, _, _, _⟩) rfl (fun K hK => ?_) AllReadyH.nil)
              rewrite [if_pos (wanted_free rfl)]
              with_reducible refine wp_appendInsM (W := w69) (.tmp 89) (.tmp 90) (by with_unfolding_all rfl) w.heap.size (.slice (some ⟨w64.heap.size, 0, none⟩) 0 0) ([]) p9 o9 pn pc l1 (by with_unfolding_all rfl) (Sta.t (i := 0) HS69 rfl) (by with_unfolding_all rfl) Hp1.out.1 (Sta.t (i := 3) HS69 rfl :).1 (by have hx := Hp1.out.1; have h1 := HY.out.len; have h2 := Hp1.out.1; have h3 := Hp2.out.1; simp only [List.length_append, List.length_cons, List.length_nil] at *; omega) (Sta.size HS69) ?_
              intro v70 w70 hO70 hG70 hb70
              obtain ⟨a70, m70, c70, hm70, rfl⟩ := InsO.formS hO70 (app_ne HN1.out)
              have HS70 := Sta.app 0 HS69 rfl (Nat.le_refl _) hO70 hG70 hb70
              have Hm70 := hidP hm70
              clear hO70 hG70 hb70 hm70
              refine hK.out _ _ ⟨Sta.c (i := 1) HS70 rfl rfl, Sta.c (i := 1) HS70 rfl rfl, Sta.c (i := 1) HS70 rfl rfl⟩ (fun hHeld => ?_)
              clear hK K
              try simp only [Act.put, List.setIfInBounds_toArray, List.set_cons_zero, List.set_cons_succ]
              refine wpAnyH_ready (rs := [5]) (by kernel_rfl) (by simp) (AllReadyH.cons (o := ⟨_, _, _, _, _, _⟩) rfl (fun K hK => ?_) AllReadyH.nil)
              rewrite [if_pos (wanted_free rfl)]
              with_reducible refine wp_appendInsM (W := w70) (.tmp 91) (.tmp 93) (by with_unfolding_all rfl) w.heap.size (.slice (some ⟨a70, 0, none⟩) m70 c70) l1 w65.heap.size 0 1 1 ([⟨3, ⟨#[]⟩, ⟨#[]⟩⟩] : List InsV) (by with_unfolding_all rfl) (Sta.t (i := 0) HS70 rfl) (by with_unfolding_all rfl) rfl (RowV.ins (l := [⟨3, ⟨#[]⟩, ⟨#[]⟩⟩]) (Sta.r (i := 0) HS70 (by with_unfolding_all rfl))) (by have hx := True.intro; have h1 := HY.out.len; have h2 := Hp1.out.1; have h3 := Hp2.out.1; simp only [List.length_append, List.length_cons, List.length_nil] at *; omega) (Sta.size HS70) ?_
              intro v71 w71 hO71 hG71 hb71
              obtain ⟨a71, m71, c71, hm71, rfl⟩ := InsO.formS hO71 (app_ne (by simp))
              have HS71 := Sta.app 0 HS70 rfl (Nat.le_refl _) hO71 hG71 hb71
              have Hm71 := hidP hm71
              clear hO71 hG71 hb71 hm71
              refine hK.out _ _ ⟨Sta.c (i := 1) HS71 rfl rfl, Sta.c (i := 1) HS71 rfl rfl, Sta.c (i := 1) HS71 rfl rfl⟩ (fun hHeld => ?_)
              clear hK K
              try simp only [Act.put, List.setIfInBounds_toArray, List.set_cons_zero, List.set_cons_succ]
              refine wpAnyH_take (i := 6) (oi := ⟨_, _, _, _, _, _⟩) (v := .slice (some ⟨a71, 0, none⟩) m71 c71) rfl (by kernel_rfl) (by kernel_rfl) (by kernel_rfl) (fun _ _ _ h => h) (Or.inl ⟨wanted_free rfl, fun w' hSw => ?_⟩) hHeld ?_
              · go_simp
              try simp only [Act.put, List.setIfInBounds_toArray, List.set_cons_zero, List.set_cons_succ]
              refine wpAnyH_done (by kernel_rfl) ?_ _
              clear hHeld
              go_wp2_with fail
              go_meet
              exact ⟨a71, m71, c71, rfl, Hm71, Sta.drop 1 0 HS71⟩
          · as_aux_lemma =>
            rewrite [if_pos (wanted_free rfl)]
            with_reducible refine wp_buildIns (.tmp 92) (by with_unfolding_all rfl) 3 (⟨#[]⟩) (⟨#[]⟩) (by with_unfolding_all rfl) ?_
            intro w72 hA72 hB72
            have HS72 := Sta.new HS64 hA72 hB72 (by simp [insv])
            clear hA72 hB72
            refine hK.out _ _ ⟨Sta.c (i := 1) HS72 rfl rfl, Sta.c (i := 1) HS72 rfl rfl, Sta.c (i := 1) HS72 rfl rfl⟩ (fun hHeld => ?_)
            clear hK K
            try simp only [Act.put, List.setIfInBounds_toArray, List.set_cons_zero, List.set_cons_succ]
            refine wpAnyH_ready (rs := [0]) (by kernel_rfl) (by simp) (AllReadyH.cons (o := ⟨_, _, _, _, _, _⟩) rfl (fun K hK => ?_) AllReadyH.nil)
            rewrite [if_pos (wanted_free rfl)]
            with_reducible refine wp_buildIns0 (by with_unfolding_all rfl) w.heap.size (Sta.size HS72) ?_
            intro w73 hO73 hG73
            have HS73 := Sta.app 0 HS72 rfl (Nat.le_refl _) hO73 hG73 (Or.inr rfl)
            clear hO73 hG73
            refine hK.out _ _ ⟨Sta.c (i := 1) HS73 rfl rfl, Sta.c (i := 1) HS73 rfl rfl, Sta.c (i := 1) HS73 rfl rfl⟩ (fun hHeld => ?_)
            clear hK K
            try simp only [Act.put, List.setIfInBounds_toArray, List.set_cons_zero, List.set_cons_succ]
            refine wpAnyH_ready (rs := [2]) (by kernel_rfl) (by simp) (AllReadyH.cons (o := ⟨_, _, _, _, _, _⟩) rfl (fun K hK => ?_) AllReadyH.nil)
            rewrite [if_pos (wanted_free rfl)]
            with_reducible refine wp_appendInsM (W := w73) (.tmp 89) (.tmp 90) (by with_unfolding_all rfl) w.heap.size (.slice (some ⟨w72.heap.size, 0, none⟩) 0 0) ([]) p9 o9 pn pc l1 (by with_unfolding_all rfl) (Sta.t (i := 0) HS73 rfl) (by with_unfolding_all rfl) Hp1.out.1 (Sta.t (i := 3) HS73 rfl :).1 (by have hx := Hp1.out.1; have h1 := HY.out.len; have h2 := Hp1.out.1; have h3 := Hp2.out.1; simp only [List.length_append, List.length_cons, List.length_nil] at *; omega) (Sta.size HS73) ?_
            intro v74 w74 hO74 hG74 hb74
            obtain ⟨a74, m74, c74, hm74, rfl⟩ := InsO.formS hO74 (app_ne HN1.out)
            have HS74 := Sta.app 0 HS73 rfl (Nat.le_refl _) hO74 hG74 hb74
            have Hm74 := hidP hm74
            clear hO74 hG74 hb74 hm74
            refine hK.out _ _ ⟨Sta.c (i := 1) HS74 rfl rfl, Sta.c (i := 1) HS74 rfl rfl, Sta.c (i := 1) HS74 rfl rfl⟩ (fun hHeld => ?_)
            clear hK K
            try simp only [Act.put, List.setIfInBounds_toArray, List.set_cons_zero, List.set_cons_succ]
            refine wpAnyH_ready (rs := [5]) (by kernel_rfl) (by simp) (AllReadyH.cons (o := ⟨_, _, _, _, _, _⟩) rfl (fun K hK => ?_) AllReadyH.nil)
            rewrite [if_pos (wanted_free rfl)]
            with_reducible refine wp_appendInsM (W := w74) (.tmp 91) (.tmp 93) (by with_unfolding_all rfl) w.heap.size (.slice (some ⟨a74, 0, none⟩) m74 c74) l1 w64.heap.size 0 1 1 ([⟨3, ⟨#[]⟩, ⟨#[]⟩⟩] : List InsV) (by with_unfolding_all rfl) (Sta.t (i := 0) HS74 rfl) (by with_unfolding_all rfl) rfl (RowV.ins (l := [⟨3, ⟨#[]⟩, ⟨#[]⟩⟩]) (Sta.r (i := 0) HS74 (by with_unfolding_all rfl))) (by have hx := True.intro; have h1 := HY.out.len; have h2 := Hp1.out.1; have h3 := Hp2.out.1; simp only [List.length_append, List.length_cons, List.length_nil] at *; omega) (Sta.size HS74) ?_
            intro v75 w75 hO75 hG75 hb75
            obtain ⟨a75, m75, c75, hm75, rfl⟩ := InsO.formS hO75 (app_ne (by simp))
            have HS75 := Sta.app 0 HS74 rfl (Nat.le_refl _) hO75 hG75 hb75
            have Hm75 := hidP hm75
            clear hO75 hG75 hb75 hm75
            refine hK.out _ _ ⟨Sta.c (i := 1) HS75 rfl rfl, Sta.c (i := 1) HS75 rfl rfl, Sta.c (i := 1) HS75 rfl rfl⟩ (fun hHeld => ?_)
            clear hK K
            try simp only [Act.put, List.setIfInBounds_toArray, List.set_cons_zero, List.set_cons_succ]
            refine wpAnyH_take (i := 6) (oi := ⟨_, _, _, _, _, _⟩) (v := .slice (some ⟨a75, 0, none⟩) m75 c75) rfl (by kernel_rfl) (by kernel_rfl) (by kernel_rfl) (fun _ _ _ h => h) (Or.inl ⟨wanted_free rfl, fun w' hSw => ?_⟩) hHeld ?_
            · go_simp
            try simp only [Act.put, List.setIfInBounds_toArray, List.set_cons_zero, List.set_cons_succ]
            refine wpAnyH_done (by kernel_rfl) ?_ _
            clear hHeld
            go_wp2_with fail
            go_meet
            exact ⟨a75, m75, c75, rfl, Hm75, Sta.drop 1 0 HS75⟩
        case rest =>
          obtain ⟨g15, m15, k15, rfl, H15, HS76⟩ := hcut
          rename Go.World => wl76
          go_wp2_with fail
          try simp only [Act.put, List.setIfInBounds_toArray, List.set_cons_zero, List.set_cons_succ]
          go_cut [15] (fun v0 wx => ∃ (g16 : Nat) (m16 : Nat) (k16 : Nat), v0 = .slice (some ⟨g16, 0, none⟩) m16 k16 ∧ Hid ((((l1 ++ ([⟨3, ⟨#[]⟩, ⟨#[]⟩⟩] : List InsV)) ++ l2) ++ ([⟨3, ⟨#[]⟩, ⟨#[]⟩⟩] : List InsV)).length = m16) ∧ Hid (Sta [] w [(w21.heap.size, [.int .i64 3, .string ⟨#[]⟩, .string ⟨#[]⟩])] [⟨fun k => (Value.slice (some ⟨g16, 0, none⟩) m16 k16).ownBlock = some k, fun w' => InsO w' w.heap.size (.slice (some ⟨g16, 0, none⟩) m16 k16) (((l1 ++ ([⟨3, ⟨#[]⟩, ⟨#[]⟩⟩] : List InsV)) ++ l2) ++ ([⟨3, ⟨#[]⟩, ⟨#[]⟩⟩] : List InsV))⟩, ⟨fun k => (Value.slice (some ⟨a28, 0, none⟩) m28 c28).ownBlock = some k, fun w' => InsO w' w.heap.size (.slice (some ⟨a28, 0, none⟩) m28 c28) (l1 ++ l2)⟩, ⟨fun k => w1.heap.size ≤ k ∧ k < w2.heap.size, fun w2 => InsAt w2 (some ⟨q9, r9, none⟩) l2 ∧ LabAt w2 ea es⟩, ⟨fun k => w.heap.size ≤ k ∧ k < w1.heap.size, fun w2 => InsAt w2 (some ⟨p9, o9, none⟩) l1 ∧ LabAt w2 da ls⟩, ⟨fun k => k < w.heap.size, fun w' => Bytes w' a1 n1 ∧ Bytes w' a2 n2⟩] wx))
          case first =>
            go_wp2_with fail
            have HS77 := Sta.drew HS76
            refine wp_region_held_drew (S := fun w' => w'.cell? ⟨w21.heap.size, 0, none⟩ = some (.int .i64 3) ∧ w'.cell? ⟨w21.heap.size, 1, none⟩ = some (.string ⟨#[]⟩) ∧ w'.cell? ⟨w21.heap.size, 2, none⟩ = some (.string ⟨#[]⟩)) (by kernel_rfl) ⟨Sta.c (i := 0) HS77 rfl rfl, Sta.c (i := 0) HS77 rfl rfl, Sta.c (i := 0) HS77 rfl rfl⟩ (fun hHeld => ?_)
            generalize wl76.drew = w77 at *
            refine wpAnyH_take (i := 0) (oi := ⟨_, _, _, _, _, _⟩) (v := .slice (some ⟨g15, 0, none⟩) m15 k15) rfl (by kernel_rfl) (by kernel_rfl) (by kernel_rfl) (fun _ _ _ h => h) (Or.inl ⟨wanted_free rfl, fun w' hSw => ?_⟩) hHeld ?_
            · go_simp
            try simp only [Act.put, List.setIfInBounds_toArray, List.set_cons_zero, List.set_cons_succ]
            refine wpAnyH_take (i := 1) (oi := ⟨_, _, _, _, _, _⟩) (v := .slice (some ⟨q9, r9, none⟩) qn qc) rfl (by kernel_rfl) (by kernel_rfl) (by kernel_rfl) (fun _ _ _ h => h) (Or.inl ⟨wanted_free rfl, fun w' hSw => ?_⟩) hHeld ?_
            · go_simp
            try simp only [Act.put, List.setIfInBounds_toArray, List.set_cons_zero, List.set_cons_succ]
            refine wpAnyH_take (i := 3) (oi := ⟨_, _, _, _, _, _⟩) (v := .agg #[.int .i64 3, .string ⟨#[]⟩, .string ⟨#[]⟩]) rfl (by kernel_rfl) (by kernel_rfl) (by kernel_rfl) (fun _ _ _ h => h) (Or.inl ⟨wanted_free rfl, fun w' hSw => ?_⟩) hHeld ?_
            · obtain ⟨s0, s1, s2⟩ := hSw
              go_simp
            try simp only [Act.put, List.setIfInBounds_toArray, List.set_cons_zero, List.set_cons_succ]
            refine wpAnyH_ready (rs := [2, 4]) (by kernel_rfl) (by simp) (AllReadyH.cons (o := ⟨_, _, _, _, _, _⟩) rfl (fun K hK => ?_) (AllReadyH.cons (o := ⟨_, _, _, _, _, _⟩) rfl (fun K hK => ?_) AllReadyH.nil))
            · as_aux_lemma =>
              rewrite [if_pos (wanted_free rfl)]
              with_reducible refine wp_appendInsM (W := w77) (.tmp 95) (.tmp 96) (by with_unfolding_all rfl) w.heap.size (.slice (some ⟨g15, 0, none⟩) m15 k15) (l1 ++ ([⟨3, ⟨#[]⟩, ⟨#[]⟩⟩] : List InsV)) q9 r9 qn qc l2 (by with_unfolding_all rfl) (Sta.t (i := 0) HS77 rfl) (by with_unfolding_all rfl) Hp2.out.1 (Sta.t (i := 2) HS77 rfl :).1 (by have hx := Hp2.out.1; have h1 := HY.out.len; have h2 := Hp1.out.1; have h3 := Hp2.out.1; simp only [List.length_append, List.length_cons, List.length_nil] at *; omega) (Sta.size HS77) ?_
              intro v78 w78 hO78 hG78 hb78
              obtain ⟨a78, m78, c78, hm78, rfl⟩ := InsO.formS hO78 (app_ne HN2.out)
              have HS78 := Sta.app 0 HS77 rfl (Nat.le_refl _) hO78 hG78 hb78
              have Hm78 := hidP hm78
              clear hO78 hG78 hb78 hm78
              refine hK.out _ _ ⟨Sta.c (i := 0) HS78 rfl rfl, Sta.c (i := 0) HS78 rfl rfl, Sta.c (i := 0) HS78 rfl rfl⟩ (fun hHeld => ?_)
              clear hK K
              try simp only [Act.put, List.setIfInBounds_toArray, List.set_cons_zero, List.set_cons_succ]
              refine wpAnyH_ready (rs := [4]) (by kernel_rfl) (by simp) (AllReadyH.cons (o := ⟨_, _, _, _, _, _⟩) rfl (fun K hK => ?_) AllReadyH.nil)
              rewrite [if_pos (wanted_free rfl)]
              with_reducible refine wp_buildIns (.tmp 98) (by with_unfolding_all rfl) 3 (⟨#[]⟩) (⟨#[]⟩) (by with_unfolding_all rfl) ?_
              intro w79 hA79 hB79
              have HS79 := Sta.new HS78 hA79 hB79 (by simp [insv])
              clear hA79 hB79
              refine hK.out _ _ ⟨Sta.c (i := 1) HS79 rfl rfl, Sta.c (i := 1) HS79 rfl rfl, Sta.c (i := 1) HS79 rfl rfl⟩ (fun hHeld => ?_)
              clear hK K
              try simp only [Act.put, List.setIfInBounds_toArray, List.set_cons_zero, List.set_cons_succ]
              refine wpAnyH_ready (rs := [5]) (by kernel_rfl) (by simp) (AllReadyH.cons (o := ⟨_, _, _, _, _, _⟩) rfl (fun K hK => ?_) AllReadyH.nil)
              rewrite [if_pos (wanted_free rfl)]
              with_reducible refine wp_appendInsM (W := w79) (.tmp 97) (.tmp 99) (by with_unfolding_all rfl) w.heap.size (.slice (some ⟨a78, 0, none⟩) m78 c78) ((l1 ++ ([⟨3, ⟨#[]⟩, ⟨#[]⟩⟩] : List InsV)) ++ l2) w78.heap.size 0 1 1 ([⟨3, ⟨#[]⟩, ⟨#[]⟩⟩] : List InsV) (by with_unfolding_all rfl) (Sta.t (i := 0) HS79 rfl) (by with_unfolding_all rfl) rfl (RowV.ins (l := [⟨3, ⟨#[]⟩, ⟨#[]⟩⟩]) (Sta.r (i := 0) HS79 (by with_unfolding_all rfl))) (by have hx := True.intro; have h1 := HY.out.len; have h2 := Hp1.out.1; have h3 := Hp2.out.1; simp only [List.length_append, List.length_cons, List.length_nil] at *; omega) (Sta.size HS79) ?_
              intro v80 w80 hO80 hG80 hb80
              obtain ⟨a80, m80, c80, hm80, rfl⟩ := InsO.formS hO80 (app_ne (by simp))
              have HS80 := Sta.app 0 HS79 rfl (Nat.le_refl _) hO80 hG80 hb80
              have Hm80 := hidP hm80
              clear hO80 hG80 hb80 hm80
              refine hK.out _ _ ⟨Sta.c (i := 1) HS80 rfl rfl, Sta.c (i := 1) HS80 rfl rfl, Sta.c (i := 1) HS80 rfl rfl⟩ (fun hHeld => ?_)
              clear hK K
              try simp only [Act.put, List.setIfInBounds_toArray, List.set_cons_zero, List.set_cons_succ]
              refine wpAnyH_take (i := 6) (oi := ⟨_, _, _, _, _, _⟩) (v := .slice (some ⟨a80, 0, none⟩) m80 c80) rfl (by kernel_rfl) (by kernel_rfl) (by kernel_rfl) (fun _ _ _ h => h) (Or.inl ⟨wanted_free rfl, fun w' hSw => ?_⟩) hHeld ?_
              · go_simp
              try simp only [Act.put, List.setIfInBounds_toArray, List.set_cons_zero, List.set_cons_succ]
              refine wpAnyH_done (by kernel_rfl) ?_ _
              clear hHeld
              go_wp2_with fail
              go_meet
              exact ⟨a80, m80, c80, rfl, Hm80, Sta.drop 1 0 HS80⟩
            · as_aux_lemma =>
              rewrite [if_pos (wanted_free rfl)]
              with_reducible refine wp_buildIns (.tmp 98) (by with_unfolding_all rfl) 3 (⟨#[]⟩) (⟨#[]⟩) (by with_unfolding_all rfl) ?_
              intro w81 hA81 hB81
              have HS81 := Sta.new HS77 hA81 hB81 (by simp [insv])
              clear hA81 hB81
              refine hK.out _ _ ⟨Sta.c (i := 1) HS81 rfl rfl, Sta.c (i := 1) HS81 rfl rfl, Sta.c (i := 1) HS81 rfl rfl⟩ (fun hHeld => ?_)
              clear hK K
              try simp only [Act.put, List.setIfInBounds_toArray, List.set_cons_zero, List.set_cons_succ]
              refine wpAnyH_ready (rs := [2]) (by kernel_rfl) (by simp) (AllReadyH.cons (o := ⟨_, _, _, _, _, _⟩) rfl (fun K hK => ?_) AllReadyH.nil)
              rewrite [if_pos (wanted_free rfl)]
              with_reducible refine wp_appendInsM (W := w81) (.tmp 95) (.tmp 96) (by with_unfolding_all rfl) w.heap.size (.slice (some ⟨g15, 0, none⟩) m15 k15) (l1 ++ ([⟨3, ⟨#[]⟩, ⟨#[]⟩⟩] : List InsV)) q9 r9 qn qc l2 (by with_unfolding_all rfl) (Sta.t (i := 0) HS81 rfl) (by with_unfolding_all rfl) Hp2.out.1 (Sta.t (i := 2) HS81 rfl :).1 (by have hx := Hp2.out.1; have h1 := HY.out.len; have h2 := Hp1.out.1; have h3 := Hp2.out.1; simp only [List.length_append, List.length_cons, List.length_nil] at *; omega) (Sta.size HS81) ?_
              intro v82 w82 hO82 hG82 hb82
              obtain ⟨a82, m82, c82, hm82, rfl⟩ := InsO.formS hO82 (app_ne HN2.out)
              have HS82 := Sta.app 0 HS81 rfl (Nat.le_refl _) hO82 hG82 hb82
              have Hm82 := hidP hm82
              clear hO82 hG82 hb82 hm82
              refine hK.out _ _ ⟨Sta.c (i := 1) HS82 rfl rfl, Sta.c (i := 1) HS82 rfl rfl, Sta.c (i := 1) HS82 rfl rfl⟩ (fun hHeld => ?_)
              clear hK K
              try simp only [Act.put, List.setIfInBounds_toArray, List.set_cons_zero, List.set_cons_succ]
              refine wpAnyH_ready (rs := [5]) (by kernel_rfl) (by simp) (AllReadyH.cons (o := ⟨_, _, _, _, _, _⟩) rfl (fun K hK => ?_) AllReadyH.nil)
              rewrite [if_pos (wanted_free rfl)]
              with_reducible refine wp_appendInsM (W := w82) (.tmp 97) (.tmp 99) (by with_unfolding_all rfl) w.heap.size (.slice (some ⟨a82, 0, none⟩) m82 c82) ((l1 ++ ([⟨3, ⟨#[]⟩, ⟨#[]⟩⟩] : List InsV)) ++ l2) w77.heap.size 0 1 1 ([⟨3, ⟨#[]⟩, ⟨#[]⟩⟩] : List InsV) (by with_unfolding_all rfl) (Sta.t (i := 0) HS82 rfl) (by with_unfolding_all rfl) rfl (RowV.ins (l := [⟨3, ⟨#[]⟩, ⟨#[]⟩⟩]) (Sta.r (i := 0) HS82 (by with_unfolding_all rfl))) (by have hx := True.intro; have h1 := HY.out.len; have h2 := Hp1.out.1; have h3 := Hp2.out.1; simp only [List.length_append, List.length_cons, List.length_nil] at *; omega) (Sta.size HS82) ?_
              intro v83 w83 hO83 hG83 hb83
              obtain ⟨a83, m83, c83, hm83, rfl⟩ := InsO.formS hO83 (app_ne (by simp))
              have HS83 := Sta.app 0 HS82 rfl (Nat.le_refl _) hO83 hG83 hb83
              have Hm83 := hidP hm83
              clear hO83 hG83 hb83 hm83
              refine hK.out _ _ ⟨Sta.c (i := 1) HS83 rfl rfl, Sta.c (i := 1) HS83 rfl rfl, Sta.c (i := 1) HS83 rfl rfl⟩ (fun hHeld => ?_)
              clear hK K
              try simp only [Act.put, List.setIfInBounds_toArray, List.set_cons_zero, List.set_cons_succ]
              refine wpAnyH_take (i := 6) (oi := ⟨_, _, _, _, _, _⟩) (v := .slice (some ⟨a83, 0, none⟩) m83 c83) rfl (by kernel_rfl) (by kernel_rfl) (by kernel_rfl) (fun _ _ _ h => h) (Or.inl ⟨wanted_free rfl, fun w' hSw => ?_⟩) hHeld ?_
              · go_simp
              try simp only [Act.put, List.setIfInBounds_toArray, List.set_cons_zero, List.set_cons_succ]
              refine wpAnyH_done (by kernel_rfl) ?_ _
              clear hHeld
              go_wp2_with fail
              go_meet
              exact ⟨a83, m83, c83, rfl, Hm83, Sta.drop 1 0 HS83⟩
          case rest =>
            obtain ⟨g16, m16, k16, rfl, H16, HS84⟩ := hcut
            rename Go.World => wl84
            · skip
              have HS85 : Hid (Sta [] w [(w21.heap.size, [.int .i64 3, .string ⟨#[]⟩, .string ⟨#[]⟩])] [⟨fun k => (Value.slice none 0 0).ownBlock = some k, fun w' => InsO w' w.heap.size (.slice none 0 0) ([])⟩, ⟨fun k => (Value.slice (some ⟨g16, 0, none⟩) m16 k16).ownBlock = some k, fun w' => InsO w' w.heap.size (.slice (some ⟨g16, 0, none⟩) m16 k16) (((l1 ++ ([⟨3, ⟨#[]⟩, ⟨#[]⟩⟩] : List InsV)) ++ l2) ++ ([⟨3, ⟨#[]⟩, ⟨#[]⟩⟩] : List InsV))⟩, ⟨fun k => (Value.slice (some ⟨a28, 0, none⟩) m28 c28).ownBlock = some k, fun w' => InsO w' w.heap.size (.slice (some ⟨a28, 0, none⟩) m28 c28) (l1 ++ l2)⟩, ⟨fun k => w1.heap.size ≤ k ∧ k < w2.heap.size, fun w2 => InsAt w2 (some ⟨q9, r9, none⟩) l2 ∧ LabAt w2 ea es⟩, ⟨fun k => w.heap.size ≤ k ∧ k < w1.heap.size, fun w2 => InsAt w2 (some ⟨p9, o9, none⟩) l1 ∧ LabAt w2 da ls⟩, ⟨fun k => k < w.heap.size, fun w' => Bytes w' a1 n1 ∧ Bytes w' a2 n2⟩] wl84) := Sta.own0 w.heap.size 41 3 HS84
              have hO86 := World.ownsRow_made (base := w.heap.size) (size := 3) (e := 41) wl84 #[] 0 (Sta.size HS85) (by decide) (by simp)
              have hG86 := World.grownBy_alloc wl84 (.cells #[] 41) (Value.slice none 0 0).ownBlock
              have HS86 := Sta.app 0 HS85 rfl (Nat.le_refl _) hO86 hG86 (Or.inr rfl)
              clear hO86 hG86
              go_upto_region 18 with (first
                | ((with_reducible refine wpList_appendInsM (W := (wl84.alloc (.cells #[] 41))) (by with_unfolding_all rfl) (.tmp 101) (.tmp 102) (by with_unfolding_all rfl) w.heap.size (.slice (some ⟨wl84.heap.size, 0, none⟩) 0 0) ([]) g16 0 m16 k16 (((l1 ++ ([⟨3, ⟨#[]⟩, ⟨#[]⟩⟩] : List InsV)) ++ l2) ++ ([⟨3, ⟨#[]⟩, ⟨#[]⟩⟩] : List InsV)) (by with_unfolding_all rfl) (Sta.t (i := 0) HS86 rfl) (by with_unfolding_all rfl) H16.out (InsO.row (Sta.t (i := 1) HS86 rfl)).1.ins (by have hx := H16.out; have h1 := HY.out.len; have h2 := Hp1.out.1; have h3 := Hp2.out.1; simp only [List.length_append, List.length_cons, List.length_nil] at *; omega) (Sta.size HS86) ?_); intro v87 w87 hO87 hG87 hb87; obtain ⟨a87, m87, c87, hm87, rfl⟩ := InsO.formS hO87 (app_ne (app_ne (by simp))); have HS87 := Sta.app 0 HS86 rfl (Nat.le_refl _) hO87 hG87 hb87; have Hm87 := hidP hm87; clear hO87 hG87 hb87 hm87)
                | ((with_reducible refine wpList_buildIns (w := w87) (by with_unfolding_all rfl) (.tmp 104) (by with_unfolding_all rfl) 5 (⟨#[]⟩) (⟨#[]⟩) (by with_unfolding_all rfl) ?_); intro w88 hA88 hB88; have HS88 := Sta.new HS87 hA88 hB88 (by simp [insv]); clear hA88 hB88)
                | ((with_reducible refine wpList_appendInsM (W := w88) (by with_unfolding_all rfl) (.tmp 103) (.tmp 105) (by with_unfolding_all rfl) w.heap.size (.slice (some ⟨a87, 0, none⟩) m87 c87) (((l1 ++ ([⟨3, ⟨#[]⟩, ⟨#[]⟩⟩] : List InsV)) ++ l2) ++ ([⟨3, ⟨#[]⟩, ⟨#[]⟩⟩] : List InsV)) w87.heap.size 0 1 1 ([⟨5, ⟨#[]⟩, ⟨#[]⟩⟩] : List InsV) (by with_unfolding_all rfl) (Sta.t (i := 0) HS88 rfl) (by with_unfolding_all rfl) rfl (RowV.ins (l := [⟨5, ⟨#[]⟩, ⟨#[]⟩⟩]) (Sta.r (i := 0) HS88 (by with_unfolding_all rfl))) (by have hx := True.intro; have h1 := HY.out.len; have h2 := Hp1.out.1; have h3 := Hp2.out.1; simp only [List.length_append, List.length_cons, List.length_nil] at *; omega) (Sta.size HS88) ?_); intro v89 w89 hO89 hG89 hb89; obtain ⟨a89, m89, c89, hm89, rfl⟩ := InsO.formS hO89 (app_ne (by simp)); have HS89 := Sta.app 0 HS88 rfl (Nat.le_refl _) hO89 hG89 hb89; have Hm89 := hidP hm89; clear hO89 hG89 hb89 hm89)
                | (go_at_call 19; have n90_0 : InsAt w89 (some ⟨a89, 0, none⟩) ((((l1 ++ ([⟨3, ⟨#[]⟩, ⟨#[]⟩⟩] : List InsV)) ++ l2) ++ ([⟨3, ⟨#[]⟩, ⟨#[]⟩⟩] : List InsV)) ++ ([⟨5, ⟨#[]⟩, ⟨#[]⟩⟩] : List InsV)) := (InsO.row (Sta.t (i := 0) HS89 rfl)).1.ins; have n90_1 : LabAt w89 da ls := (Sta.t (i := 4) HS89 rfl :).2; have n90_2 : ls.length = dm ∧ dm ≤ 100 := (And.intro Hp1.out.2.2.2.1 Hp1.out.2.2.2.2.1); have n90_3 : ((((l1 ++ ([⟨3, ⟨#[]⟩, ⟨#[]⟩⟩] : List InsV)) ++ l2) ++ ([⟨3, ⟨#[]⟩, ⟨#[]⟩⟩] : List InsV)) ++ ([⟨5, ⟨#[]⟩, ⟨#[]⟩⟩] : List InsV)).length = m89 ∧ m89 ≤ 100 ∧ (∀ x ∈ ((((l1 ++ ([⟨3, ⟨#[]⟩, ⟨#[]⟩⟩] : List InsV)) ++ l2) ++ ([⟨3, ⟨#[]⟩, ⟨#[]⟩⟩] : List InsV)) ++ ([⟨5, ⟨#[]⟩, ⟨#[]⟩⟩] : List InsV)), x.w) := (len_w Hm89.out (by have h1 := HY.out.len; simp; omega) (w_app (w_app (w_app (w_app Hp1.out.2.2.1 (w_one w_3)) Hp2.out.2.2.1) (w_one w_3)) (w_one w_5))); have n90_4 : evalN ((((l1 ++ ([⟨3, ⟨#[]⟩, ⟨#[]⟩⟩] : List InsV)) ++ l2) ++ ([⟨3, ⟨#[]⟩, ⟨#[]⟩⟩] : List InsV)) ++ ([⟨5, ⟨#[]⟩, ⟨#[]⟩⟩] : List InsV)) ls = true := (HY.out.u); (with_reducible refine (hC21 w89 l1 da dm de ls l2 a89 m89 c89 n90_0 n90_1 n90_2 n90_3 n90_4).mono ?_); rintro r w90 ⟨rfl, hB90⟩; have HS90 := Sta.call HS89 hB90; clear hB90))
              · skip
                have HS92 : Hid (Sta [] w [(w87.heap.size, [.int .i64 5, .string ⟨#[]⟩, .string ⟨#[]⟩]), (w21.heap.size, [.int .i64 3, .string ⟨#[]⟩, .string ⟨#[]⟩])] [⟨fun k => (Value.slice none 0 0).ownBlock = some k, fun w' => InsO w' w.heap.size (.slice none 0 0) ([])⟩, ⟨fun k => (Value.slice (some ⟨a89, 0, none⟩) m89 c89).ownBlock = some k, fun w' => InsO w' w.heap.size (.slice (some ⟨a89, 0, none⟩) m89 c89) ((((l1 ++ ([⟨3, ⟨#[]⟩, ⟨#[]⟩⟩] : List InsV)) ++ l2) ++ ([⟨3, ⟨#[]⟩, ⟨#[]⟩⟩] : List InsV)) ++ ([⟨5, ⟨#[]⟩, ⟨#[]⟩⟩] : List InsV))⟩, ⟨fun k => (Value.slice (some ⟨g16, 0, none⟩) m16 k16).ownBlock = some k, fun w' => InsO w' w.heap.size (.slice (some ⟨g16, 0, none⟩) m16 k16) (((l1 ++ ([⟨3, ⟨#[]⟩, ⟨#[]⟩⟩] : List InsV)) ++ l2) ++ ([⟨3, ⟨#[]⟩, ⟨#[]⟩⟩] : List InsV))⟩, ⟨fun k => (Value.slice (some ⟨a28, 0, none⟩) m28 c28).ownBlock = some k, fun w' => InsO w' w.heap.size (.slice (some ⟨a28, 0, none⟩) m28 c28) (l1 ++ l2)⟩, ⟨fun k => w1.heap.size ≤ k ∧ k < w2.heap.size, fun w2 => InsAt w2 (some ⟨q9, r9, none⟩) l2 ∧ LabAt w2 ea es⟩, ⟨fun k => w.heap.size ≤ k ∧ k < w1.heap.size, fun w2 => InsAt w2 (some ⟨p9, o9, none⟩) l1 ∧ LabAt w2 da ls⟩, ⟨fun k => k < w.heap.size, fun w' => Bytes w' a1 n1 ∧ Bytes w' a2 n2⟩] w90) := Sta.own0 w.heap.size 41 3 HS90
                have hO93 := World.ownsRow_made (base := w.heap.size) (size := 3) (e := 41) w90 #[] 0 (Sta.size HS92) (by decide) (by simp)
                have hG93 := World.grownBy_alloc w90 (.cells #[] 41) (Value.slice none 0 0).ownBlock
                have HS93 := Sta.app 0 HS92 rfl (Nat.le_refl _) hO93 hG93 (Or.inr rfl)
                clear hO93 hG93
                go_wp2_with (first
                  | ((with_reducible refine wpList_appendInsM (W := (w90.alloc (.cells #[] 41))) (by with_unfolding_all rfl) (.tmp 109) (.tmp 110) (by with_unfolding_all rfl) w.heap.size (.slice (some ⟨w90.heap.size, 0, none⟩) 0 0) ([]) g16 0 m16 k16 (((l1 ++ ([⟨3, ⟨#[]⟩, ⟨#[]⟩⟩] : List InsV)) ++ l2) ++ ([⟨3, ⟨#[]⟩, ⟨#[]⟩⟩] : List InsV)) (by with_unfolding_all rfl) (Sta.t (i := 0) HS93 rfl) (by with_unfolding_all rfl) H16.out (InsO.row (Sta.t (i := 2) HS93 rfl)).1.ins (by have hx := H16.out; have h1 := HY.out.len; have h2 := Hp1.out.1; have h3 := Hp2.out.1; simp only [List.length_append, List.length_cons, List.length_nil] at *; omega) (Sta.size HS93) ?_); intro v94 w94 hO94 hG94 hb94; obtain ⟨a94, m94, c94, hm94, rfl⟩ := InsO.formS hO94 (app_ne (app_ne (by simp))); have HS94 := Sta.app 0 HS93 rfl (Nat.le_refl _) hO94 hG94 hb94; have Hm94 := hidP hm94; clear hO94 hG94 hb94 hm94)
                  | ((with_reducible refine wpList_buildIns (w := w94) (by with_unfolding_all rfl) (.tmp 112) (by with_unfolding_all rfl) 4 (⟨#[]⟩) (⟨#[]⟩) (by with_unfolding_all rfl) ?_); intro w95 hA95 hB95; have HS95 := Sta.new HS94 hA95 hB95 (by simp [insv]); clear hA95 hB95)
                  | ((with_reducible refine wpList_appendInsM (W := w95) (by with_unfolding_all rfl) (.tmp 111) (.tmp 113) (by with_unfolding_all rfl) w.heap.size (.slice (some ⟨a94, 0, none⟩) m94 c94) (((l1 ++ ([⟨3, ⟨#[]⟩, ⟨#[]⟩⟩] : List InsV)) ++ l2) ++ ([⟨3, ⟨#[]⟩, ⟨#[]⟩⟩] : List InsV)) w94.heap.size 0 1 1 ([⟨4, ⟨#[]⟩, ⟨#[]⟩⟩] : List InsV) (by with_unfolding_all rfl) (Sta.t (i := 0) HS95 rfl) (by with_unfolding_all rfl) rfl (RowV.ins (l := [⟨4, ⟨#[]⟩, ⟨#[]⟩⟩]) (Sta.r (i := 0) HS95 (by with_unfolding_all rfl))) (by have hx := True.intro; have h1 := HY.out.len; have h2 := Hp1.out.1; have h3 := Hp2.out.1; simp only [List.length_append, List.length_cons, List.length_nil] at *; omega) (Sta.size HS95) ?_); intro v96 w96 hO96 hG96 hb96; obtain ⟨a96, m96, c96, hm96, rfl⟩ := InsO.formS hO96 (app_ne (by simp)); have HS96 := Sta.app 0 HS95 rfl (Nat.le_refl _) hO96 hG96 hb96; have Hm96 := hidP hm96; clear hO96 hG96 hb96 hm96)
                  | (go_at_call 19; have n97_0 : InsAt w96 (some ⟨a96, 0, none⟩) ((((l1 ++ ([⟨3, ⟨#[]⟩, ⟨#[]⟩⟩] : List InsV)) ++ l2) ++ ([⟨3, ⟨#[]⟩, ⟨#[]⟩⟩] : List InsV)) ++ ([⟨4, ⟨#[]⟩, ⟨#[]⟩⟩] : List InsV)) := (InsO.row (Sta.t (i := 0) HS96 rfl)).1.ins; have n97_1 : LabAt w96 da ls := (Sta.t (i := 5) HS96 rfl :).2; have n97_2 : ls.length = dm ∧ dm ≤ 100 := (And.intro Hp1.out.2.2.2.1 Hp1.out.2.2.2.2.1); have n97_3 : ((((l1 ++ ([⟨3, ⟨#[]⟩, ⟨#[]⟩⟩] : List InsV)) ++ l2) ++ ([⟨3, ⟨#[]⟩, ⟨#[]⟩⟩] : List InsV)) ++ ([⟨4, ⟨#[]⟩, ⟨#[]⟩⟩] : List InsV)).length = m96 ∧ m96 ≤ 100 ∧ (∀ x ∈ ((((l1 ++ ([⟨3, ⟨#[]⟩, ⟨#[]⟩⟩] : List InsV)) ++ l2) ++ ([⟨3, ⟨#[]⟩, ⟨#[]⟩⟩] : List InsV)) ++ ([⟨4, ⟨#[]⟩, ⟨#[]⟩⟩] : List InsV)), x.w) := (len_w Hm96.out (by have h1 := HY.out.len; simp; omega) (w_app (w_app (w_app (w_app Hp1.out.2.2.1 (w_one w_3)) Hp2.out.2.2.1) (w_one w_3)) (w_one w_4))); have n97_4 : evalN ((((l1 ++ ([⟨3, ⟨#[]⟩, ⟨#[]⟩⟩] : List InsV)) ++ l2) ++ ([⟨3, ⟨#[]⟩, ⟨#[]⟩⟩] : List InsV)) ++ ([⟨4, ⟨#[]⟩, ⟨#[]⟩⟩] : List InsV)) ls = true := (HY.out.v); (with_reducible refine (hC22 w96 l1 da dm de ls l2 a96 m96 c96 n97_0 n97_1 n97_2 n97_3 n97_4).mono ?_); rintro r w97 ⟨rfl, hB97⟩; have HS97 := Sta.call HS96 hB97; clear hB97))
                have HS98 : Hid (Sta [] w [(w94.heap.size, [.int .i64 4, .string ⟨#[]⟩, .string ⟨#[]⟩]), (w87.heap.size, [.int .i64 5, .string ⟨#[]⟩, .string ⟨#[]⟩]), (w21.heap.size, [.int .i64 3, .string ⟨#[]⟩, .string ⟨#[]⟩])] [⟨fun k => (Value.slice none 0 0).ownBlock = some k, fun w' => InsO w' w.heap.size (.slice none 0 0) ([])⟩, ⟨fun k => (Value.slice (some ⟨a96, 0, none⟩) m96 c96).ownBlock = some k, fun w' => InsO w' w.heap.size (.slice (some ⟨a96, 0, none⟩) m96 c96) ((((l1 ++ ([⟨3, ⟨#[]⟩, ⟨#[]⟩⟩] : List InsV)) ++ l2) ++ ([⟨3, ⟨#[]⟩, ⟨#[]⟩⟩] : List InsV)) ++ ([⟨4, ⟨#[]⟩, ⟨#[]⟩⟩] : List InsV))⟩, ⟨fun k => (Value.slice (some ⟨a89, 0, none⟩) m89 c89).ownBlock = some k, fun w' => InsO w' w.heap.size (.slice (some ⟨a89, 0, none⟩) m89 c89) ((((l1 ++ ([⟨3, ⟨#[]⟩, ⟨#[]⟩⟩] : List InsV)) ++ l2) ++ ([⟨3, ⟨#[]⟩, ⟨#[]⟩⟩] : List InsV)) ++ ([⟨5, ⟨#[]⟩, ⟨#[]⟩⟩] : List InsV))⟩, ⟨fun k => (Value.slice (some ⟨g16, 0, none⟩) m16 k16).ownBlock = some k, fun w' => InsO w' w.heap.size (.slice (some ⟨g16, 0, none⟩) m16 k16) (((l1 ++ ([⟨3, ⟨#[]⟩, ⟨#[]⟩⟩] : List InsV)) ++ l2) ++ ([⟨3, ⟨#[]⟩, ⟨#[]⟩⟩] : List InsV))⟩, ⟨fun k => (Value.slice (some ⟨a28, 0, none⟩) m28 c28).ownBlock = some k, fun w' => InsO w' w.heap.size (.slice (some ⟨a28, 0, none⟩) m28 c28) (l1 ++ l2)⟩, ⟨fun k => w1.heap.size ≤ k ∧ k < w2.heap.size, fun w2 => InsAt w2 (some ⟨q9, r9, none⟩) l2 ∧ LabAt w2 ea es⟩, ⟨fun k => w.heap.size ≤ k ∧ k < w1.heap.size, fun w2 => InsAt w2 (some ⟨p9, o9, none⟩) l1 ∧ LabAt w2 da ls⟩, ⟨fun k => k < w.heap.size, fun w' => Bytes w' a1 n1 ∧ Bytes w' a2 n2⟩] w97) := Sta.own0 w.heap.size 41 3 HS97
                try simp only [Act.put, List.setIfInBounds_toArray, List.set_cons_zero, List.set_cons_succ]
                go_cut [18] (fun v0 wx => v0 = .bool false ∧ Hid (Sta [] w [(w94.heap.size, [.int .i64 4, .string ⟨#[]⟩, .string ⟨#[]⟩]), (w87.heap.size, [.int .i64 5, .string ⟨#[]⟩, .string ⟨#[]⟩]), (w21.heap.size, [.int .i64 3, .string ⟨#[]⟩, .string ⟨#[]⟩])] [⟨fun k => (Value.slice (some ⟨a96, 0, none⟩) m96 c96).ownBlock = some k, fun w' => InsO w' w.heap.size (.slice (some ⟨a96, 0, none⟩) m96 c96) ((((l1 ++ ([⟨3, ⟨#[]⟩, ⟨#[]⟩⟩] : List InsV)) ++ l2) ++ ([⟨3, ⟨#[]⟩, ⟨#[]⟩⟩] : List InsV)) ++ ([⟨4, ⟨#[]⟩, ⟨#[]⟩⟩] : List InsV))⟩, ⟨fun k => (Value.slice (some ⟨a89, 0, none⟩) m89 c89).ownBlock = some k, fun w' => InsO w' w.heap.size (.slice (some ⟨a89, 0, none⟩) m89 c89) ((((l1 ++ ([⟨3, ⟨#[]⟩, ⟨#[]⟩⟩] : List InsV)) ++ l2) ++ ([⟨3, ⟨#[]⟩, ⟨#[]⟩⟩] : List InsV)) ++ ([⟨5, ⟨#[]⟩, ⟨#[]⟩⟩] : List InsV))⟩, ⟨fun k => (Value.slice (some ⟨g16, 0, none⟩) m16 k16).ownBlock = some k, fun w' => InsO w' w.heap.size (.slice (some ⟨g16, 0, none⟩) m16 k16) (((l1 ++ ([⟨3, ⟨#[]⟩, ⟨#[]⟩⟩] : List InsV)) ++ l2) ++ ([⟨3, ⟨#[]⟩, ⟨#[]⟩⟩] : List InsV))⟩, ⟨fun k => (Value.slice (some ⟨a28, 0, none⟩) m28 c28).ownBlock = some k, fun w' => InsO w' w.heap.size (.slice (some ⟨a28, 0, none⟩) m28 c28) (l1 ++ l2)⟩, ⟨fun k => w1.heap.size ≤ k ∧ k < w2.heap.size, fun w2 => InsAt w2 (some ⟨q9, r9, none⟩) l2 ∧ LabAt w2 ea es⟩, ⟨fun k => w.heap.size ≤ k ∧ k < w1.heap.size, fun w2 => InsAt w2 (some ⟨p9, o9, none⟩) l1 ∧ LabAt w2 da ls⟩, ⟨fun k => k < w.heap.size, fun w' => Bytes w' a1 n1 ∧ Bytes w' a2 n2⟩] wx))
                case first =>
                  go_wp2_with fail
                  have HS99 := Sta.drew HS98
                  refine wp_region_held_drew (S := fun w' => w'.cell? ⟨w21.heap.size, 0, none⟩ = some (.int .i64 3) ∧ w'.cell? ⟨w21.heap.size, 1, none⟩ = some (.string ⟨#[]⟩) ∧ w'.cell? ⟨w21.heap.size, 2, none⟩ = some (.string ⟨#[]⟩)) (by kernel_rfl) ⟨Sta.c (i := 2) HS99 rfl rfl, Sta.c (i := 2) HS99 rfl rfl, Sta.c (i := 2) HS99 rfl rfl⟩ (fun hHeld => ?_)
                  generalize w97.drew = w99 at *
                  refine wpAnyH_take (i := 1) (oi := ⟨_, _, _, _, _, _⟩) (v := .slice (some ⟨p9, o9, none⟩) pn pc) rfl (by kernel_rfl) (by kernel_rfl) (by kernel_rfl) (fun _ _ _ h => h) (Or.inl ⟨wanted_free rfl, fun w' hSw => ?_⟩) hHeld ?_
                  · go_simp
                  try simp only [Act.put, List.setIfInBounds_toArray, List.set_cons_zero, List.set_cons_succ]
                  refine wpAnyH_take (i := 3) (oi := ⟨_, _, _, _, _, _⟩) (v := .agg #[.int .i64 3, .string ⟨#[]⟩, .string ⟨#[]⟩]) rfl (by kernel_rfl) (by kernel_rfl) (by kernel_rfl) (fun _ _ _ h => h) (Or.inl ⟨wanted_free rfl, fun w' hSw => ?_⟩) hHeld ?_
                  · obtain ⟨s0, s1, s2⟩ := hSw
                    go_simp
                  try simp only [Act.put, List.setIfInBounds_toArray, List.set_cons_zero, List.set_cons_succ]
                  refine wpAnyH_take (i := 4) (oi := ⟨_, _, _, _, _, _⟩) (v := .agg #[.int .i64 3, .string ⟨#[]⟩, .string ⟨#[]⟩]) rfl (by kernel_rfl) (by kernel_rfl) (by kernel_rfl) (fun _ _ _ h => h) (Or.inl ⟨wanted_free rfl, fun w' hSw => ?_⟩) hHeld ?_
                  · obtain ⟨s0, s1, s2⟩ := hSw
                    go_simp
                  try simp only [Act.put, List.setIfInBounds_toArray, List.set_cons_zero, List.set_cons_succ]
                  refine wpAnyH_take (i := 7) (oi := ⟨_, _, _, _, _, _⟩) (v := .slice da dm de) rfl (by kernel_rfl) (by kernel_rfl) (by kernel_rfl) (fun _ _ _ h => h) (Or.inl ⟨wanted_free rfl, fun w' hSw => ?_⟩) hHeld ?_
                  · go_simp
                  try simp only [Act.put, List.setIfInBounds_toArray, List.set_cons_zero, List.set_cons_succ]
                  refine wpAnyH_ready (rs := [0, 5]) (by kernel_rfl) (by simp) (AllReadyH.cons (o := ⟨_, _, _, _, _, _⟩) rfl (fun K hK => ?_) (AllReadyH.cons (o := ⟨_, _, _, _, _, _⟩) rfl (fun K hK => ?_) AllReadyH.nil))
                  · as_aux_lemma =>
                    rewrite [if_pos (wanted_free rfl)]
                    with_reducible refine wp_buildIns0 (by with_unfolding_all rfl) w.heap.size (Sta.size HS99) ?_
                    intro w100 hO100 hG100
                    have HS100 := Sta.app 0 HS99 rfl (Nat.le_refl _) hO100 hG100 (Or.inr rfl)
                    clear hO100 hG100
                    refine hK.out _ _ ⟨Sta.c (i := 2) HS100 rfl rfl, Sta.c (i := 2) HS100 rfl rfl, Sta.c (i := 2) HS100 rfl rfl⟩ (fun hHeld => ?_)
                    clear hK K
                    try simp only [Act.put, List.setIfInBounds_toArray, List.set_cons_zero, List.set_cons_succ]
                    refine wpAnyH_ready (rs := [2, 5]) (by kernel_rfl) (by simp) (AllReadyH.cons (o := ⟨_, _, _, _, _, _⟩) rfl (fun K hK => ?_) (AllReadyH.cons (o := ⟨_, _, _, _, _, _⟩) rfl (fun K hK => ?_) AllReadyH.nil))
                    · as_aux_lemma =>
                      rewrite [if_pos (wanted_free rfl)]
                      with_reducible refine wp_appendInsM (W := w100) (.tmp 117) (.tmp 118) (by with_unfolding_all rfl) w.heap.size (.slice (some ⟨w99.heap.size, 0, none⟩) 0 0) ([]) p9 o9 pn pc l1 (by with_unfolding_all rfl) (Sta.t (i := 0) HS100 rfl) (by with_unfolding_all rfl) Hp1.out.1 (Sta.t (i := 6) HS100 rfl :).1 (by have hx := Hp1.out.1; have h1 := HY.out.len; have h2 := Hp1.out.1; have h3 := Hp2.out.1; simp only [List.length_append, List.length_cons, List.length_nil] at *; omega) (Sta.size HS100) ?_
                      intro v101 w101 hO101 hG101 hb101
                      obtain ⟨a101, m101, c101, hm101, rfl⟩ := InsO.formS hO101 (app_ne HN1.out)
                      have HS101 := Sta.app 0 HS100 rfl (Nat.le_refl _) hO101 hG101 hb101
                      have Hm101 := hidP hm101
                      clear hO101 hG101 hb101 hm101
                      refine hK.out _ _ ⟨Sta.c (i := 2) HS101 rfl rfl, Sta.c (i := 2) HS101 rfl rfl, Sta.c (i := 2) HS101 rfl rfl⟩ (fun hHeld => ?_)
                      clear hK K
                      try simp only [Act.put, List.setIfInBounds_toArray, List.set_cons_zero, List.set_cons_succ]
                      refine wpAnyH_ready (rs := [5]) (by kernel_rfl) (by simp) (AllReadyH.cons (o := ⟨_, _, _, _, _, _⟩) rfl (fun K hK => ?_) AllReadyH.nil)
                      rewrite [if_pos (wanted_free rfl)]
                      with_reducible refine wp_buildIns2 (.tmp 120) (.tmp 121) (by with_unfolding_all rfl) 3 (⟨#[]⟩) (⟨#[]⟩) 3 (⟨#[]⟩) (⟨#[]⟩) (by with_unfolding_all rfl) (by with_unfolding_all rfl) ?_
                      intro w102 hA102 hB102
                      have HS102 := Sta.new HS101 hA102 hB102 (by simp)
                      clear hA102 hB102
                      refine hK.out _ _ ⟨Sta.c (i := 3) HS102 rfl rfl, Sta.c (i := 3) HS102 rfl rfl, Sta.c (i := 3) HS102 rfl rfl⟩ (fun hHeld => ?_)
                      clear hK K
                      try simp only [Act.put, List.setIfInBounds_toArray, List.set_cons_zero, List.set_cons_succ]
                      refine wpAnyH_ready (rs := [6]) (by kernel_rfl) (by simp) (AllReadyH.cons (o := ⟨_, _, _, _, _, _⟩) rfl (fun K hK => ?_) AllReadyH.nil)
                      rewrite [if_pos (wanted_free rfl)]
                      with_reducible refine wp_appendInsM (W := w102) (.tmp 119) (.tmp 122) (by with_unfolding_all rfl) w.heap.size (.slice (some ⟨a101, 0, none⟩) m101 c101) l1 w101.heap.size 0 2 2 ([⟨3, ⟨#[]⟩, ⟨#[]⟩⟩, ⟨3, ⟨#[]⟩, ⟨#[]⟩⟩] : List InsV) (by with_unfolding_all rfl) (Sta.t (i := 0) HS102 rfl) (by with_unfolding_all rfl) rfl (RowV.ins (l := [⟨3, ⟨#[]⟩, ⟨#[]⟩⟩, ⟨3, ⟨#[]⟩, ⟨#[]⟩⟩]) (Sta.r (i := 0) HS102 (by with_unfolding_all rfl))) (by have hx := True.intro; have h1 := HY.out.len; have h2 := Hp1.out.1; have h3 := Hp2.out.1; simp only [List.length_append, List.length_cons, List.length_nil] at *; omega) (Sta.size HS102) ?_
                      intro v103 w103 hO103 hG103 hb103
                      obtain ⟨a103, m103, c103, hm103, rfl⟩ := InsO.formS hO103 (app_ne (by simp))
                      have HS103 := Sta.app 0 HS102 rfl (Nat.le_refl _) hO103 hG103 hb103
                      have Hm103 := hidP hm103
                      clear hO103 hG103 hb103 hm103
                      refine hK.out _ _ ⟨Sta.c (i := 3) HS103 rfl rfl, Sta.c (i := 3) HS103 rfl rfl, Sta.c (i := 3) HS103 rfl rfl⟩ (fun hHeld => ?_)
                      clear hK K
                      try simp only [Act.put, List.setIfInBounds_toArray, List.set_cons_zero, List.set_cons_succ]
                      refine wpAnyH_ready (rs := [8]) (by kernel_rfl) (by simp) (AllReadyH.cons (o := ⟨_, _, _, _, _, _⟩) rfl (fun K hK => ?_) AllReadyH.nil)
                      rewrite [if_pos (wanted_free rfl)]
                      go_simp
                      have n104_0 : InsAt w103 (some ⟨a103, 0, none⟩) (l1 ++ ([⟨3, ⟨#[]⟩, ⟨#[]⟩⟩, ⟨3, ⟨#[]⟩, ⟨#[]⟩⟩] : List InsV)) := (InsO.row (Sta.t (i := 0) HS103 rfl)).1.ins
                      have n104_1 : LabAt w103 da ls := (Sta.t (i := 6) HS103 rfl :).2
                      have n104_2 : ls.length = dm ∧ dm ≤ 100 := (And.intro Hp1.out.2.2.2.1 Hp1.out.2.2.2.2.1)
                      have n104_3 : (l1 ++ ([⟨3, ⟨#[]⟩, ⟨#[]⟩⟩, ⟨3, ⟨#[]⟩, ⟨#[]⟩⟩] : List InsV)).length = m103 ∧ m103 ≤ 100 ∧ (∀ x ∈ (l1 ++ ([⟨3, ⟨#[]⟩, ⟨#[]⟩⟩, ⟨3, ⟨#[]⟩, ⟨#[]⟩⟩] : List InsV)), x.w) := (len_w Hm103.out (by have h1 := HY.out.len; simp; omega) (w_app Hp1.out.2.2.1 (w_two w_3 w_3)))
                      have n104_4 : evalN (l1 ++ ([⟨3, ⟨#[]⟩, ⟨#[]⟩⟩, ⟨3, ⟨#[]⟩, ⟨#[]⟩⟩] : List InsV)) ls = false := (HY.out.w)
                      (with_reducible refine (hC23 w103 l1 da dm de ls a103 m103 c103 n104_0 n104_1 n104_2 n104_3 n104_4).mono ?_)
                      rintro r w104 ⟨rfl, hB104⟩
                      have HS104 := Sta.call HS103 hB104
                      clear hB104
                      go_wp2_with fail
                      refine hK.out _ _ ⟨Sta.c (i := 3) HS104 rfl rfl, Sta.c (i := 3) HS104 rfl rfl, Sta.c (i := 3) HS104 rfl rfl⟩ (fun hHeld => ?_)
                      clear hK K
                      try simp only [Act.put, List.setIfInBounds_toArray, List.set_cons_zero, List.set_cons_succ]
                      refine wpAnyH_take (i := 9) (oi := ⟨_, _, _, _, _, _⟩) (v := .bool false) rfl (by kernel_rfl) (by kernel_rfl) (by kernel_rfl) (fun _ _ _ h => h) (Or.inl ⟨wanted_free rfl, fun w' hSw => ?_⟩) hHeld ?_
                      · go_simp
                      try simp only [Act.put, List.setIfInBounds_toArray, List.set_cons_zero, List.set_cons_succ]
                      refine wpAnyH_done (by kernel_rfl) ?_ _
                      clear hHeld
                      go_wp2_with fail
                      go_meet
                      exact ⟨rfl, Sta.drop 1 1 HS104⟩
                    · as_aux_lemma =>
                      rewrite [if_pos (wanted_free rfl)]
                      with_reducible refine wp_buildIns2 (.tmp 120) (.tmp 121) (by with_unfolding_all rfl) 3 (⟨#[]⟩) (⟨#[]⟩) 3 (⟨#[]⟩) (⟨#[]⟩) (by with_unfolding_all rfl) (by with_unfolding_all rfl) ?_
                      intro w105 hA105 hB105
                      have HS105 := Sta.new HS100 hA105 hB105 (by simp)
                      clear hA105 hB105
                      refine hK.out _ _ ⟨Sta.c (i := 3) HS105 rfl rfl, Sta.c (i := 3) HS105 rfl rfl, Sta.c (i := 3) HS105 rfl rfl⟩ (fun hHeld => ?_)
                      clear hK K
                      try simp only [Act.put, List.setIfInBounds_toArray, List.set_cons_zero, List.set_cons_succ]
                      refine wpAnyH_ready (rs := [2]) (by kernel_rfl) (by simp) (AllReadyH.cons (o := ⟨_, _, _, _, _, _⟩) rfl (fun K hK => ?_) AllReadyH.nil)
                      rewrite [if_pos (wanted_free rfl)]
                      with_reducible refine wp_appendInsM (W := w105) (.tmp 117) (.tmp 118) (by with_unfolding_all rfl) w.heap.size (.slice (some ⟨w99.heap.size, 0, none⟩) 0 0) ([]) p9 o9 pn pc l1 (by with_unfolding_all rfl) (Sta.t (i := 0) HS105 rfl) (by with_unfolding_all rfl) Hp1.out.1 (Sta.t (i := 6) HS105 rfl :).1 (by have hx := Hp1.out.1; have h1 := HY.out.len; have h2 := Hp1.out.1; have h3 := Hp2.out.1; simp only [List.length_append, List.length_cons, List.length_nil] at *; omega) (Sta.size HS105) ?_
                      intro v106 w106 hO106 hG106 hb106
                      obtain ⟨a106, m106, c106, hm106, rfl⟩ := InsO.formS hO106 (app_ne HN1.out)
                      have HS106 := Sta.app 0 HS105 rfl (Nat.le_refl _) hO106 hG106 hb106
                      have Hm106 := hidP hm106
                      clear hO106 hG106 hb106 hm106
                      refine hK.out _ _ ⟨Sta.c (i := 3) HS106 rfl rfl, Sta.c (i := 3) HS106 rfl rfl, Sta.c (i := 3) HS106 rfl rfl⟩ (fun hHeld => ?_)
                      clear hK K
                      try simp only [Act.put, List.setIfInBounds_toArray, List.set_cons_zero, List.set_cons_succ]
                      refine wpAnyH_ready (rs := [6]) (by kernel_rfl) (by simp) (AllReadyH.cons (o := ⟨_, _, _, _, _, _⟩) rfl (fun K hK => ?_) AllReadyH.nil)
                      rewrite [if_pos (wanted_free rfl)]
                      with_reducible refine wp_appendInsM (W := w106) (.tmp 119) (.tmp 122) (by with_unfolding_all rfl) w.heap.size (.slice (some ⟨a106, 0, none⟩) m106 c106) l1 w100.heap.size 0 2 2 ([⟨3, ⟨#[]⟩, ⟨#[]⟩⟩, ⟨3, ⟨#[]⟩, ⟨#[]⟩⟩] : List InsV) (by with_unfolding_all rfl) (Sta.t (i := 0) HS106 rfl) (by with_unfolding_all rfl) rfl (RowV.ins (l := [⟨3, ⟨#[]⟩, ⟨#[]⟩⟩, ⟨3, ⟨#[]⟩, ⟨#[]⟩⟩]) (Sta.r (i := 0) HS106 (by with_unfolding_all rfl))) (by have hx := True.intro; have h1 := HY.out.len; have h2 := Hp1.out.1; have h3 := Hp2.out.1; simp only [List.length_append, List.length_cons, List.length_nil] at *; omega) (Sta.size HS106) ?_
                      intro v107 w107 hO107 hG107 hb107
                      obtain ⟨a107, m107, c107, hm107, rfl⟩ := InsO.formS hO107 (app_ne (by simp))
                      have HS107 := Sta.app 0 HS106 rfl (Nat.le_refl _) hO107 hG107 hb107
                      have Hm107 := hidP hm107
                      clear hO107 hG107 hb107 hm107
                      refine hK.out _ _ ⟨Sta.c (i := 3) HS107 rfl rfl, Sta.c (i := 3) HS107 rfl rfl, Sta.c (i := 3) HS107 rfl rfl⟩ (fun hHeld => ?_)
                      clear hK K
                      try simp only [Act.put, List.setIfInBounds_toArray, List.set_cons_zero, List.set_cons_succ]
                      refine wpAnyH_ready (rs := [8]) (by kernel_rfl) (by simp) (AllReadyH.cons (o := ⟨_, _, _, _, _, _⟩) rfl (fun K hK => ?_) AllReadyH.nil)
                      rewrite [if_pos (wanted_free rfl)]
                      go_simp
                      have n108_0 : InsAt w107 (some ⟨a107, 0, none⟩) (l1 ++ ([⟨3, ⟨#[]⟩, ⟨#[]⟩⟩, ⟨3, ⟨#[]⟩, ⟨#[]⟩⟩] : List InsV)) := (InsO.row (Sta.t (i := 0) HS107 rfl)).1.ins
                      have n108_1 : LabAt w107 da ls := (Sta.t (i := 6) HS107 rfl :).2
                      have n108_2 : ls.length = dm ∧ dm ≤ 100 := (And.intro Hp1.out.2.2.2.1 Hp1.out.2.2.2.2.1)
                      have n108_3 : (l1 ++ ([⟨3, ⟨#[]⟩, ⟨#[]⟩⟩, ⟨3, ⟨#[]⟩, ⟨#[]⟩⟩] : List InsV)).length = m107 ∧ m107 ≤ 100 ∧ (∀ x ∈ (l1 ++ ([⟨3, ⟨#[]⟩, ⟨#[]⟩⟩, ⟨3, ⟨#[]⟩, ⟨#[]⟩⟩] : List InsV)), x.w) := (len_w Hm107.out (by have h1 := HY.out.len; simp; omega) (w_app Hp1.out.2.2.1 (w_two w_3 w_3)))
                      have n108_4 : evalN (l1 ++ ([⟨3, ⟨#[]⟩, ⟨#[]⟩⟩, ⟨3, ⟨#[]⟩, ⟨#[]⟩⟩] : List InsV)) ls = false := (HY.out.w)
                      (with_reducible refine (hC24 w107 l1 da dm de ls a107 m107 c107 n108_0 n108_1 n108_2 n108_3 n108_4).mono ?_)
                      rintro r w108 ⟨rfl, hB108⟩
                      have HS108 := Sta.call HS107 hB108
                      clear hB108
                      go_wp2_with fail
                      refine hK.out _ _ ⟨Sta.c (i := 3) HS108 rfl rfl, Sta.c (i := 3) HS108 rfl rfl, Sta.c (i := 3) HS108 rfl rfl⟩ (fun hHeld => ?_)
                      clear hK K
                      try simp only [Act.put, List.setIfInBounds_toArray, List.set_cons_zero, List.set_cons_succ]
                      refine wpAnyH_take (i := 9) (oi := ⟨_, _, _, _, _, _⟩) (v := .bool false) rfl (by kernel_rfl) (by kernel_rfl) (by kernel_rfl) (fun _ _ _ h => h) (Or.inl ⟨wanted_free rfl, fun w' hSw => ?_⟩) hHeld ?_
                      · go_simp
                      try simp only [Act.put, List.setIfInBounds_toArray, List.set_cons_zero, List.set_cons_succ]
                      refine wpAnyH_done (by kernel_rfl) ?_ _
                      clear hHeld
                      go_wp2_with fail
                      go_meet
                      exact ⟨rfl, Sta.drop 1 1 HS108⟩
                  · as_aux_lemma =>
                    rewrite [if_pos (wanted_free rfl)]
                    with_reducible refine wp_buildIns2 (.tmp 120) (.tmp 121) (by with_unfolding_all rfl) 3 (⟨#[]⟩) (⟨#[]⟩) 3 (⟨#[]⟩) (⟨#[]⟩) (by with_unfolding_all rfl) (by with_unfolding_all rfl) ?_
                    intro w109 hA109 hB109
                    have HS109 := Sta.new HS99 hA109 hB109 (by simp)
                    clear hA109 hB109
                    refine hK.out _ _ ⟨Sta.c (i := 3) HS109 rfl rfl, Sta.c (i := 3) HS109 rfl rfl, Sta.c (i := 3) HS109 rfl rfl⟩ (fun hHeld => ?_)
                    clear hK K
                    try simp only [Act.put, List.setIfInBounds_toArray, List.set_cons_zero, List.set_cons_succ]
                    refine wpAnyH_ready (rs := [0]) (by kernel_rfl) (by simp) (AllReadyH.cons (o := ⟨_, _, _, _, _, _⟩) rfl (fun K hK => ?_) AllReadyH.nil)
                    rewrite [if_pos (wanted_free rfl)]
                    with_reducible refine wp_buildIns0 (by with_unfolding_all rfl) w.heap.size (Sta.size HS109) ?_
                    intro w110 hO110 hG110
                    have HS110 := Sta.app 0 HS109 rfl (Nat.le_refl _) hO110 hG110 (Or.inr rfl)
                    clear hO110 hG110
                    refine hK.out _ _ ⟨Sta.c (i := 3) HS110 rfl rfl, Sta.c (i := 3) HS110 rfl rfl, Sta.c (i := 3) HS110 rfl rfl⟩ (fun hHeld => ?_)
                    clear hK K
                    try simp only [Act.put, List.setIfInBounds_toArray, List.set_cons_zero, List.set_cons_succ]
                    refine wpAnyH_ready (rs := [2]) (by kernel_rfl) (by simp) (AllReadyH.cons (o := ⟨_, _, _, _, _, _⟩) rfl (fun K hK => ?_) AllReadyH.nil)
                    rewrite [if_pos (wanted_free rfl)]
                    with_reducible refine wp_appendInsM (W := w110) (.tmp 117) (.tmp 118) (by with_unfolding_all rfl) w.heap.size (.slice (some ⟨w109.heap.size, 0, none⟩) 0 0) ([]) p9 o9 pn pc l1 (by with_unfolding_all rfl) (Sta.t (i := 0) HS110 rfl) (by with_unfolding_all rfl) Hp1.out.1 (Sta.t (i := 6) HS110 rfl :).1 (by have hx := Hp1.out.1; have h1 := HY.out.len; have h2 := Hp1.out.1; have h3 := Hp2.out.1; simp only [List.length_append, List.length_cons, List.length_nil] at *; omega) (Sta.size HS110) ?_
                    intro v111 w111 hO111 hG111 hb111
                    obtain ⟨a111, m111, c111, hm111, rfl⟩ := InsO.formS hO111 (app_ne HN1.out)
                    have HS111 := Sta.app 0 HS110 rfl (Nat.le_refl _) hO111 hG111 hb111
                    have Hm111 := hidP hm111
                    clear hO111 hG111 hb111 hm111
                    refine hK.out _ _ ⟨Sta.c (i := 3) HS111 rfl rfl, Sta.c (i := 3) HS111 rfl rfl, Sta.c (i := 3) HS111 rfl rfl⟩ (fun hHeld => ?_)
                    clear hK K
                    try simp only [Act.put, List.setIfInBounds_toArray, List.set_cons_zero, List.set_cons_succ]
                    refine wpAnyH_ready (rs := [6]) (by kernel_rfl) (by simp) (AllReadyH.cons (o := ⟨_, _, _, _, _, _⟩) rfl (fun K hK => ?_) AllReadyH.nil)
                    rewrite [if_pos (wanted_free rfl)]
                    with_reducible refine wp_appendInsM (W := w111) (.tmp 119) (.tmp 122) (by with_unfolding_all rfl) w.heap.size (.slice (some ⟨a111, 0, none⟩) m111 c111) l1 w99.heap.size 0 2 2 ([⟨3, ⟨#[]⟩, ⟨#[]⟩⟩, ⟨3, ⟨#[]⟩, ⟨#[]⟩⟩] : List InsV) (by with_unfolding_all rfl) (Sta.t (i := 0) HS111 rfl) (by with_unfolding_all rfl) rfl (RowV.ins (l := [⟨3, ⟨#[]⟩, ⟨#[]⟩⟩, ⟨3, ⟨#[]⟩, ⟨#[]⟩⟩]) (Sta.r (i := 0) HS111 (by with_unfolding_all rfl))) (by have hx := True.intro; have h1 := HY.out.len; have h2 := Hp1.out.1; have h3 := Hp2.out.1; simp only [List.length_append, List.length_cons, List.length_nil] at *; omega) (Sta.size HS111) ?_
                    intro v112 w112 hO112 hG112 hb112
                    obtain ⟨a112, m112, c112, hm112, rfl⟩ := InsO.formS hO112 (app_ne (by simp))
                    have HS112 := Sta.app 0 HS111 rfl (Nat.le_refl _) hO112 hG112 hb112
                    have Hm112 := hidP hm112
                    clear hO112 hG112 hb112 hm112
                    refine hK.out _ _ ⟨Sta.c (i := 3) HS112 rfl rfl, Sta.c (i := 3) HS112 rfl rfl, Sta.c (i := 3) HS112 rfl rfl⟩ (fun hHeld => ?_)
                    clear hK K
                    try simp only [Act.put, List.setIfInBounds_toArray, List.set_cons_zero, List.set_cons_succ]
                    refine wpAnyH_ready (rs := [8]) (by kernel_rfl) (by simp) (AllReadyH.cons (o := ⟨_, _, _, _, _, _⟩) rfl (fun K hK => ?_) AllReadyH.nil)
                    rewrite [if_pos (wanted_free rfl)]
                    go_simp
                    have n113_0 : InsAt w112 (some ⟨a112, 0, none⟩) (l1 ++ ([⟨3, ⟨#[]⟩, ⟨#[]⟩⟩, ⟨3, ⟨#[]⟩, ⟨#[]⟩⟩] : List InsV)) := (InsO.row (Sta.t (i := 0) HS112 rfl)).1.ins
                    have n113_1 : LabAt w112 da ls := (Sta.t (i := 6) HS112 rfl :).2
                    have n113_2 : ls.length = dm ∧ dm ≤ 100 := (And.intro Hp1.out.2.2.2.1 Hp1.out.2.2.2.2.1)
                    have n113_3 : (l1 ++ ([⟨3, ⟨#[]⟩, ⟨#[]⟩⟩, ⟨3, ⟨#[]⟩, ⟨#[]⟩⟩] : List InsV)).length = m112 ∧ m112 ≤ 100 ∧ (∀ x ∈ (l1 ++ ([⟨3, ⟨#[]⟩, ⟨#[]⟩⟩, ⟨3, ⟨#[]⟩, ⟨#[]⟩⟩] : List InsV)), x.w) := (len_w Hm112.out (by have h1 := HY.out.len; simp; omega) (w_app Hp1.out.2.2.1 (w_two w_3 w_3)))
                    have n113_4 : evalN (l1 ++ ([⟨3, ⟨#[]⟩, ⟨#[]⟩⟩, ⟨3, ⟨#[]⟩, ⟨#[]⟩⟩] : List InsV)) ls = false := (HY.out.w)
                    (with_reducible refine (hC25 w112 l1 da dm de ls a112 m112 c112 n113_0 n113_1 n113_2 n113_3 n113_4).mono ?_)
                    rintro r w113 ⟨rfl, hB113⟩
                    have HS113 := Sta.call HS112 hB113
                    clear hB113
                    go_wp2_with fail
                    refine hK.out _ _ ⟨Sta.c (i := 3) HS113 rfl rfl, Sta.c (i := 3) HS113 rfl rfl, Sta.c (i := 3) HS113 rfl rfl⟩ (fun hHeld => ?_)
                    clear hK K
                    try simp only [Act.put, List.setIfInBounds_toArray, List.set_cons_zero, List.set_cons_succ]
                    refine wpAnyH_take (i := 9) (oi := ⟨_, _, _, _, _, _⟩) (v := .bool false) rfl (by kernel_rfl) (by kernel_rfl) (by kernel_rfl) (fun _ _ _ h => h) (Or.inl ⟨wanted_free rfl, fun w' hSw => ?_⟩) hHeld ?_
                    · go_simp
                    try simp only [Act.put, List.setIfInBounds_toArray, List.set_cons_zero, List.set_cons_succ]
                    refine wpAnyH_done (by kernel_rfl) ?_ _
                    clear hHeld
                    go_wp2_with fail
                    go_meet
                    exact ⟨rfl, Sta.drop 1 1 HS113⟩
                case rest =>
                  obtain ⟨rfl, HS114⟩ := hcut
                  rename Go.World => wl114
                  go_wp2_with fail
                  go_ret
                  exact ⟨rfl, Sta.fin HS114⟩
end Go.Proofs.Ytaalegjhhpfhbaa
