/- When a manifest is right, and its bytes: as statements about lists. What a text says of a manifest. What the specification's reader of manifests has told, at each step. Is a manifest right? On the program's side. The program's reader of a manifest. ManifestRead of the program: what it answers, whatever the text. Manifests in the laws' helpers: their room, turned to the program's, held against others. Manifests that are read, in the laws' helpers: held against others, marked, found marked. -/
import Derived.Test.YtchfpiadfmnphaaDoorNmB
import Derived.Test.YtchfpiadfmnphaaDoorJn16
import Derived.Deep.RegionHeld3
import Derived.Test.YtchfpiadfmnphaaDoorJn11
namespace Go.Proofs.YtchfpiadfmnphaaDoor
open Go.RowKit
set_option linter.unusedVariables false

def LayOk (x : LayV) : Prop := x.bl.size = 32 ∧ 0 ≤ x.sz ∧ x.sz ≤ 3000
def LaysOk (l : List LayV) : Prop := l.length ≤ 10 ∧ ∀ j (h : j < l.length), LayOk l[j]
def LabOk (l : List LabV) (k : Nat) : Prop := ∃ h : k < l.length, nameB l[k].ky = true ∧ nameB l[k].vl = true ∧ ∀ k1 (h1 : k1 < l.length), k = k1 + 1 → nmLt l[k1].ky l[k].ky = true
def LabsOk (l : List LabV) : Prop := l.length ≤ 10 ∧ ∀ j, j < l.length → LabOk l j
def ManOk (nm : ByteArray) (ls : List LayV) (bs : List LabV) : Prop := nameB nm = true ∧ LaysOk ls ∧ LabsOk bs
theorem LaysOk.not_long {l : List LayV} {n : Nat} (hn : l.length = n) (h : 10 < n) : ¬ LaysOk l := fun k => by have := k.1; omega
theorem LabsOk.not_long {l : List LabV} {n : Nat} (hn : l.length = n) (h : 10 < n) : ¬ LabsOk l := fun k => by have := k.1; omega
theorem LaysOk.not_at {l : List LayV} {k : Nat} {x0 : ByteArray} {x1 : Int} (hk : k < l.length) (h0 : l[k].bl = x0) (h1 : l[k].sz = x1) (h : ¬ (x0.size = 32 ∧ 0 ≤ x1 ∧ x1 ≤ 3000)) : ¬ LaysOk l := fun hl => h (by
  have := hl.2 k hk
  unfold LayOk at this
  rw [h0, h1] at this
  exact this)
theorem LaysOk.step {l : List LayV} {k : Nat} {x0 : ByteArray} {x1 : Int} (h : ∀ j (h : j < l.length), j < k → LayOk l[j]) (hk : k < l.length) (h0 : l[k].bl = x0) (h1 : l[k].sz = x1) (ho : x0.size = 32 ∧ 0 ≤ x1 ∧ x1 ≤ 3000) : ∀ j (h : j < l.length), j < k + 1 → LayOk l[j] := fun j hj hjk => by
  by_cases e : j < k
  · exact h j hj e
  · obtain rfl : j = k := by omega
    unfold LayOk
    rw [h0, h1]
    exact ho
theorem LaysOk.all {l : List LayV} {n : Nat} (h : ∀ j (h : j < l.length), j < n → LayOk l[j]) (hn : l.length = n) (h10 : ¬ 10 < n) : LaysOk l := ⟨by omega, fun j hj => h j hj (by omega)⟩
theorem LabsOk.not_at {l : List LabV} {k : Nat} {x0 x1 : ByteArray} (hk : k < l.length) (h0 : l[k].ky = x0) (h1 : l[k].vl = x1) (h : nameB x0 = true → nameB x1 = true → False) : ¬ LabsOk l := fun hl => by
  obtain ⟨_, g0, g1, _⟩ := hl.2 k hk
  rw [h0] at g0
  rw [h1] at g1
  exact h g0 g1
theorem LabsOk.not_lt {l : List LabV} {k k1 : Nat} {x0 z : ByteArray} (hk : k < l.length) (h0 : l[k].ky = x0) (hk1 : k1 < l.length) (hz : l[k1].ky = z) (e : k = k1 + 1) (h : nmLt z x0 = false) : ¬ LabsOk l := fun hl => by
  obtain ⟨_, _, _, g⟩ := hl.2 k hk
  have := g k1 hk1 e
  rw [h0, hz, h] at this
  cases this
theorem LabsOk.step {l : List LabV} {k : Nat} {x0 x1 : ByteArray} (h : ∀ j, j < k → LabOk l j) (hk : k < l.length) (h0 : l[k].ky = x0) (h1 : l[k].vl = x1) (g0 : nameB x0 = true) (g1 : nameB x1 = true) (g : ∀ k1 (h1 : k1 < l.length), k = k1 + 1 → nmLt l[k1].ky x0 = true) : ∀ j, j < k + 1 → LabOk l j := fun j hjk => by
  by_cases e : j < k
  · exact h j e
  · obtain rfl : j = k := by omega
    exact ⟨hk, by rw [h0]; exact g0, by rw [h1]; exact g1, fun k1 hk1 e => by rw [h0]; exact g k1 hk1 e⟩
theorem LabsOk.all {l : List LabV} {n : Nat} (h : ∀ j, j < n → LabOk l j) (hn : l.length = n) (h10 : ¬ 10 < n) : LabsOk l := ⟨by omega, fun j hj => h j (by omega)⟩
end Go.Proofs.YtchfpiadfmnphaaDoor
namespace Go.Proofs.YtchfpiadfmnphaaDoor
open Go.RowKit
set_option linter.unusedVariables false

def laysO (t : ByteArray) : Nat → Nat → Option (List LayV × Nat)
  | 0, p => some ([], p)
  | m + 1, p => match bytesO t p 32 with
    | none => none
    | some (a, b1) => match numO t b1 with
      | none => none
      | some (c, b2) => match laysO t m b2 with
        | none => none
        | some (l, q) => some (⟨a, c⟩ :: l, q)
def labsO (t : ByteArray) : Nat → Nat → Option (List LabV × Nat)
  | 0, p => some ([], p)
  | m + 1, p => match textO t p with
    | none => none
    | some (a, b1) => match textO t b1 with
      | none => none
      | some (c, b2) => match labsO t m b2 with
        | none => none
        | some (l, q) => some (⟨a, c⟩ :: l, q)
abbrev MfRes := ByteArray × List LayV × List LabV × Nat
noncomputable def restBs (t nm : ByteArray) (ls : List LayV) (l1 : List LabV) (m p : Nat) : Option MfRes := match labsO t m p with
  | none => none
  | some (l2, q) => if boolP (ManOk nm ls (l1 ++ l2)) = true then some (nm, ls, l1 ++ l2, q) else none
noncomputable def restC (t nm : ByteArray) (ls : List LayV) (p : Nat) : Option MfRes := match countO t p 10 with
  | none => none
  | some (k, b) => restBs t nm ls [] k b
noncomputable def restLs (t nm : ByteArray) (l1 : List LayV) (m p : Nat) : Option MfRes := match laysO t m p with
  | none => none
  | some (l2, q) => restC t nm (l1 ++ l2) q
noncomputable def manO (t : ByteArray) (p : Nat) : Option MfRes := match textO t p with
  | none => none
  | some (nm, b1) => match countO t b1 10 with
    | none => none
    | some (k, b2) => restLs t nm [] k b2
theorem restBs_yes {t nm : ByteArray} {ls : List LayV} {l1 : List LabV} {p : Nat} (h : boolP (ManOk nm ls l1) = true) : restBs t nm ls l1 0 p = some (nm, ls, l1, p) := by
  unfold restBs labsO
  simp [h]
theorem restBs_no {t nm : ByteArray} {ls : List LayV} {l1 : List LabV} {p : Nat} (h : boolP (ManOk nm ls l1) = false) : restBs t nm ls l1 0 p = none := by
  unfold restBs labsO
  simp [h]
theorem restBs_step {t nm : ByteArray} {ls : List LayV} {l1 : List LabV} {m p b1 b2 : Nat} {a c : ByteArray} (h1 : textO t p = some (a, b1)) (h2 : textO t b1 = some (c, b2)) : restBs t nm ls l1 (m + 1) p = restBs t nm ls (l1 ++ [⟨a, c⟩]) m b2 := by
  unfold restBs
  rw [labsO, h1]
  simp only
  rw [h2]
  simp only
  cases labsO t m b2 with
  | none => rfl
  | some y => simp
theorem restBs_no1 {t nm : ByteArray} {ls : List LayV} {l1 : List LabV} {m p : Nat} (h1 : textO t p = none) : restBs t nm ls l1 (m + 1) p = none := by
  unfold restBs
  rw [labsO, h1]
theorem restBs_no2 {t nm : ByteArray} {ls : List LayV} {l1 : List LabV} {m p b1 : Nat} {a : ByteArray} (h1 : textO t p = some (a, b1)) (h2 : textO t b1 = none) : restBs t nm ls l1 (m + 1) p = none := by
  unfold restBs
  rw [labsO, h1]
  simp only
  rw [h2]
theorem restLs_end {t nm : ByteArray} {l1 : List LayV} {p : Nat} : restLs t nm l1 0 p = restC t nm l1 p := by
  unfold restLs laysO
  simp
theorem restLs_step {t nm : ByteArray} {l1 : List LayV} {m p b1 b2 : Nat} {a : ByteArray} {c : Int} (h1 : bytesO t p 32 = some (a, b1)) (h2 : numO t b1 = some (c, b2)) : restLs t nm l1 (m + 1) p = restLs t nm (l1 ++ [⟨a, c⟩]) m b2 := by
  unfold restLs
  rw [laysO, h1]
  simp only
  rw [h2]
  simp only
  cases laysO t m b2 with
  | none => rfl
  | some y => simp
theorem restLs_no1 {t nm : ByteArray} {l1 : List LayV} {m p : Nat} (h1 : bytesO t p 32 = none) : restLs t nm l1 (m + 1) p = none := by
  unfold restLs
  rw [laysO, h1]
theorem restLs_no2 {t nm : ByteArray} {l1 : List LayV} {m p b1 : Nat} {a : ByteArray} (h1 : bytesO t p 32 = some (a, b1)) (h2 : numO t b1 = none) : restLs t nm l1 (m + 1) p = none := by
  unfold restLs
  rw [laysO, h1]
  simp only
  rw [h2]
theorem restC_no {t nm : ByteArray} {ls : List LayV} {p : Nat} (h : countO t p 10 = none) : restC t nm ls p = none := by unfold restC; rw [h]
theorem restC_yes {t nm : ByteArray} {ls : List LayV} {p k b : Nat} (h : countO t p 10 = some (k, b)) : restC t nm ls p = restBs t nm ls [] k b := by unfold restC; rw [h]
theorem laysO_w {t : ByteArray} (hs : t.size ≤ maxLen) {p b1 b2 : Nat} {a : ByteArray} {c : Int} (h1 : bytesO t p 32 = some (a, b1)) (h2 : numO t b1 = some (c, b2)) : LayV.w ⟨a, c⟩ := by
  refine ⟨?_, numO_i64 h2⟩
  obtain ⟨e, e2, e3⟩ := bytesO_yes h1
  show a.size ≤ maxLen
  rw [e, ByteArray.size_extract]
  omega
theorem labsO_w {t : ByteArray} (hs : t.size ≤ maxLen) {p b1 b2 : Nat} {a c : ByteArray} (h1 : textO t p = some (a, b1)) (h2 : textO t b1 = some (c, b2)) : LabV.w ⟨a, c⟩ := ⟨Nat.le_trans (textO_some h1).2.2.1 hs, Nat.le_trans (textO_some h2).2.2.1 hs⟩
/- What the reader makes: its cells, of which it owns the rows. -/
def ManQ (nm : ByteArray) (ls : List LayV) (bs : List LabV) (L : List Value) (w : World) : Prop := ∃ a1 c1 a2 c2, L = [.string nm, .slice a1 ls.length c1, .slice a2 bs.length c2] ∧ VR w a1 (layL ls).flatten ∧ VR w a2 (labL bs).flatten
def ManF (L : List Value) (lo hi : Nat) : Prop := ∃ nm a1 n1 c1 a2 n2 c2, L = [.string nm, .slice a1 n1 c1, .slice a2 n2 c2] ∧ (∀ ad, a1 = some ad → lo ≤ ad.block ∧ ad.block < hi) ∧ (∀ ad, a2 = some ad → lo ≤ ad.block ∧ ad.block < hi) ∧ (∀ x y, a1 = some x → a2 = some y → x.block ≠ y.block)
theorem ManF.mono {L : List Value} {a b c d : Nat} (h : ManF L a b) (h1 : c ≤ a) (h2 : b ≤ d) : ManF L c d := by
  obtain ⟨nm, a1, n1, c1, a2, n2, c2, e, k1, k2, k3⟩ := h
  exact ⟨nm, a1, n1, c1, a2, n2, c2, e, fun ad e => ⟨Nat.le_trans h1 (k1 ad e).1, Nat.lt_of_lt_of_le (k1 ad e).2 h2⟩, fun ad e => ⟨Nat.le_trans h1 (k2 ad e).1, Nat.lt_of_lt_of_le (k2 ad e).2 h2⟩, k3⟩
end Go.Proofs.YtchfpiadfmnphaaDoor
namespace Go.Proofs.YtchfpiadfmnphaaDoor
open Go.RowKit
set_option linter.unusedVariables false

def ManOkT (t nm : ByteArray) (ls : List LayV) (bs : List LabV) : Prop := FirstB t 73 ∧ ∃ q, manO t 1 = some (nm, ls, bs, q) ∧ q = t.size
def OiM (t : ByteArray) (O : Option MfRes) : Prop := ∀ nm ls bs, ManOkT t nm ls bs ↔ ∃ q, O = some (nm, ls, bs, q) ∧ q = t.size
def StM (t : ByteArray) (d : Bool) (O : Option MfRes) (X : Prop) : Prop := (d = false ∧ OiM t O ∧ X) ∨ (d = true ∧ OiM t none)
theorem mq_first {t : ByteArray} {p : Nat} {d : Bool} (h : FstR t ⟨#[73]⟩ p d) : StM t d (manO t 1) (p = 1) := by
  rcases h.2 with ⟨y, e1, e2, e3, e4⟩ | ⟨e1, e2⟩
  · have : y = 73 := by simpa using (congrArg (fun b : ByteArray => b.data.toList) e1).symm
    subst this
    exact Or.inl ⟨e4, fun nm ls bs => ⟨fun ⟨_, q, k1, k2⟩ => ⟨q, k1, k2⟩, fun ⟨q, k1, k2⟩ => ⟨e2, q, k1, k2⟩⟩, e3⟩
  · exact Or.inr ⟨e2, fun nm ls bs => ⟨fun ⟨k0, _⟩ => absurd ⟨73, rfl, k0⟩ e1, fun ⟨q, k1, _⟩ => by cases k1⟩⟩
noncomputable def mo1 (t nm : ByteArray) (p : Nat) : Option MfRes := match countO t p 10 with
  | none => none
  | some (k, b) => restLs t nm [] k b
theorem mq_text {t nm : ByteArray} {p p2 : Nat} {d d2 : Bool} (hs : t.size ≤ maxLen) (h : StM t d (manO t 1) (p = 1)) (h2 : TxtR t p d nm p2 d2) : StM t d2 (mo1 t nm p2) (nm.size ≤ maxLen) := by
  rcases h with ⟨rfl, e3, rfl⟩ | ⟨rfl, e2⟩
  · unfold manO at e3
    rcases h2.2 with ⟨_, k1, k2⟩ | ⟨k1, k2, _⟩
    · rw [k1] at e3
      exact Or.inl ⟨k2, e3, Nat.le_trans (textO_some k1).2.2.1 hs⟩
    · rcases k1 with k1 | k1
      · cases k1
      · rw [k1] at e3
        exact Or.inr ⟨k2, e3⟩
  · rcases h2.2 with ⟨k1, _⟩ | ⟨_, k2, _⟩
    · cases k1
    · exact Or.inr ⟨k2, e2⟩
theorem mq_many {t nm : ByteArray} {p k p2 : Nat} {d d2 : Bool} (h : StM t d (mo1 t nm p) (nm.size ≤ maxLen)) (h2 : ManR t p d 10 k p2 d2) : StM t d2 (restLs t nm [] k p2) (nm.size ≤ maxLen ∧ ∀ y ∈ ([] : List LayV), y.w) := by
  rcases h with ⟨rfl, e3, e4⟩ | ⟨rfl, e2⟩
  · unfold mo1 at e3
    rcases h2.2.2 with ⟨_, k1, k2⟩ | ⟨k1, k2⟩
    · rw [k1] at e3
      exact Or.inl ⟨k2, e3, e4, fun y hy => by cases hy⟩
    · rcases k1 with k1 | k1
      · cases k1
      · rw [k1] at e3
        exact Or.inr ⟨k2, e3⟩
  · rcases h2.2.2 with ⟨k1, _⟩ | ⟨_, k2⟩
    · cases k1
    · exact Or.inr ⟨k2, e2⟩
theorem badN {t : ByteArray} {p q : Nat} {e : Bool} {n : Int} (h : NumR t p true n q e) : e = true := by
  rcases h.2 with ⟨k, _⟩ | ⟨_, k⟩
  · cases k
  · exact k
theorem badB {t : ByteArray} {p q : Nat} {e : Bool} {n : ByteArray} (h : BytR t p true n q e) : e = true := by
  rcases h.2 with ⟨k, _⟩ | ⟨_, k, _⟩
  · cases k
  · exact k
theorem badT {t : ByteArray} {p q : Nat} {e : Bool} {n : ByteArray} (h : TxtR t p true n q e) : e = true := by
  rcases h.2 with ⟨k, _⟩ | ⟨_, k, _⟩
  · cases k
  · exact k
theorem mq_lay {t nm : ByteArray} {l : List LayV} {m p p1 p2 : Nat} {d d1 d2 : Bool} {a : ByteArray} {c : Int} (hs : t.size ≤ maxLen) (h : StM t d (restLs t nm l (m + 1) p) (nm.size ≤ maxLen ∧ ∀ y ∈ l, y.w)) (h1 : BytR t p d a p1 d1) (h2 : NumR t p1 d1 c p2 d2) : StM t d2 (restLs t nm (l ++ [⟨a, c⟩]) m p2) (nm.size ≤ maxLen ∧ ∀ y ∈ l ++ [⟨a, c⟩], y.w) := by
  rcases h with ⟨rfl, e2, e4, e3⟩ | ⟨rfl, e2⟩
  · rcases h1.2 with ⟨_, k1, rfl⟩ | ⟨k1, rfl, _⟩
    · rcases h2.2 with ⟨_, k2, rfl⟩ | ⟨k2, rfl⟩
      · refine Or.inl ⟨rfl, by rw [restLs_step k1 k2] at e2; exact e2, e4, fun y hy => ?_⟩
        rcases List.mem_append.1 hy with hy | hy
        · exact e3 y hy
        · obtain rfl := List.mem_singleton.1 hy
          exact laysO_w hs k1 k2
      · rcases k2 with k2 | k2
        · cases k2
        · exact Or.inr ⟨rfl, by rw [restLs_no2 k1 k2] at e2; exact e2⟩
    · rcases k1 with k1 | k1
      · cases k1
      · exact Or.inr ⟨badN h2, by rw [restLs_no1 k1] at e2; exact e2⟩
  · obtain rfl := badB h1
    exact Or.inr ⟨badN h2, e2⟩
theorem mq_mid {t nm : ByteArray} {ls : List LayV} {p k p2 : Nat} {d d2 : Bool} (h : StM t d (restLs t nm ls 0 p) (nm.size ≤ maxLen ∧ ∀ y ∈ ls, y.w)) (h2 : ManR t p d 10 k p2 d2) : StM t d2 (restBs t nm ls [] k p2) (nm.size ≤ maxLen ∧ (∀ y ∈ ls, y.w) ∧ ∀ y ∈ ([] : List LabV), y.w) := by
  rcases h with ⟨rfl, e3, e4, e5⟩ | ⟨rfl, e2⟩
  · rw [restLs_end] at e3
    unfold restC at e3
    rcases h2.2.2 with ⟨_, k1, k2⟩ | ⟨k1, k2⟩
    · rw [k1] at e3
      exact Or.inl ⟨k2, e3, e4, e5, fun y hy => by cases hy⟩
    · rcases k1 with k1 | k1
      · cases k1
      · rw [k1] at e3
        exact Or.inr ⟨k2, e3⟩
  · rcases h2.2.2 with ⟨k1, _⟩ | ⟨_, k2⟩
    · cases k1
    · exact Or.inr ⟨k2, e2⟩
theorem mq_lab {t nm : ByteArray} {ls : List LayV} {l : List LabV} {m p p1 p2 : Nat} {d d1 d2 : Bool} {a c : ByteArray} (hs : t.size ≤ maxLen) (h : StM t d (restBs t nm ls l (m + 1) p) (nm.size ≤ maxLen ∧ (∀ y ∈ ls, y.w) ∧ ∀ y ∈ l, y.w)) (h1 : TxtR t p d a p1 d1) (h2 : TxtR t p1 d1 c p2 d2) : StM t d2 (restBs t nm ls (l ++ [⟨a, c⟩]) m p2) (nm.size ≤ maxLen ∧ (∀ y ∈ ls, y.w) ∧ ∀ y ∈ l ++ [⟨a, c⟩], y.w) := by
  rcases h with ⟨rfl, e2, e4, e5, e3⟩ | ⟨rfl, e2⟩
  · rcases h1.2 with ⟨_, k1, rfl⟩ | ⟨k1, rfl, _⟩
    · rcases h2.2 with ⟨_, k2, rfl⟩ | ⟨k2, rfl, _⟩
      · refine Or.inl ⟨rfl, by rw [restBs_step k1 k2] at e2; exact e2, e4, e5, fun y hy => ?_⟩
        rcases List.mem_append.1 hy with hy | hy
        · exact e3 y hy
        · obtain rfl := List.mem_singleton.1 hy
          exact labsO_w hs k1 k2
      · rcases k2 with k2 | k2
        · cases k2
        · exact Or.inr ⟨rfl, by rw [restBs_no2 k1 k2] at e2; exact e2⟩
    · rcases k1 with k1 | k1
      · cases k1
      · exact Or.inr ⟨badT h2, by rw [restBs_no1 k1] at e2; exact e2⟩
  · obtain rfl := badT h1
    exact Or.inr ⟨badT h2, e2⟩
theorem mq_end {t nm : ByteArray} {ls : List LayV} {l : List LabV} {p : Nat} {d : Bool} (h : StM t d (restBs t nm ls l 0 p) (nm.size ≤ maxLen ∧ (∀ y ∈ ls, y.w) ∧ ∀ y ∈ l, y.w)) : (doneB t p d = false → ¬ ∃ nm ls bs, ManOkT t nm ls bs) ∧ (doneB t p d = true → (nm.size ≤ maxLen ∧ (∀ y ∈ ls, y.w) ∧ ∀ y ∈ l, y.w) ∧ (boolP (ManOk nm ls l) = true → ManOkT t nm ls l) ∧ (boolP (ManOk nm ls l) = false → ¬ ∃ nm ls bs, ManOkT t nm ls bs)) := by
  unfold doneB
  rcases h with ⟨rfl, e2, e3⟩ | ⟨rfl, e2⟩
  · constructor
    · intro hd
      have hp : ¬ p = t.size := by simpa using hd
      rintro ⟨nm', ls', l', hh⟩
      obtain ⟨q, k1, k2⟩ := (e2 nm' ls' l').1 hh
      cases hb : boolP (ManOk nm ls l) with
      | true =>
        rw [restBs_yes hb] at k1
        injection k1 with k1
        injection k1 with _ k1
        injection k1 with _ k1
        injection k1 with _ k4
        exact hp (k4.trans k2)
      | false => rw [restBs_no hb] at k1; cases k1
    · intro hd
      have hp : p = t.size := by simpa using hd
      refine ⟨e3, fun hb => (e2 nm ls l).2 ⟨p, restBs_yes hb, hp⟩, fun hb => ?_⟩
      rintro ⟨nm', ls', l', hh⟩
      obtain ⟨q, k1, _⟩ := (e2 nm' ls' l').1 hh
      rw [restBs_no hb] at k1
      cases k1
  · refine ⟨fun _ => ?_, fun hd => by cases hd⟩
    rintro ⟨nm', ls', l', hh⟩
    obtain ⟨q, k1, _⟩ := (e2 nm' ls' l').1 hh
    cases k1
/- What ManifestRead answers. -/
def MnAns (t nm : ByteArray) (ls : List LayV) (bs : List LabV) (c : Int) : Prop := (20000 < t.size ∧ nm = ⟨#[]⟩ ∧ ls = [] ∧ bs = [] ∧ c = 2) ∨ (t.size ≤ 20000 ∧ ManOkT t nm ls bs ∧ c = 0) ∨ (t.size ≤ 20000 ∧ (¬ ∃ nm ls bs, ManOkT t nm ls bs) ∧ nm = ⟨#[]⟩ ∧ ls = [] ∧ bs = [] ∧ c = 3)
theorem manOkT_one {t nm nm' : ByteArray} {ls ls' : List LayV} {bs bs' : List LabV} (h : ManOkT t nm ls bs) (k : ManOkT t nm' ls' bs') : nm = nm' ∧ ls = ls' ∧ bs = bs' := by
  obtain ⟨_, q, a1, _⟩ := h
  obtain ⟨_, q', a2, _⟩ := k
  rw [a1] at a2
  injection a2 with a2
  injection a2 with e1 a2
  injection a2 with e2 a2
  injection a2 with e3 e4
  exact ⟨e1, e2, e3⟩
theorem mnAns_one {t nm nm' : ByteArray} {ls ls' : List LayV} {bs bs' : List LabV} {c c' : Int} (h : MnAns t nm ls bs c) (h' : MnAns t nm' ls' bs' c') : nm = nm' ∧ ls = ls' ∧ bs = bs' ∧ c = c' := by
  rcases h with ⟨h0, rfl, rfl, rfl, rfl⟩ | ⟨h0, h1, rfl⟩ | ⟨h0, h1, rfl, rfl, rfl, rfl⟩
  · rcases h' with ⟨_, rfl, rfl, rfl, rfl⟩ | ⟨k0, _⟩ | ⟨k0, _⟩
    · exact ⟨rfl, rfl, rfl, rfl⟩
    · omega
    · omega
  · rcases h' with ⟨k0, _⟩ | ⟨k0, k1, rfl⟩ | ⟨k0, k1, _⟩
    · omega
    · obtain ⟨e1, e2, e3⟩ := manOkT_one h1 k1
      exact ⟨e1, e2, e3, rfl⟩
    · exact absurd ⟨_, _, _, h1⟩ k1
  · rcases h' with ⟨k0, _⟩ | ⟨k0, k1, rfl⟩ | ⟨k0, k1, rfl, rfl, rfl, rfl⟩
    · omega
    · exact absurd ⟨_, _, _, k1⟩ h1
    · exact ⟨rfl, rfl, rfl, rfl⟩
theorem laysO_le {t : ByteArray} : ∀ (m p : Nat) {l : List LayV} {q : Nat}, laysO t m p = some (l, q) → p ≤ t.size → q ≤ t.size
  | 0, p, l, q, h, hp => by
    unfold laysO at h
    injection h with h
    injection h with _ e
    omega
  | m + 1, p, l, q, h, hp => by
    rw [laysO] at h
    cases h1 : bytesO t p 32 with
    | none => rw [h1] at h; cases h
    | some y1 =>
    rw [h1] at h
    simp only at h
    cases h2 : numO t y1.2 with
    | none => rw [h2] at h; cases h
    | some y2 =>
    rw [h2] at h
    simp only at h
    cases h4 : laysO t m y2.2 with
    | none => rw [h4] at h; cases h
    | some y4 =>
    rw [h4] at h
    simp only at h
    injection h with h
    injection h with _ e
    subst e
    exact laysO_le m y2.2 h4 (numO_some (n := y2.1) (b := y2.2) h2).2.1
theorem labsO_le {t : ByteArray} : ∀ (m p : Nat) {l : List LabV} {q : Nat}, labsO t m p = some (l, q) → p ≤ t.size → q ≤ t.size
  | 0, p, l, q, h, hp => by
    unfold labsO at h
    injection h with h
    injection h with _ e
    omega
  | m + 1, p, l, q, h, hp => by
    rw [labsO] at h
    cases h1 : textO t p with
    | none => rw [h1] at h; cases h
    | some y1 =>
    rw [h1] at h
    simp only at h
    cases h2 : textO t y1.2 with
    | none => rw [h2] at h; cases h
    | some y2 =>
    rw [h2] at h
    simp only at h
    cases h4 : labsO t m y2.2 with
    | none => rw [h4] at h; cases h
    | some y4 =>
    rw [h4] at h
    simp only at h
    injection h with h
    injection h with _ e
    subst e
    exact labsO_le m y2.2 h4 (textO_some (x := y2.1) (b := y2.2) h2).2.1
theorem manO_le {t nm : ByteArray} {ls : List LayV} {bs : List LabV} {q : Nat} (h : manO t 1 = some (nm, ls, bs, q)) : q ≤ t.size ∧ nm.size ≤ t.size := by
  unfold manO at h
  cases h1 : textO t 1 with
  | none => rw [h1] at h; cases h
  | some y1 =>
  rw [h1] at h
  simp only at h
  cases h2 : countO t y1.2 10 with
  | none => rw [h2] at h; cases h
  | some y2 =>
  rw [h2] at h
  simp only at h
  unfold restLs at h
  cases h3 : laysO t y2.1 y2.2 with
  | none => rw [h3] at h; cases h
  | some y3 =>
  rw [h3] at h
  simp only at h
  unfold restC at h
  cases h4 : countO t y3.2 10 with
  | none => rw [h4] at h; cases h
  | some y4 =>
  rw [h4] at h
  simp only at h
  unfold restBs at h
  cases h5 : labsO t y4.1 y4.2 with
  | none => rw [h5] at h; cases h
  | some y5 =>
  rw [h5] at h
  simp only at h
  split at h
  · injection h with h
    injection h with e0 h
    injection h with _ h
    injection h with _ e
    subst e e0
    exact ⟨labsO_le _ _ h5 (countO_le (k := y4.1) (b := y4.2) h4).2, (textO_some (x := y1.1) (b := y1.2) h1).2.2.1⟩
  · cases h
end Go.Proofs.YtchfpiadfmnphaaDoor
namespace Go.Proofs.YtchfpiadfmnphaaDoor
open Go.RowKit
set_option linter.unusedVariables false

set_option maxRecDepth 100000 in
set_option maxHeartbeats 4000000 in
theorem implLays (a : Option Addr) (c n : Nat) (l : List LayV) (w : World) (hn : l.length = n) (h : LayAt w a l) (hm : n ≤ maxLen) (hw : ∀ x ∈ l, x.w) :
    Calls Tryd.prog 105 #[.slice a n c] w fun r w' => r = .returned (.bool (boolP (LaysOk l))) ∧ Below w.heap.size w w' := by
  unfold maxLen at hm
  have HN := hidP hn
  have HW := hidP hw
  have hC1 : ∀ w0 (x0 : ByteArray), (x0.size ≤ maxLen) → (decide (x0.size = 32) = false) → Calls Tryd.prog 63 #[.string x0] w0 fun r w' => r = .returned (.bool false) ∧ w0 = w' := fun w0 x0 n0 n1 => by rw [← n1]; exact sizedI x0 w0 n0
  have hC2 : ∀ w0 (x0 : ByteArray), (x0.size ≤ maxLen) → (decide (x0.size = 32) = true) → Calls Tryd.prog 63 #[.string x0] w0 fun r w' => r = .returned (.bool true) ∧ w0 = w' := fun w0 x0 n0 n1 => by rw [← n1]; exact sizedI x0 w0 n0
  have HS0 : Hid (Sta [] w [] [⟨fun k => k < w.heap.size, fun w' => LayAt w' a l⟩] w) := Sta.arg (fun w' => LayAt w' a l) (fun w' hb => h.below hb)
  clear h hn hw
  go_enter Tryd.func105, Tryd.ntmps105
  by_cases h5 : 10 < n
  · as_aux_lemma =>
    have d5 : decide ((10 : Int) < (n : Int)) = true := decide_eq_true (by omega)
    have HF := hidP (LaysOk.not_long HN.out h5)
    go_wp2_with fail
    go_ret
    exact ⟨congrArg (fun b => Ending.returned (Value.bool b)) (boolP_no HF.out).symm, Sta.fin HS0⟩
  · have d5 : decide ((10 : Int) < (n : Int)) = false := decide_eq_false (by omega)
    have H5 := hidP h5
    go_wp2_with fail
    go_loopw [10] (fun v0 wr => ∃ (k : Nat), v0 = .int .i64 (k : Int) ∧ k ≤ n ∧ Hid (∀ j (h : j < l.length), j < k → LayOk l[j]) ∧ Hid (Sta [] w [] [⟨fun k => k < w.heap.size, fun w' => LayAt w' a l⟩] wr)) (fun v0 _ => n - (intOf v0).toNat)
    case atStart => exact ⟨0, rfl, Nat.zero_le _, fun j h hj => absurd hj (Nat.not_lt_zero _), HS0⟩
    case round =>
      rename Go.World => wl1
      clear HS0
      obtain ⟨k, rfl, hk1, HT, HS1⟩ := hrel
      by_cases hlt1 : k < n
      case neg =>
        obtain rfl : n = k := by omega
        have HF := hidP (LaysOk.all HT.out HN.out H5.out)
        go_wp2_with fail
        go_ret
        exact ⟨congrArg (fun b => Ending.returned (Value.bool b)) (boolP_yes HF.out).symm, Sta.fin HS1⟩
      have lk1 : (k : Int) < n := by omega
      have l01 : (0 : Int) ≤ k := by omega
      have hkl : k < l.length := by have := HN.out; omega
      obtain ⟨b, o, rfl, hz2⟩ := (Sta.t (i := 0) HS1 rfl :) k hkl
      clear hz2
      obtain ⟨x0, hx0⟩ : ∃ y, l[k].bl = y := ⟨_, rfl⟩
      obtain ⟨x1, hx1⟩ : ∃ y, l[k].sz = y := ⟨_, rfl⟩
      have HS3 := Sta.imp 0 (fun w' => (LayAt w' (some ⟨b, o, none⟩) l) ∧ w'.cell? ⟨b, o + k * 2, none⟩ = some (.string x0) ∧ w'.cell? ⟨b, o + k * 2 + 1, none⟩ = some (.int .i64 x1)) HS1 rfl (fun w' h => ⟨h, by rw [← hx0]; exact (LayAt.here h k hkl).1, by rw [← hx1]; exact (LayAt.here h k hkl).2⟩)
      have W0 : Hid (x0.size ≤ maxLen) := by have := (HW.out l[k] (List.getElem_mem hkl)).1; rw [hx0] at this; exact this
      have tcHS3_0_0 : wl1.cell? ⟨b, o + k * 2, none⟩ = some (.string x0) := (Sta.t (i := 0) HS3 rfl :).2.1
      have tcHS3_0_1 : wl1.cell? ⟨b, o + k * 2 + 1, none⟩ = some (.int .i64 x1) := (Sta.t (i := 0) HS3 rfl :).2.2
      go_wp2_with (first
        | ((with_reducible refine wpList_allocV (w := wl1) (by with_unfolding_all rfl) 85 (by with_unfolding_all rfl) [.string ⟨#[]⟩, .int .i64 0] Tryd.zT_implLayer ?_); intro w4 hA4 hB4 hS4; clear hS4; have HS4 := Sta.new HS3 hA4 hB4 (by simp); clear hA4 hB4; clear tcHS3_0_0 tcHS3_0_1)
        | ((with_reducible refine wpList_storeS (w := w4) (by with_unfolding_all rfl) 85 (.tmp 4) (.tmp 13) (by with_unfolding_all rfl) wl1.heap.size [.string ⟨#[]⟩, .int .i64 0] [.string x0, .int .i64 x1] (by with_unfolding_all rfl) (by with_unfolding_all rfl) (Sta.r (i := 0) HS4 (by with_unfolding_all rfl)) 2 Tryd.sT_implLayer (by with_unfolding_all rfl) (by with_unfolding_all rfl) (by with_unfolding_all rfl) ?_); intro w5 hA5 hO5; have HS5 := Sta.put 0 HS4 rfl hA5 (by simp) hO5; clear hA5 hO5; have cHS5_0_0 : w5.cell? ⟨wl1.heap.size, 0, none⟩ = some (.string x0) := Sta.c (i := 0) HS5 rfl rfl))
      clear cHS5_0_0
      have hb4 : (¬ x0.size = 32) ∨ (x0.size = 32 ∧ x1 < 0) ∨ (x0.size = 32 ∧ 0 ≤ x1 ∧ 3000 < x1) ∨ (x0.size = 32 ∧ 0 ≤ x1 ∧ x1 ≤ 3000) := by omega
      rcases hb4 with g | ⟨g, g1⟩ | ⟨g, g1, g2⟩ | ⟨g, g1, g2⟩
      · as_aux_lemma =>
        have hd : decide (x0.size = 32) = false := decide_eq_false g
        have HF := hidP (LaysOk.not_at hkl hx0 hx1 (by omega))
        have cHS5_0_0 : w5.cell? ⟨wl1.heap.size, 0, none⟩ = some (.string x0) := Sta.c (i := 0) HS5 rfl rfl
        go_wp2_with (first
          | (go_at_call 63; (with_reducible refine (hC1 w5 x0 W0.out hd).mono ?_); rintro r w' ⟨rfl, rfl⟩))
        go_ret
        exact ⟨congrArg (fun b => Ending.returned (Value.bool b)) (boolP_no HF.out).symm, Sta.fin HS5⟩
      · as_aux_lemma =>
        have hd : decide (x0.size = 32) = true := decide_eq_true g
        have d1 : decide (x1 < 0) = true := decide_eq_true g1
        have HF := hidP (LaysOk.not_at hkl hx0 hx1 (by omega))
        have cHS5_0_0 : w5.cell? ⟨wl1.heap.size, 0, none⟩ = some (.string x0) := Sta.c (i := 0) HS5 rfl rfl
        have cHS5_0_1 : w5.cell? ⟨wl1.heap.size, 1, none⟩ = some (.int .i64 x1) := Sta.c (i := 0) HS5 rfl rfl
        go_wp2_with (first
          | (go_at_call 63; (with_reducible refine (hC2 w5 x0 W0.out hd).mono ?_); rintro r w' ⟨rfl, rfl⟩))
        go_ret
        exact ⟨congrArg (fun b => Ending.returned (Value.bool b)) (boolP_no HF.out).symm, Sta.fin HS5⟩
      · as_aux_lemma =>
        have hd : decide (x0.size = 32) = true := decide_eq_true g
        have d1 : decide (x1 < 0) = false := decide_eq_false (by omega)
        have d2 : decide (3000 < x1) = true := decide_eq_true g2
        have HF := hidP (LaysOk.not_at hkl hx0 hx1 (by omega))
        have cHS5_0_0 : w5.cell? ⟨wl1.heap.size, 0, none⟩ = some (.string x0) := Sta.c (i := 0) HS5 rfl rfl
        have cHS5_0_1 : w5.cell? ⟨wl1.heap.size, 1, none⟩ = some (.int .i64 x1) := Sta.c (i := 0) HS5 rfl rfl
        go_wp2_with (first
          | (go_at_call 63; (with_reducible refine (hC2 w5 x0 W0.out hd).mono ?_); rintro r w' ⟨rfl, rfl⟩))
        go_ret
        exact ⟨congrArg (fun b => Ending.returned (Value.bool b)) (boolP_no HF.out).symm, Sta.fin HS5⟩
      · as_aux_lemma =>
        have hd : decide (x0.size = 32) = true := decide_eq_true g
        have d1 : decide (x1 < 0) = false := decide_eq_false (by omega)
        have d2 : decide (3000 < x1) = false := decide_eq_false (by omega)
        have HT2 := hidP (LaysOk.step HT.out hkl hx0 hx1 ⟨g, g1, g2⟩)
        have cHS5_0_0 : w5.cell? ⟨wl1.heap.size, 0, none⟩ = some (.string x0) := Sta.c (i := 0) HS5 rfl rfl
        have cHS5_0_1 : w5.cell? ⟨wl1.heap.size, 1, none⟩ = some (.int .i64 x1) := Sta.c (i := 0) HS5 rfl rfl
        go_wp2_with (first
          | (go_at_call 63; (with_reducible refine (hC2 w5 x0 W0.out hd).mono ?_); rintro r w' ⟨rfl, rfl⟩))
        clear cHS5_0_0 cHS5_0_1
        have HS10 := Sta.imp 0 (fun w' => LayAt w' (some ⟨b, o, none⟩) l) HS5 rfl (fun w' h => h.1)
        go_roundw
        case rel => exact ⟨k + 1, by go_num, hlt1, HT2, Sta.drop 1 0 HS10⟩
        case measure => simp [intOf]; omega
set_option maxRecDepth 100000 in
set_option maxHeartbeats 8000000 in
theorem implLabs (a : Option Addr) (c n : Nat) (l : List LabV) (w : World) (hn : l.length = n) (h : LabAt w a l) (hm : n ≤ maxLen) (hw : ∀ x ∈ l, x.w) :
    Calls Tryd.prog 106 #[.slice a n c] w fun r w' => r = .returned (.bool (boolP (LabsOk l))) ∧ Below w.heap.size w w' := by
  unfold maxLen at hm
  have HN := hidP hn
  have HW := hidP hw
  have hC1 : ∀ w0 (x0 : ByteArray), (x0.size ≤ maxLen) → (nameB x0 = false) → Calls Tryd.prog 104 #[.string x0] w0 fun r w' => r = .returned (.bool false) ∧ w0 = w' := fun w0 x0 n0 n1 => by rw [← n1]; exact implNameB x0 w0 n0
  have hC2 : ∀ w0 (x0 : ByteArray), (x0.size ≤ maxLen) → (nameB x0 = true) → Calls Tryd.prog 104 #[.string x0] w0 fun r w' => r = .returned (.bool true) ∧ w0 = w' := fun w0 x0 n0 n1 => by rw [← n1]; exact implNameB x0 w0 n0
  have hC3 : ∀ w0 (x1 : ByteArray), (x1.size ≤ maxLen) → (nameB x1 = false) → Calls Tryd.prog 104 #[.string x1] w0 fun r w' => r = .returned (.bool false) ∧ w0 = w' := fun w0 x1 n0 n1 => by rw [← n1]; exact implNameB x1 w0 n0
  have hC4 : ∀ w0 (x1 : ByteArray), (x1.size ≤ maxLen) → (nameB x1 = true) → Calls Tryd.prog 104 #[.string x1] w0 fun r w' => r = .returned (.bool true) ∧ w0 = w' := fun w0 x1 n0 n1 => by rw [← n1]; exact implNameB x1 w0 n0
  have HS0 : Hid (Sta [] w [] [⟨fun k => k < w.heap.size, fun w' => LabAt w' a l⟩] w) := Sta.arg (fun w' => LabAt w' a l) (fun w' hb => h.below hb)
  clear h hn hw
  go_enter Tryd.func106, Tryd.ntmps106
  by_cases h5 : 10 < n
  · as_aux_lemma =>
    have d5 : decide ((10 : Int) < (n : Int)) = true := decide_eq_true (by omega)
    have HF := hidP (LabsOk.not_long HN.out h5)
    go_wp2_with fail
    go_ret
    exact ⟨congrArg (fun b => Ending.returned (Value.bool b)) (boolP_no HF.out).symm, Sta.fin HS0⟩
  · have d5 : decide ((10 : Int) < (n : Int)) = false := decide_eq_false (by omega)
    have H5 := hidP h5
    go_wp2_with fail
    go_loopw [10] (fun v0 wr => ∃ (k : Nat), v0 = .int .i64 (k : Int) ∧ k ≤ n ∧ Hid (∀ j, j < k → LabOk l j) ∧ Hid (Sta [] w [] [⟨fun k => k < w.heap.size, fun w' => LabAt w' a l⟩] wr)) (fun v0 _ => n - (intOf v0).toNat)
    case atStart => exact ⟨0, rfl, Nat.zero_le _, fun j hj => absurd hj (Nat.not_lt_zero _), HS0⟩
    case round =>
      rename Go.World => wl1
      clear HS0
      obtain ⟨k, rfl, hk1, HT, HS1⟩ := hrel
      by_cases hlt1 : k < n
      case neg =>
        obtain rfl : n = k := by omega
        have HF := hidP (LabsOk.all HT.out HN.out H5.out)
        go_wp2_with fail
        go_ret
        exact ⟨congrArg (fun b => Ending.returned (Value.bool b)) (boolP_yes HF.out).symm, Sta.fin HS1⟩
      have lk1 : (k : Int) < n := by omega
      have l01 : (0 : Int) ≤ k := by omega
      have hkl : k < l.length := by have := HN.out; omega
      obtain ⟨b, o, rfl, hz2⟩ := (Sta.t (i := 0) HS1 rfl :) k hkl
      clear hz2
      obtain ⟨x0, hx0⟩ : ∃ y, l[k].ky = y := ⟨_, rfl⟩
      obtain ⟨x1, hx1⟩ : ∃ y, l[k].vl = y := ⟨_, rfl⟩
      have HS3 := Sta.imp 0 (fun w' => (LabAt w' (some ⟨b, o, none⟩) l) ∧ w'.cell? ⟨b, o + k * 2, none⟩ = some (.string x0) ∧ w'.cell? ⟨b, o + k * 2 + 1, none⟩ = some (.string x1)) HS1 rfl (fun w' h => ⟨h, by rw [← hx0]; exact (LabAt.here h k hkl).1, by rw [← hx1]; exact (LabAt.here h k hkl).2⟩)
      have W0 : Hid (x0.size ≤ maxLen) := by have := (HW.out l[k] (List.getElem_mem hkl)).1; rw [hx0] at this; exact this
      have W1 : Hid (x1.size ≤ maxLen) := by have := (HW.out l[k] (List.getElem_mem hkl)).2; rw [hx1] at this; exact this
      have tcHS3_0_0 : wl1.cell? ⟨b, o + k * 2, none⟩ = some (.string x0) := (Sta.t (i := 0) HS3 rfl :).2.1
      have tcHS3_0_1 : wl1.cell? ⟨b, o + k * 2 + 1, none⟩ = some (.string x1) := (Sta.t (i := 0) HS3 rfl :).2.2
      go_wp2_with (first
        | ((with_reducible refine wpList_allocV (w := wl1) (by with_unfolding_all rfl) 116 (by with_unfolding_all rfl) [.string ⟨#[]⟩, .string ⟨#[]⟩] Tryd.zT_implLabel ?_); intro w4 hA4 hB4 hS4; clear hS4; have HS4 := Sta.new HS3 hA4 hB4 (by simp); clear hA4 hB4; clear tcHS3_0_0 tcHS3_0_1)
        | ((with_reducible refine wpList_storeS (w := w4) (by with_unfolding_all rfl) 116 (.tmp 4) (.tmp 14) (by with_unfolding_all rfl) wl1.heap.size [.string ⟨#[]⟩, .string ⟨#[]⟩] [.string x0, .string x1] (by with_unfolding_all rfl) (by with_unfolding_all rfl) (Sta.r (i := 0) HS4 (by with_unfolding_all rfl)) 2 Tryd.sT_implLabel (by with_unfolding_all rfl) (by with_unfolding_all rfl) (by with_unfolding_all rfl) ?_); intro w5 hA5 hO5; have HS5 := Sta.put 0 HS4 rfl hA5 (by simp) hO5; clear hA5 hO5; have cHS5_0_0 : w5.cell? ⟨wl1.heap.size, 0, none⟩ = some (.string x0) := Sta.c (i := 0) HS5 rfl rfl))
      clear cHS5_0_0
      have hb5 : nameB x0 = false ∨ (nameB x0 = true ∧ nameB x1 = false) ∨ (nameB x0 = true ∧ nameB x1 = true ∧ k = 0) ∨ (nameB x0 = true ∧ nameB x1 = true ∧ 0 < k) := by cases nameB x0 <;> cases nameB x1 <;> simp <;> omega
      rcases hb5 with hd0 | ⟨hd0, hd1⟩ | ⟨hd0, hd1, hk0⟩ | ⟨hd0, hd1, hk0⟩
      · as_aux_lemma =>
        have HF := hidP (LabsOk.not_at hkl hx0 hx1 (fun e0 e1 => by rw [hd0] at e0; cases e0))
        go_wp2_with fail
        have HS6 := Sta.drew HS5
        refine wp_region_held_drew (S := fun w' => w'.cell? ⟨wl1.heap.size, 0, none⟩ = some (.string x0) ∧ w'.cell? ⟨wl1.heap.size, 1, none⟩ = some (.string x1)) (by kernel_rfl) ⟨Sta.c (i := 0) HS6 rfl rfl, Sta.c (i := 0) HS6 rfl rfl⟩ (fun hHeld => ?_)
        generalize w5.drew = w6 at *
        refine wpAnyH_take (i := 0) (oi := ⟨_, _, _, _, _, _⟩) (v := .pointer (some ⟨wl1.heap.size, 0, none⟩)) rfl (by kernel_rfl) (by kernel_rfl) (by kernel_rfl) (fun _ _ _ h => h) (Or.inl ⟨wanted_free rfl, fun w' hSw => ?_⟩) hHeld ?_
        · go_simp
        try simp only [Act.put, List.setIfInBounds_toArray, List.set_cons_zero, List.set_cons_succ]
        refine wpAnyH_take (i := 1) (oi := ⟨_, _, _, _, _, _⟩) (v := .string x0) rfl (by kernel_rfl) (by kernel_rfl) (by kernel_rfl) (fun _ _ _ h => h) (Or.inl ⟨wanted_free rfl, fun w' hSw => ?_⟩) hHeld ?_
        · obtain ⟨s0, s1⟩ := hSw
          go_simp
        try simp only [Act.put, List.setIfInBounds_toArray, List.set_cons_zero, List.set_cons_succ]
        refine wpAnyH_ready (rs := [2]) (by kernel_rfl) (by simp) (AllReadyH.cons (o := ⟨_, _, _, _, _, _⟩) rfl (fun K hK => ?_) AllReadyH.nil)
        rewrite [if_pos (wanted_free rfl)]
        go_simp
        (with_reducible refine (hC1 w6 x0 W0.out hd0).mono ?_)
        rintro r w' ⟨rfl, rfl⟩
        go_wp2_with fail
        refine hK.out _ _ ⟨Sta.c (i := 0) HS6 rfl rfl, Sta.c (i := 0) HS6 rfl rfl⟩ (fun hHeld => ?_)
        clear hK K
        try simp only [Act.put, List.setIfInBounds_toArray, List.set_cons_zero, List.set_cons_succ]
        refine wpAnyH_take (i := 3) (oi := ⟨_, _, _, _, _, _⟩) (v := .bool true) rfl (by kernel_rfl) (by kernel_rfl) (by kernel_rfl) (fun _ _ _ h => h) (Or.inl ⟨wanted_free rfl, fun w' hSw => ?_⟩) hHeld ?_
        · go_simp
        try simp only [Act.put, List.setIfInBounds_toArray, List.set_cons_zero, List.set_cons_succ]
        refine wpAnyH_take (i := 4) (oi := ⟨_, _, _, _, _, _⟩) (v := .bool true) rfl (by kernel_rfl) (by kernel_rfl) (by kernel_rfl) (fun _ _ _ h => h) (Or.inl ⟨wanted_free rfl, fun w' hSw => ?_⟩) hHeld ?_
        · go_simp
        try simp only [Act.put, List.setIfInBounds_toArray, List.set_cons_zero, List.set_cons_succ]
        refine wpAnyH_take (i := 5) (oi := ⟨_, _, _, _, _, _⟩) (v := undef) rfl (by kernel_rfl) (by kernel_rfl) (by kernel_rfl) (fun _ _ _ h => h) (Or.inr ⟨by with_unfolding_all rfl, rfl⟩) hHeld ?_
        try simp only [Act.put, List.setIfInBounds_toArray, List.set_cons_zero, List.set_cons_succ]
        refine wpAnyH_take (i := 6) (oi := ⟨_, _, _, _, _, _⟩) (v := undef) rfl (by kernel_rfl) (by kernel_rfl) (by kernel_rfl) (fun _ _ _ h => h) (Or.inr ⟨by with_unfolding_all rfl, rfl⟩) hHeld ?_
        try simp only [Act.put, List.setIfInBounds_toArray, List.set_cons_zero, List.set_cons_succ]
        refine wpAnyH_take (i := 7) (oi := ⟨_, _, _, _, _, _⟩) (v := undef) rfl (by kernel_rfl) (by kernel_rfl) (by kernel_rfl) (fun _ _ _ h => h) (Or.inr ⟨by with_unfolding_all rfl, rfl⟩) hHeld ?_
        try simp only [Act.put, List.setIfInBounds_toArray, List.set_cons_zero, List.set_cons_succ]
        refine wpAnyH_take (i := 8) (oi := ⟨_, _, _, _, _, _⟩) (v := undef) rfl (by kernel_rfl) (by kernel_rfl) (by kernel_rfl) (fun _ _ _ h => h) (Or.inr ⟨by with_unfolding_all rfl, rfl⟩) hHeld ?_
        try simp only [Act.put, List.setIfInBounds_toArray, List.set_cons_zero, List.set_cons_succ]
        refine wpAnyH_take (i := 9) (oi := ⟨_, _, _, _, _, _⟩) (v := .bool true) rfl (by kernel_rfl) (by kernel_rfl) (by kernel_rfl) (fun _ _ _ h => h) (Or.inl ⟨wanted_free rfl, fun w' hSw => ?_⟩) hHeld ?_
        · go_simp
        try simp only [Act.put, List.setIfInBounds_toArray, List.set_cons_zero, List.set_cons_succ]
        refine wpAnyH_take (i := 10) (oi := ⟨_, _, _, _, _, _⟩) (v := .bool true) rfl (by kernel_rfl) (by kernel_rfl) (by kernel_rfl) (fun _ _ _ h => h) (Or.inl ⟨wanted_free rfl, fun w' hSw => ?_⟩) hHeld ?_
        · go_simp
        try simp only [Act.put, List.setIfInBounds_toArray, List.set_cons_zero, List.set_cons_succ]
        refine wpAnyH_take (i := 11) (oi := ⟨_, _, _, _, _, _⟩) (v := undef) rfl (by kernel_rfl) (by kernel_rfl) (by kernel_rfl) (fun _ _ _ h => h) (Or.inr ⟨by with_unfolding_all rfl, rfl⟩) hHeld ?_
        try simp only [Act.put, List.setIfInBounds_toArray, List.set_cons_zero, List.set_cons_succ]
        refine wpAnyH_take (i := 12) (oi := ⟨_, _, _, _, _, _⟩) (v := undef) rfl (by kernel_rfl) (by kernel_rfl) (by kernel_rfl) (fun _ _ _ h => h) (Or.inr ⟨by with_unfolding_all rfl, rfl⟩) hHeld ?_
        try simp only [Act.put, List.setIfInBounds_toArray, List.set_cons_zero, List.set_cons_succ]
        refine wpAnyH_take (i := 13) (oi := ⟨_, _, _, _, _, _⟩) (v := undef) rfl (by kernel_rfl) (by kernel_rfl) (by kernel_rfl) (fun _ _ _ h => h) (Or.inr ⟨by with_unfolding_all rfl, rfl⟩) hHeld ?_
        try simp only [Act.put, List.setIfInBounds_toArray, List.set_cons_zero, List.set_cons_succ]
        refine wpAnyH_take (i := 14) (oi := ⟨_, _, _, _, _, _⟩) (v := undef) rfl (by kernel_rfl) (by kernel_rfl) (by kernel_rfl) (fun _ _ _ h => h) (Or.inr ⟨by with_unfolding_all rfl, rfl⟩) hHeld ?_
        try simp only [Act.put, List.setIfInBounds_toArray, List.set_cons_zero, List.set_cons_succ]
        refine wpAnyH_take (i := 15) (oi := ⟨_, _, _, _, _, _⟩) (v := undef) rfl (by kernel_rfl) (by kernel_rfl) (by kernel_rfl) (fun _ _ _ h => h) (Or.inr ⟨by with_unfolding_all rfl, rfl⟩) hHeld ?_
        try simp only [Act.put, List.setIfInBounds_toArray, List.set_cons_zero, List.set_cons_succ]
        refine wpAnyH_take (i := 16) (oi := ⟨_, _, _, _, _, _⟩) (v := undef) rfl (by kernel_rfl) (by kernel_rfl) (by kernel_rfl) (fun _ _ _ h => h) (Or.inr ⟨by with_unfolding_all rfl, rfl⟩) hHeld ?_
        try simp only [Act.put, List.setIfInBounds_toArray, List.set_cons_zero, List.set_cons_succ]
        refine wpAnyH_take (i := 17) (oi := ⟨_, _, _, _, _, _⟩) (v := undef) rfl (by kernel_rfl) (by kernel_rfl) (by kernel_rfl) (fun _ _ _ h => h) (Or.inr ⟨by with_unfolding_all rfl, rfl⟩) hHeld ?_
        try simp only [Act.put, List.setIfInBounds_toArray, List.set_cons_zero, List.set_cons_succ]
        refine wpAnyH_take (i := 18) (oi := ⟨_, _, _, _, _, _⟩) (v := undef) rfl (by kernel_rfl) (by kernel_rfl) (by kernel_rfl) (fun _ _ _ h => h) (Or.inr ⟨by with_unfolding_all rfl, rfl⟩) hHeld ?_
        try simp only [Act.put, List.setIfInBounds_toArray, List.set_cons_zero, List.set_cons_succ]
        refine wpAnyH_take (i := 19) (oi := ⟨_, _, _, _, _, _⟩) (v := undef) rfl (by kernel_rfl) (by kernel_rfl) (by kernel_rfl) (fun _ _ _ h => h) (Or.inr ⟨by with_unfolding_all rfl, rfl⟩) hHeld ?_
        try simp only [Act.put, List.setIfInBounds_toArray, List.set_cons_zero, List.set_cons_succ]
        refine wpAnyH_take (i := 20) (oi := ⟨_, _, _, _, _, _⟩) (v := undef) rfl (by kernel_rfl) (by kernel_rfl) (by kernel_rfl) (fun _ _ _ h => h) (Or.inr ⟨by with_unfolding_all rfl, rfl⟩) hHeld ?_
        try simp only [Act.put, List.setIfInBounds_toArray, List.set_cons_zero, List.set_cons_succ]
        refine wpAnyH_take (i := 21) (oi := ⟨_, _, _, _, _, _⟩) (v := undef) rfl (by kernel_rfl) (by kernel_rfl) (by kernel_rfl) (fun _ _ _ h => h) (Or.inr ⟨by with_unfolding_all rfl, rfl⟩) hHeld ?_
        try simp only [Act.put, List.setIfInBounds_toArray, List.set_cons_zero, List.set_cons_succ]
        refine wpAnyH_take (i := 22) (oi := ⟨_, _, _, _, _, _⟩) (v := undef) rfl (by kernel_rfl) (by kernel_rfl) (by kernel_rfl) (fun _ _ _ h => h) (Or.inr ⟨by with_unfolding_all rfl, rfl⟩) hHeld ?_
        try simp only [Act.put, List.setIfInBounds_toArray, List.set_cons_zero, List.set_cons_succ]
        refine wpAnyH_take (i := 23) (oi := ⟨_, _, _, _, _, _⟩) (v := undef) rfl (by kernel_rfl) (by kernel_rfl) (by kernel_rfl) (fun _ _ _ h => h) (Or.inr ⟨by with_unfolding_all rfl, rfl⟩) hHeld ?_
        try simp only [Act.put, List.setIfInBounds_toArray, List.set_cons_zero, List.set_cons_succ]
        refine wpAnyH_take (i := 24) (oi := ⟨_, _, _, _, _, _⟩) (v := .bool true) rfl (by kernel_rfl) (by kernel_rfl) (by kernel_rfl) (fun _ _ _ h => h) (Or.inl ⟨wanted_free rfl, fun w' hSw => ?_⟩) hHeld ?_
        · go_simp
        try simp only [Act.put, List.setIfInBounds_toArray, List.set_cons_zero, List.set_cons_succ]
        refine wpAnyH_done (by kernel_rfl) ?_ _
        clear hHeld
        go_wp2_with fail
        go_ret
        exact ⟨congrArg (fun b => Ending.returned (Value.bool b)) (boolP_no HF.out).symm, Sta.fin HS6⟩
      · as_aux_lemma =>
        have HF := hidP (LabsOk.not_at hkl hx0 hx1 (fun e0 e1 => by rw [hd1] at e1; cases e1))
        go_wp2_with fail
        have HS8 := Sta.drew HS5
        refine wp_region_held_drew (S := fun w' => w'.cell? ⟨wl1.heap.size, 0, none⟩ = some (.string x0) ∧ w'.cell? ⟨wl1.heap.size, 1, none⟩ = some (.string x1)) (by kernel_rfl) ⟨Sta.c (i := 0) HS8 rfl rfl, Sta.c (i := 0) HS8 rfl rfl⟩ (fun hHeld => ?_)
        generalize w5.drew = w8 at *
        refine wpAnyH_take (i := 0) (oi := ⟨_, _, _, _, _, _⟩) (v := .pointer (some ⟨wl1.heap.size, 0, none⟩)) rfl (by kernel_rfl) (by kernel_rfl) (by kernel_rfl) (fun _ _ _ h => h) (Or.inl ⟨wanted_free rfl, fun w' hSw => ?_⟩) hHeld ?_
        · go_simp
        try simp only [Act.put, List.setIfInBounds_toArray, List.set_cons_zero, List.set_cons_succ]
        refine wpAnyH_take (i := 1) (oi := ⟨_, _, _, _, _, _⟩) (v := .string x0) rfl (by kernel_rfl) (by kernel_rfl) (by kernel_rfl) (fun _ _ _ h => h) (Or.inl ⟨wanted_free rfl, fun w' hSw => ?_⟩) hHeld ?_
        · obtain ⟨s0, s1⟩ := hSw
          go_simp
        try simp only [Act.put, List.setIfInBounds_toArray, List.set_cons_zero, List.set_cons_succ]
        refine wpAnyH_ready (rs := [2]) (by kernel_rfl) (by simp) (AllReadyH.cons (o := ⟨_, _, _, _, _, _⟩) rfl (fun K hK => ?_) AllReadyH.nil)
        rewrite [if_pos (wanted_free rfl)]
        go_simp
        (with_reducible refine (hC2 w8 x0 W0.out hd0).mono ?_)
        rintro r w' ⟨rfl, rfl⟩
        go_wp2_with fail
        refine hK.out _ _ ⟨Sta.c (i := 0) HS8 rfl rfl, Sta.c (i := 0) HS8 rfl rfl⟩ (fun hHeld => ?_)
        clear hK K
        try simp only [Act.put, List.setIfInBounds_toArray, List.set_cons_zero, List.set_cons_succ]
        refine wpAnyH_take (i := 3) (oi := ⟨_, _, _, _, _, _⟩) (v := .bool false) rfl (by kernel_rfl) (by kernel_rfl) (by kernel_rfl) (fun _ _ _ h => h) (Or.inl ⟨wanted_free rfl, fun w' hSw => ?_⟩) hHeld ?_
        · go_simp
        try simp only [Act.put, List.setIfInBounds_toArray, List.set_cons_zero, List.set_cons_succ]
        refine wpAnyH_take (i := 4) (oi := ⟨_, _, _, _, _, _⟩) (v := .bool false) rfl (by kernel_rfl) (by kernel_rfl) (by kernel_rfl) (fun _ _ _ h => h) (Or.inl ⟨wanted_free rfl, fun w' hSw => ?_⟩) hHeld ?_
        · go_simp
        try simp only [Act.put, List.setIfInBounds_toArray, List.set_cons_zero, List.set_cons_succ]
        refine wpAnyH_take (i := 5) (oi := ⟨_, _, _, _, _, _⟩) (v := .pointer (some ⟨wl1.heap.size, 1, none⟩)) rfl (by kernel_rfl) (by kernel_rfl) (by kernel_rfl) (fun _ _ _ h => h) (Or.inl ⟨by with_unfolding_all rfl, fun w' hSw => ?_⟩) hHeld ?_
        · go_simp
        try simp only [Act.put, List.setIfInBounds_toArray, List.set_cons_zero, List.set_cons_succ]
        refine wpAnyH_take (i := 6) (oi := ⟨_, _, _, _, _, _⟩) (v := .string x1) rfl (by kernel_rfl) (by kernel_rfl) (by kernel_rfl) (fun _ _ _ h => h) (Or.inl ⟨by with_unfolding_all rfl, fun w' hSw => ?_⟩) hHeld ?_
        · obtain ⟨s0, s1⟩ := hSw
          go_simp
        try simp only [Act.put, List.setIfInBounds_toArray, List.set_cons_zero, List.set_cons_succ]
        refine wpAnyH_ready (rs := [7]) (by kernel_rfl) (by simp) (AllReadyH.cons (o := ⟨_, _, _, _, _, _⟩) rfl (fun K hK => ?_) AllReadyH.nil)
        rewrite [if_pos (by with_unfolding_all rfl)]
        go_simp
        (with_reducible refine (hC3 w8 x1 W1.out hd1).mono ?_)
        rintro r w' ⟨rfl, rfl⟩
        go_wp2_with fail
        refine hK.out _ _ ⟨Sta.c (i := 0) HS8 rfl rfl, Sta.c (i := 0) HS8 rfl rfl⟩ (fun hHeld => ?_)
        clear hK K
        try simp only [Act.put, List.setIfInBounds_toArray, List.set_cons_zero, List.set_cons_succ]
        refine wpAnyH_take (i := 8) (oi := ⟨_, _, _, _, _, _⟩) (v := .bool true) rfl (by kernel_rfl) (by kernel_rfl) (by kernel_rfl) (fun _ _ _ h => h) (Or.inl ⟨by with_unfolding_all rfl, fun w' hSw => ?_⟩) hHeld ?_
        · go_simp
        try simp only [Act.put, List.setIfInBounds_toArray, List.set_cons_zero, List.set_cons_succ]
        refine wpAnyH_take (i := 9) (oi := ⟨_, _, _, _, _, _⟩) (v := .bool true) rfl (by kernel_rfl) (by kernel_rfl) (by kernel_rfl) (fun _ _ _ h => h) (Or.inl ⟨wanted_free rfl, fun w' hSw => ?_⟩) hHeld ?_
        · go_simp
        try simp only [Act.put, List.setIfInBounds_toArray, List.set_cons_zero, List.set_cons_succ]
        refine wpAnyH_take (i := 10) (oi := ⟨_, _, _, _, _, _⟩) (v := .bool true) rfl (by kernel_rfl) (by kernel_rfl) (by kernel_rfl) (fun _ _ _ h => h) (Or.inl ⟨wanted_free rfl, fun w' hSw => ?_⟩) hHeld ?_
        · go_simp
        try simp only [Act.put, List.setIfInBounds_toArray, List.set_cons_zero, List.set_cons_succ]
        refine wpAnyH_take (i := 11) (oi := ⟨_, _, _, _, _, _⟩) (v := undef) rfl (by kernel_rfl) (by kernel_rfl) (by kernel_rfl) (fun _ _ _ h => h) (Or.inr ⟨by with_unfolding_all rfl, rfl⟩) hHeld ?_
        try simp only [Act.put, List.setIfInBounds_toArray, List.set_cons_zero, List.set_cons_succ]
        refine wpAnyH_take (i := 12) (oi := ⟨_, _, _, _, _, _⟩) (v := undef) rfl (by kernel_rfl) (by kernel_rfl) (by kernel_rfl) (fun _ _ _ h => h) (Or.inr ⟨by with_unfolding_all rfl, rfl⟩) hHeld ?_
        try simp only [Act.put, List.setIfInBounds_toArray, List.set_cons_zero, List.set_cons_succ]
        refine wpAnyH_take (i := 13) (oi := ⟨_, _, _, _, _, _⟩) (v := undef) rfl (by kernel_rfl) (by kernel_rfl) (by kernel_rfl) (fun _ _ _ h => h) (Or.inr ⟨by with_unfolding_all rfl, rfl⟩) hHeld ?_
        try simp only [Act.put, List.setIfInBounds_toArray, List.set_cons_zero, List.set_cons_succ]
        refine wpAnyH_take (i := 14) (oi := ⟨_, _, _, _, _, _⟩) (v := undef) rfl (by kernel_rfl) (by kernel_rfl) (by kernel_rfl) (fun _ _ _ h => h) (Or.inr ⟨by with_unfolding_all rfl, rfl⟩) hHeld ?_
        try simp only [Act.put, List.setIfInBounds_toArray, List.set_cons_zero, List.set_cons_succ]
        refine wpAnyH_take (i := 15) (oi := ⟨_, _, _, _, _, _⟩) (v := undef) rfl (by kernel_rfl) (by kernel_rfl) (by kernel_rfl) (fun _ _ _ h => h) (Or.inr ⟨by with_unfolding_all rfl, rfl⟩) hHeld ?_
        try simp only [Act.put, List.setIfInBounds_toArray, List.set_cons_zero, List.set_cons_succ]
        refine wpAnyH_take (i := 16) (oi := ⟨_, _, _, _, _, _⟩) (v := undef) rfl (by kernel_rfl) (by kernel_rfl) (by kernel_rfl) (fun _ _ _ h => h) (Or.inr ⟨by with_unfolding_all rfl, rfl⟩) hHeld ?_
        try simp only [Act.put, List.setIfInBounds_toArray, List.set_cons_zero, List.set_cons_succ]
        refine wpAnyH_take (i := 17) (oi := ⟨_, _, _, _, _, _⟩) (v := undef) rfl (by kernel_rfl) (by kernel_rfl) (by kernel_rfl) (fun _ _ _ h => h) (Or.inr ⟨by with_unfolding_all rfl, rfl⟩) hHeld ?_
        try simp only [Act.put, List.setIfInBounds_toArray, List.set_cons_zero, List.set_cons_succ]
        refine wpAnyH_take (i := 18) (oi := ⟨_, _, _, _, _, _⟩) (v := undef) rfl (by kernel_rfl) (by kernel_rfl) (by kernel_rfl) (fun _ _ _ h => h) (Or.inr ⟨by with_unfolding_all rfl, rfl⟩) hHeld ?_
        try simp only [Act.put, List.setIfInBounds_toArray, List.set_cons_zero, List.set_cons_succ]
        refine wpAnyH_take (i := 19) (oi := ⟨_, _, _, _, _, _⟩) (v := undef) rfl (by kernel_rfl) (by kernel_rfl) (by kernel_rfl) (fun _ _ _ h => h) (Or.inr ⟨by with_unfolding_all rfl, rfl⟩) hHeld ?_
        try simp only [Act.put, List.setIfInBounds_toArray, List.set_cons_zero, List.set_cons_succ]
        refine wpAnyH_take (i := 20) (oi := ⟨_, _, _, _, _, _⟩) (v := undef) rfl (by kernel_rfl) (by kernel_rfl) (by kernel_rfl) (fun _ _ _ h => h) (Or.inr ⟨by with_unfolding_all rfl, rfl⟩) hHeld ?_
        try simp only [Act.put, List.setIfInBounds_toArray, List.set_cons_zero, List.set_cons_succ]
        refine wpAnyH_take (i := 21) (oi := ⟨_, _, _, _, _, _⟩) (v := undef) rfl (by kernel_rfl) (by kernel_rfl) (by kernel_rfl) (fun _ _ _ h => h) (Or.inr ⟨by with_unfolding_all rfl, rfl⟩) hHeld ?_
        try simp only [Act.put, List.setIfInBounds_toArray, List.set_cons_zero, List.set_cons_succ]
        refine wpAnyH_take (i := 22) (oi := ⟨_, _, _, _, _, _⟩) (v := undef) rfl (by kernel_rfl) (by kernel_rfl) (by kernel_rfl) (fun _ _ _ h => h) (Or.inr ⟨by with_unfolding_all rfl, rfl⟩) hHeld ?_
        try simp only [Act.put, List.setIfInBounds_toArray, List.set_cons_zero, List.set_cons_succ]
        refine wpAnyH_take (i := 23) (oi := ⟨_, _, _, _, _, _⟩) (v := undef) rfl (by kernel_rfl) (by kernel_rfl) (by kernel_rfl) (fun _ _ _ h => h) (Or.inr ⟨by with_unfolding_all rfl, rfl⟩) hHeld ?_
        try simp only [Act.put, List.setIfInBounds_toArray, List.set_cons_zero, List.set_cons_succ]
        refine wpAnyH_take (i := 24) (oi := ⟨_, _, _, _, _, _⟩) (v := .bool true) rfl (by kernel_rfl) (by kernel_rfl) (by kernel_rfl) (fun _ _ _ h => h) (Or.inl ⟨wanted_free rfl, fun w' hSw => ?_⟩) hHeld ?_
        · go_simp
        try simp only [Act.put, List.setIfInBounds_toArray, List.set_cons_zero, List.set_cons_succ]
        refine wpAnyH_done (by kernel_rfl) ?_ _
        clear hHeld
        go_wp2_with fail
        go_ret
        exact ⟨congrArg (fun b => Ending.returned (Value.bool b)) (boolP_no HF.out).symm, Sta.fin HS8⟩
      · as_aux_lemma =>
        have d5b : decide ((0 : Int) < (k : Int)) = false := decide_eq_false (by omega)
        have hkn : ¬ (0 < k) := by omega
        have HT2 := hidP (LabsOk.step HT.out hkl hx0 hx1 hd0 hd1 (fun k1 _ e => by omega))
        clear hk0
        go_wp2_with fail
        have HS11 := Sta.drew HS5
        refine wp_region_held_drew (S := fun w' => w'.cell? ⟨wl1.heap.size, 0, none⟩ = some (.string x0) ∧ w'.cell? ⟨wl1.heap.size, 1, none⟩ = some (.string x1)) (by kernel_rfl) ⟨Sta.c (i := 0) HS11 rfl rfl, Sta.c (i := 0) HS11 rfl rfl⟩ (fun hHeld => ?_)
        generalize w5.drew = w11 at *
        refine wpAnyH_take (i := 0) (oi := ⟨_, _, _, _, _, _⟩) (v := .pointer (some ⟨wl1.heap.size, 0, none⟩)) rfl (by kernel_rfl) (by kernel_rfl) (by kernel_rfl) (fun _ _ _ h => h) (Or.inl ⟨wanted_free rfl, fun w' hSw => ?_⟩) hHeld ?_
        · go_simp
        try simp only [Act.put, List.setIfInBounds_toArray, List.set_cons_zero, List.set_cons_succ]
        refine wpAnyH_take (i := 1) (oi := ⟨_, _, _, _, _, _⟩) (v := .string x0) rfl (by kernel_rfl) (by kernel_rfl) (by kernel_rfl) (fun _ _ _ h => h) (Or.inl ⟨wanted_free rfl, fun w' hSw => ?_⟩) hHeld ?_
        · obtain ⟨s0, s1⟩ := hSw
          go_simp
        try simp only [Act.put, List.setIfInBounds_toArray, List.set_cons_zero, List.set_cons_succ]
        refine wpAnyH_ready (rs := [2]) (by kernel_rfl) (by simp) (AllReadyH.cons (o := ⟨_, _, _, _, _, _⟩) rfl (fun K hK => ?_) AllReadyH.nil)
        rewrite [if_pos (wanted_free rfl)]
        go_simp
        (with_reducible refine (hC2 w11 x0 W0.out hd0).mono ?_)
        rintro r w' ⟨rfl, rfl⟩
        go_wp2_with fail
        refine hK.out _ _ ⟨Sta.c (i := 0) HS11 rfl rfl, Sta.c (i := 0) HS11 rfl rfl⟩ (fun hHeld => ?_)
        clear hK K
        try simp only [Act.put, List.setIfInBounds_toArray, List.set_cons_zero, List.set_cons_succ]
        refine wpAnyH_take (i := 3) (oi := ⟨_, _, _, _, _, _⟩) (v := .bool false) rfl (by kernel_rfl) (by kernel_rfl) (by kernel_rfl) (fun _ _ _ h => h) (Or.inl ⟨wanted_free rfl, fun w' hSw => ?_⟩) hHeld ?_
        · go_simp
        try simp only [Act.put, List.setIfInBounds_toArray, List.set_cons_zero, List.set_cons_succ]
        refine wpAnyH_take (i := 4) (oi := ⟨_, _, _, _, _, _⟩) (v := .bool false) rfl (by kernel_rfl) (by kernel_rfl) (by kernel_rfl) (fun _ _ _ h => h) (Or.inl ⟨wanted_free rfl, fun w' hSw => ?_⟩) hHeld ?_
        · go_simp
        try simp only [Act.put, List.setIfInBounds_toArray, List.set_cons_zero, List.set_cons_succ]
        refine wpAnyH_take (i := 5) (oi := ⟨_, _, _, _, _, _⟩) (v := .pointer (some ⟨wl1.heap.size, 1, none⟩)) rfl (by kernel_rfl) (by kernel_rfl) (by kernel_rfl) (fun _ _ _ h => h) (Or.inl ⟨by with_unfolding_all rfl, fun w' hSw => ?_⟩) hHeld ?_
        · go_simp
        try simp only [Act.put, List.setIfInBounds_toArray, List.set_cons_zero, List.set_cons_succ]
        refine wpAnyH_take (i := 6) (oi := ⟨_, _, _, _, _, _⟩) (v := .string x1) rfl (by kernel_rfl) (by kernel_rfl) (by kernel_rfl) (fun _ _ _ h => h) (Or.inl ⟨by with_unfolding_all rfl, fun w' hSw => ?_⟩) hHeld ?_
        · obtain ⟨s0, s1⟩ := hSw
          go_simp
        try simp only [Act.put, List.setIfInBounds_toArray, List.set_cons_zero, List.set_cons_succ]
        refine wpAnyH_ready (rs := [7]) (by kernel_rfl) (by simp) (AllReadyH.cons (o := ⟨_, _, _, _, _, _⟩) rfl (fun K hK => ?_) AllReadyH.nil)
        rewrite [if_pos (by with_unfolding_all rfl)]
        go_simp
        (with_reducible refine (hC4 w11 x1 W1.out hd1).mono ?_)
        rintro r w' ⟨rfl, rfl⟩
        go_wp2_with fail
        refine hK.out _ _ ⟨Sta.c (i := 0) HS11 rfl rfl, Sta.c (i := 0) HS11 rfl rfl⟩ (fun hHeld => ?_)
        clear hK K
        try simp only [Act.put, List.setIfInBounds_toArray, List.set_cons_zero, List.set_cons_succ]
        refine wpAnyH_take (i := 8) (oi := ⟨_, _, _, _, _, _⟩) (v := .bool false) rfl (by kernel_rfl) (by kernel_rfl) (by kernel_rfl) (fun _ _ _ h => h) (Or.inl ⟨by with_unfolding_all rfl, fun w' hSw => ?_⟩) hHeld ?_
        · go_simp
        try simp only [Act.put, List.setIfInBounds_toArray, List.set_cons_zero, List.set_cons_succ]
        refine wpAnyH_take (i := 9) (oi := ⟨_, _, _, _, _, _⟩) (v := .bool false) rfl (by kernel_rfl) (by kernel_rfl) (by kernel_rfl) (fun _ _ _ h => h) (Or.inl ⟨wanted_free rfl, fun w' hSw => ?_⟩) hHeld ?_
        · go_simp
        try simp only [Act.put, List.setIfInBounds_toArray, List.set_cons_zero, List.set_cons_succ]
        refine wpAnyH_take (i := 10) (oi := ⟨_, _, _, _, _, _⟩) (v := .bool false) rfl (by kernel_rfl) (by kernel_rfl) (by kernel_rfl) (fun _ _ _ h => h) (Or.inl ⟨wanted_free rfl, fun w' hSw => ?_⟩) hHeld ?_
        · go_simp
        try simp only [Act.put, List.setIfInBounds_toArray, List.set_cons_zero, List.set_cons_succ]
        refine wpAnyH_take (i := 11) (oi := ⟨_, _, _, _, _, _⟩) (v := .int .i64 (k : Int)) rfl (by kernel_rfl) (by kernel_rfl) (by kernel_rfl) (fun _ _ _ h => h) (Or.inl ⟨by with_unfolding_all rfl, fun w' hSw => ?_⟩) hHeld ?_
        · go_simp
        try simp only [Act.put, List.setIfInBounds_toArray, List.set_cons_zero, List.set_cons_succ]
        refine wpAnyH_take (i := 12) (oi := ⟨_, _, _, _, _, _⟩) (v := .bool false) rfl (by kernel_rfl) (by kernel_rfl) (by kernel_rfl) (fun _ _ _ h => h) (Or.inl ⟨by with_unfolding_all rfl, fun w' hSw => ?_⟩) hHeld ?_
        · go_simp
        try simp only [Act.put, List.setIfInBounds_toArray, List.set_cons_zero, List.set_cons_succ]
        refine wpAnyH_take (i := 13) (oi := ⟨_, _, _, _, _, _⟩) (v := .bool false) rfl (by kernel_rfl) (by kernel_rfl) (by kernel_rfl) (fun _ _ _ h => h) (Or.inl ⟨by with_unfolding_all rfl, fun w' hSw => ?_⟩) hHeld ?_
        · go_simp
        try simp only [Act.put, List.setIfInBounds_toArray, List.set_cons_zero, List.set_cons_succ]
        refine wpAnyH_take (i := 14) (oi := ⟨_, _, _, _, _, _⟩) (v := undef) rfl (by kernel_rfl) (by kernel_rfl) (by kernel_rfl) (fun _ _ _ h => h) (Or.inr ⟨by with_unfolding_all rfl, rfl⟩) hHeld ?_
        try simp only [Act.put, List.setIfInBounds_toArray, List.set_cons_zero, List.set_cons_succ]
        refine wpAnyH_take (i := 15) (oi := ⟨_, _, _, _, _, _⟩) (v := undef) rfl (by kernel_rfl) (by kernel_rfl) (by kernel_rfl) (fun _ _ _ h => h) (Or.inr ⟨by with_unfolding_all rfl, rfl⟩) hHeld ?_
        try simp only [Act.put, List.setIfInBounds_toArray, List.set_cons_zero, List.set_cons_succ]
        refine wpAnyH_take (i := 16) (oi := ⟨_, _, _, _, _, _⟩) (v := undef) rfl (by kernel_rfl) (by kernel_rfl) (by kernel_rfl) (fun _ _ _ h => h) (Or.inr ⟨by with_unfolding_all rfl, rfl⟩) hHeld ?_
        try simp only [Act.put, List.setIfInBounds_toArray, List.set_cons_zero, List.set_cons_succ]
        refine wpAnyH_take (i := 17) (oi := ⟨_, _, _, _, _, _⟩) (v := undef) rfl (by kernel_rfl) (by kernel_rfl) (by kernel_rfl) (fun _ _ _ h => h) (Or.inr ⟨by with_unfolding_all rfl, rfl⟩) hHeld ?_
        try simp only [Act.put, List.setIfInBounds_toArray, List.set_cons_zero, List.set_cons_succ]
        refine wpAnyH_take (i := 18) (oi := ⟨_, _, _, _, _, _⟩) (v := undef) rfl (by kernel_rfl) (by kernel_rfl) (by kernel_rfl) (fun _ _ _ h => h) (Or.inr ⟨by with_unfolding_all rfl, rfl⟩) hHeld ?_
        try simp only [Act.put, List.setIfInBounds_toArray, List.set_cons_zero, List.set_cons_succ]
        refine wpAnyH_take (i := 19) (oi := ⟨_, _, _, _, _, _⟩) (v := undef) rfl (by kernel_rfl) (by kernel_rfl) (by kernel_rfl) (fun _ _ _ h => h) (Or.inr ⟨by with_unfolding_all rfl, rfl⟩) hHeld ?_
        try simp only [Act.put, List.setIfInBounds_toArray, List.set_cons_zero, List.set_cons_succ]
        refine wpAnyH_take (i := 20) (oi := ⟨_, _, _, _, _, _⟩) (v := undef) rfl (by kernel_rfl) (by kernel_rfl) (by kernel_rfl) (fun _ _ _ h => h) (Or.inr ⟨by with_unfolding_all rfl, rfl⟩) hHeld ?_
        try simp only [Act.put, List.setIfInBounds_toArray, List.set_cons_zero, List.set_cons_succ]
        refine wpAnyH_take (i := 21) (oi := ⟨_, _, _, _, _, _⟩) (v := undef) rfl (by kernel_rfl) (by kernel_rfl) (by kernel_rfl) (fun _ _ _ h => h) (Or.inr ⟨by with_unfolding_all rfl, rfl⟩) hHeld ?_
        try simp only [Act.put, List.setIfInBounds_toArray, List.set_cons_zero, List.set_cons_succ]
        refine wpAnyH_take (i := 22) (oi := ⟨_, _, _, _, _, _⟩) (v := undef) rfl (by kernel_rfl) (by kernel_rfl) (by kernel_rfl) (fun _ _ _ h => h) (Or.inr ⟨by with_unfolding_all rfl, rfl⟩) hHeld ?_
        try simp only [Act.put, List.setIfInBounds_toArray, List.set_cons_zero, List.set_cons_succ]
        refine wpAnyH_take (i := 23) (oi := ⟨_, _, _, _, _, _⟩) (v := .bool false) rfl (by kernel_rfl) (by kernel_rfl) (by kernel_rfl) (fun _ _ _ h => h) (Or.inl ⟨by with_unfolding_all rfl, fun w' hSw => ?_⟩) hHeld ?_
        · go_simp
        try simp only [Act.put, List.setIfInBounds_toArray, List.set_cons_zero, List.set_cons_succ]
        refine wpAnyH_take (i := 24) (oi := ⟨_, _, _, _, _, _⟩) (v := .bool false) rfl (by kernel_rfl) (by kernel_rfl) (by kernel_rfl) (fun _ _ _ h => h) (Or.inl ⟨wanted_free rfl, fun w' hSw => ?_⟩) hHeld ?_
        · go_simp
        try simp only [Act.put, List.setIfInBounds_toArray, List.set_cons_zero, List.set_cons_succ]
        refine wpAnyH_done (by kernel_rfl) ?_ _
        clear hHeld
        go_wp2_with fail
        have HS14 := Sta.imp 0 (fun w' => LabAt w' (some ⟨b, o, none⟩) l) HS11 rfl (fun w' h => h.1)
        go_roundw
        case rel => exact ⟨k + 1, by go_num, hlt1, HT2, Sta.drop 1 0 HS14⟩
        case measure => simp [intOf]; omega
      · have d5b : decide ((0 : Int) < (k : Int)) = true := decide_eq_true (by omega)
        obtain ⟨k1, hk1⟩ : ∃ k1, k - 1 = k1 := ⟨_, rfl⟩
        have ek : (k : Int) - 1 = (k1 : Int) := by omega
        have ewk : IntKind.i64.wrap (k1 : Int) = (k1 : Int) := by simp [IntKind.wrap, IntKind.signed, IntKind.bits]; omega
        have hk1l : k1 < l.length := by omega
        have lk1 : (k1 : Int) < n := by omega
        have l01 : (0 : Int) ≤ k1 := by omega
        have HKE : Hid (k = k1 + 1) := by show _ = _; omega
        clear hk1
        obtain ⟨z0, hz0⟩ : ∃ y, l[k1].ky = y := ⟨_, rfl⟩
        obtain ⟨z1, hz1⟩ : ∃ y, l[k1].vl = y := ⟨_, rfl⟩
        have HS16 := Sta.imp 0 (fun w' => (LabAt w' (some ⟨b, o, none⟩) l) ∧ w'.cell? ⟨b, o + k * 2, none⟩ = some (.string x0) ∧ w'.cell? ⟨b, o + k * 2 + 1, none⟩ = some (.string x1) ∧ w'.cell? ⟨b, o + k1 * 2, none⟩ = some (.string z0) ∧ w'.cell? ⟨b, o + k1 * 2 + 1, none⟩ = some (.string z1)) HS5 rfl (fun w' h => ⟨h.1, h.2.1, h.2.2, by rw [← hz0]; exact (LabAt.here h.1 k1 hk1l).1, by rw [← hz1]; exact (LabAt.here h.1 k1 hk1l).2⟩)
        cases hlt2 : nmLt z0 x0
        · as_aux_lemma =>
          have d7 : Op.bytesLess z0.toList x0.toList = false := hlt2
          have HF := hidP (LabsOk.not_lt hkl hx0 hk1l hz0 HKE.out hlt2)
          go_wp2_with fail
          have HS17 := Sta.drew HS16
          refine wp_region_held_drew (S := fun w' => w'.cell? ⟨wl1.heap.size, 0, none⟩ = some (.string x0) ∧ w'.cell? ⟨wl1.heap.size, 1, none⟩ = some (.string x1) ∧ w'.cell? ⟨b, o + k1 * 2, none⟩ = some (.string z0)) (by kernel_rfl) ⟨Sta.c (i := 0) HS17 rfl rfl, Sta.c (i := 0) HS17 rfl rfl, (Sta.t (i := 0) HS17 rfl :).2.2.2.1⟩ (fun hHeld => ?_)
          generalize w5.drew = w17 at *
          refine wpAnyH_take (i := 0) (oi := ⟨_, _, _, _, _, _⟩) (v := .pointer (some ⟨wl1.heap.size, 0, none⟩)) rfl (by kernel_rfl) (by kernel_rfl) (by kernel_rfl) (fun _ _ _ h => h) (Or.inl ⟨wanted_free rfl, fun w' hSw => ?_⟩) hHeld ?_
          · go_simp
          try simp only [Act.put, List.setIfInBounds_toArray, List.set_cons_zero, List.set_cons_succ]
          refine wpAnyH_take (i := 1) (oi := ⟨_, _, _, _, _, _⟩) (v := .string x0) rfl (by kernel_rfl) (by kernel_rfl) (by kernel_rfl) (fun _ _ _ h => h) (Or.inl ⟨wanted_free rfl, fun w' hSw => ?_⟩) hHeld ?_
          · obtain ⟨s0, s1, s2⟩ := hSw
            go_simp
          try simp only [Act.put, List.setIfInBounds_toArray, List.set_cons_zero, List.set_cons_succ]
          refine wpAnyH_ready (rs := [2]) (by kernel_rfl) (by simp) (AllReadyH.cons (o := ⟨_, _, _, _, _, _⟩) rfl (fun K hK => ?_) AllReadyH.nil)
          rewrite [if_pos (wanted_free rfl)]
          go_simp
          (with_reducible refine (hC2 w17 x0 W0.out hd0).mono ?_)
          rintro r w' ⟨rfl, rfl⟩
          go_wp2_with fail
          refine hK.out _ _ ⟨Sta.c (i := 0) HS17 rfl rfl, Sta.c (i := 0) HS17 rfl rfl, (Sta.t (i := 0) HS17 rfl :).2.2.2.1⟩ (fun hHeld => ?_)
          clear hK K
          try simp only [Act.put, List.setIfInBounds_toArray, List.set_cons_zero, List.set_cons_succ]
          refine wpAnyH_take (i := 3) (oi := ⟨_, _, _, _, _, _⟩) (v := .bool false) rfl (by kernel_rfl) (by kernel_rfl) (by kernel_rfl) (fun _ _ _ h => h) (Or.inl ⟨wanted_free rfl, fun w' hSw => ?_⟩) hHeld ?_
          · go_simp
          try simp only [Act.put, List.setIfInBounds_toArray, List.set_cons_zero, List.set_cons_succ]
          refine wpAnyH_take (i := 4) (oi := ⟨_, _, _, _, _, _⟩) (v := .bool false) rfl (by kernel_rfl) (by kernel_rfl) (by kernel_rfl) (fun _ _ _ h => h) (Or.inl ⟨wanted_free rfl, fun w' hSw => ?_⟩) hHeld ?_
          · go_simp
          try simp only [Act.put, List.setIfInBounds_toArray, List.set_cons_zero, List.set_cons_succ]
          refine wpAnyH_take (i := 5) (oi := ⟨_, _, _, _, _, _⟩) (v := .pointer (some ⟨wl1.heap.size, 1, none⟩)) rfl (by kernel_rfl) (by kernel_rfl) (by kernel_rfl) (fun _ _ _ h => h) (Or.inl ⟨by with_unfolding_all rfl, fun w' hSw => ?_⟩) hHeld ?_
          · go_simp
          try simp only [Act.put, List.setIfInBounds_toArray, List.set_cons_zero, List.set_cons_succ]
          refine wpAnyH_take (i := 6) (oi := ⟨_, _, _, _, _, _⟩) (v := .string x1) rfl (by kernel_rfl) (by kernel_rfl) (by kernel_rfl) (fun _ _ _ h => h) (Or.inl ⟨by with_unfolding_all rfl, fun w' hSw => ?_⟩) hHeld ?_
          · obtain ⟨s0, s1, s2⟩ := hSw
            go_simp
          try simp only [Act.put, List.setIfInBounds_toArray, List.set_cons_zero, List.set_cons_succ]
          refine wpAnyH_ready (rs := [7]) (by kernel_rfl) (by simp) (AllReadyH.cons (o := ⟨_, _, _, _, _, _⟩) rfl (fun K hK => ?_) AllReadyH.nil)
          rewrite [if_pos (by with_unfolding_all rfl)]
          go_simp
          (with_reducible refine (hC4 w17 x1 W1.out hd1).mono ?_)
          rintro r w' ⟨rfl, rfl⟩
          go_wp2_with fail
          refine hK.out _ _ ⟨Sta.c (i := 0) HS17 rfl rfl, Sta.c (i := 0) HS17 rfl rfl, (Sta.t (i := 0) HS17 rfl :).2.2.2.1⟩ (fun hHeld => ?_)
          clear hK K
          try simp only [Act.put, List.setIfInBounds_toArray, List.set_cons_zero, List.set_cons_succ]
          refine wpAnyH_take (i := 8) (oi := ⟨_, _, _, _, _, _⟩) (v := .bool false) rfl (by kernel_rfl) (by kernel_rfl) (by kernel_rfl) (fun _ _ _ h => h) (Or.inl ⟨by with_unfolding_all rfl, fun w' hSw => ?_⟩) hHeld ?_
          · go_simp
          try simp only [Act.put, List.setIfInBounds_toArray, List.set_cons_zero, List.set_cons_succ]
          refine wpAnyH_take (i := 9) (oi := ⟨_, _, _, _, _, _⟩) (v := .bool false) rfl (by kernel_rfl) (by kernel_rfl) (by kernel_rfl) (fun _ _ _ h => h) (Or.inl ⟨wanted_free rfl, fun w' hSw => ?_⟩) hHeld ?_
          · go_simp
          try simp only [Act.put, List.setIfInBounds_toArray, List.set_cons_zero, List.set_cons_succ]
          refine wpAnyH_take (i := 10) (oi := ⟨_, _, _, _, _, _⟩) (v := .bool false) rfl (by kernel_rfl) (by kernel_rfl) (by kernel_rfl) (fun _ _ _ h => h) (Or.inl ⟨wanted_free rfl, fun w' hSw => ?_⟩) hHeld ?_
          · go_simp
          try simp only [Act.put, List.setIfInBounds_toArray, List.set_cons_zero, List.set_cons_succ]
          refine wpAnyH_take (i := 11) (oi := ⟨_, _, _, _, _, _⟩) (v := .int .i64 (k : Int)) rfl (by kernel_rfl) (by kernel_rfl) (by kernel_rfl) (fun _ _ _ h => h) (Or.inl ⟨by with_unfolding_all rfl, fun w' hSw => ?_⟩) hHeld ?_
          · go_simp
          try simp only [Act.put, List.setIfInBounds_toArray, List.set_cons_zero, List.set_cons_succ]
          refine wpAnyH_take (i := 12) (oi := ⟨_, _, _, _, _, _⟩) (v := .bool true) rfl (by kernel_rfl) (by kernel_rfl) (by kernel_rfl) (fun _ _ _ h => h) (Or.inl ⟨by with_unfolding_all rfl, fun w' hSw => ?_⟩) hHeld ?_
          · go_simp
          try simp only [Act.put, List.setIfInBounds_toArray, List.set_cons_zero, List.set_cons_succ]
          refine wpAnyH_take (i := 13) (oi := ⟨_, _, _, _, _, _⟩) (v := .bool true) rfl (by kernel_rfl) (by kernel_rfl) (by kernel_rfl) (fun _ _ _ h => h) (Or.inl ⟨by with_unfolding_all rfl, fun w' hSw => ?_⟩) hHeld ?_
          · go_simp
          try simp only [Act.put, List.setIfInBounds_toArray, List.set_cons_zero, List.set_cons_succ]
          refine wpAnyH_take (i := 14) (oi := ⟨_, _, _, _, _, _⟩) (v := .slice (some ⟨b, o, none⟩) n c) rfl (by kernel_rfl) (by kernel_rfl) (by kernel_rfl) (fun _ _ _ h => h) (Or.inl ⟨by with_unfolding_all rfl, fun w' hSw => ?_⟩) hHeld ?_
          · go_simp
          try simp only [Act.put, List.setIfInBounds_toArray, List.set_cons_zero, List.set_cons_succ]
          refine wpAnyH_take (i := 15) (oi := ⟨_, _, _, _, _, _⟩) (v := .int .i64 (k : Int)) rfl (by kernel_rfl) (by kernel_rfl) (by kernel_rfl) (fun _ _ _ h => h) (Or.inl ⟨by with_unfolding_all rfl, fun w' hSw => ?_⟩) hHeld ?_
          · go_simp
          try simp only [Act.put, List.setIfInBounds_toArray, List.set_cons_zero, List.set_cons_succ]
          refine wpAnyH_take (i := 16) (oi := ⟨_, _, _, _, _, _⟩) (v := .int .i64 (k1 : Int)) rfl (by kernel_rfl) (by kernel_rfl) (by kernel_rfl) (fun _ _ _ h => h) (Or.inl ⟨by with_unfolding_all rfl, fun w' hSw => ?_⟩) hHeld ?_
          · go_simp
          try simp only [Act.put, List.setIfInBounds_toArray, List.set_cons_zero, List.set_cons_succ]
          refine wpAnyH_take (i := 17) (oi := ⟨_, _, _, _, _, _⟩) (v := .pointer (some ⟨b, o + k1 * 2, none⟩)) rfl (by kernel_rfl) (by kernel_rfl) (by kernel_rfl) (fun _ _ _ h => h) (Or.inl ⟨by with_unfolding_all rfl, fun w' hSw => ?_⟩) hHeld ?_
          · go_simp
          try simp only [Act.put, List.setIfInBounds_toArray, List.set_cons_zero, List.set_cons_succ]
          refine wpAnyH_take (i := 18) (oi := ⟨_, _, _, _, _, _⟩) (v := .pointer (some ⟨b, o + k1 * 2, none⟩)) rfl (by kernel_rfl) (by kernel_rfl) (by kernel_rfl) (fun _ _ _ h => h) (Or.inl ⟨by with_unfolding_all rfl, fun w' hSw => ?_⟩) hHeld ?_
          · go_simp
          try simp only [Act.put, List.setIfInBounds_toArray, List.set_cons_zero, List.set_cons_succ]
          refine wpAnyH_take (i := 19) (oi := ⟨_, _, _, _, _, _⟩) (v := .string z0) rfl (by kernel_rfl) (by kernel_rfl) (by kernel_rfl) (fun _ _ _ h => h) (Or.inl ⟨by with_unfolding_all rfl, fun w' hSw => ?_⟩) hHeld ?_
          · obtain ⟨s0, s1, s2⟩ := hSw
            go_simp
          try simp only [Act.put, List.setIfInBounds_toArray, List.set_cons_zero, List.set_cons_succ]
          refine wpAnyH_take (i := 20) (oi := ⟨_, _, _, _, _, _⟩) (v := .pointer (some ⟨wl1.heap.size, 0, none⟩)) rfl (by kernel_rfl) (by kernel_rfl) (by kernel_rfl) (fun _ _ _ h => h) (Or.inl ⟨by with_unfolding_all rfl, fun w' hSw => ?_⟩) hHeld ?_
          · go_simp
          try simp only [Act.put, List.setIfInBounds_toArray, List.set_cons_zero, List.set_cons_succ]
          refine wpAnyH_take (i := 21) (oi := ⟨_, _, _, _, _, _⟩) (v := .string x0) rfl (by kernel_rfl) (by kernel_rfl) (by kernel_rfl) (fun _ _ _ h => h) (Or.inl ⟨by with_unfolding_all rfl, fun w' hSw => ?_⟩) hHeld ?_
          · obtain ⟨s0, s1, s2⟩ := hSw
            go_simp
          try simp only [Act.put, List.setIfInBounds_toArray, List.set_cons_zero, List.set_cons_succ]
          refine wpAnyH_take (i := 22) (oi := ⟨_, _, _, _, _, _⟩) (v := .bool true) rfl (by kernel_rfl) (by kernel_rfl) (by kernel_rfl) (fun _ _ _ h => h) (Or.inl ⟨by with_unfolding_all rfl, fun w' hSw => ?_⟩) hHeld ?_
          · go_simp
          try simp only [Act.put, List.setIfInBounds_toArray, List.set_cons_zero, List.set_cons_succ]
          refine wpAnyH_take (i := 23) (oi := ⟨_, _, _, _, _, _⟩) (v := .bool true) rfl (by kernel_rfl) (by kernel_rfl) (by kernel_rfl) (fun _ _ _ h => h) (Or.inl ⟨by with_unfolding_all rfl, fun w' hSw => ?_⟩) hHeld ?_
          · go_simp
          try simp only [Act.put, List.setIfInBounds_toArray, List.set_cons_zero, List.set_cons_succ]
          refine wpAnyH_take (i := 24) (oi := ⟨_, _, _, _, _, _⟩) (v := .bool true) rfl (by kernel_rfl) (by kernel_rfl) (by kernel_rfl) (fun _ _ _ h => h) (Or.inl ⟨wanted_free rfl, fun w' hSw => ?_⟩) hHeld ?_
          · go_simp
          try simp only [Act.put, List.setIfInBounds_toArray, List.set_cons_zero, List.set_cons_succ]
          refine wpAnyH_done (by kernel_rfl) ?_ _
          clear hHeld
          go_wp2_with fail
          go_ret
          exact ⟨congrArg (fun b => Ending.returned (Value.bool b)) (boolP_no HF.out).symm, Sta.fin HS17⟩
        · as_aux_lemma =>
          have d7 : Op.bytesLess z0.toList x0.toList = true := hlt2
          have HT2 := hidP (LabsOk.step HT.out hkl hx0 hx1 hd0 hd1 (fun k2 h2 e => by have e2 : k2 = k1 := (by have := HKE.out; omega); subst e2; rw [hz0]; exact hlt2))
          go_wp2_with fail
          have HS20 := Sta.drew HS16
          refine wp_region_held_drew (S := fun w' => w'.cell? ⟨wl1.heap.size, 0, none⟩ = some (.string x0) ∧ w'.cell? ⟨wl1.heap.size, 1, none⟩ = some (.string x1) ∧ w'.cell? ⟨b, o + k1 * 2, none⟩ = some (.string z0)) (by kernel_rfl) ⟨Sta.c (i := 0) HS20 rfl rfl, Sta.c (i := 0) HS20 rfl rfl, (Sta.t (i := 0) HS20 rfl :).2.2.2.1⟩ (fun hHeld => ?_)
          generalize w5.drew = w20 at *
          refine wpAnyH_take (i := 0) (oi := ⟨_, _, _, _, _, _⟩) (v := .pointer (some ⟨wl1.heap.size, 0, none⟩)) rfl (by kernel_rfl) (by kernel_rfl) (by kernel_rfl) (fun _ _ _ h => h) (Or.inl ⟨wanted_free rfl, fun w' hSw => ?_⟩) hHeld ?_
          · go_simp
          try simp only [Act.put, List.setIfInBounds_toArray, List.set_cons_zero, List.set_cons_succ]
          refine wpAnyH_take (i := 1) (oi := ⟨_, _, _, _, _, _⟩) (v := .string x0) rfl (by kernel_rfl) (by kernel_rfl) (by kernel_rfl) (fun _ _ _ h => h) (Or.inl ⟨wanted_free rfl, fun w' hSw => ?_⟩) hHeld ?_
          · obtain ⟨s0, s1, s2⟩ := hSw
            go_simp
          try simp only [Act.put, List.setIfInBounds_toArray, List.set_cons_zero, List.set_cons_succ]
          refine wpAnyH_ready (rs := [2]) (by kernel_rfl) (by simp) (AllReadyH.cons (o := ⟨_, _, _, _, _, _⟩) rfl (fun K hK => ?_) AllReadyH.nil)
          rewrite [if_pos (wanted_free rfl)]
          go_simp
          (with_reducible refine (hC2 w20 x0 W0.out hd0).mono ?_)
          rintro r w' ⟨rfl, rfl⟩
          go_wp2_with fail
          refine hK.out _ _ ⟨Sta.c (i := 0) HS20 rfl rfl, Sta.c (i := 0) HS20 rfl rfl, (Sta.t (i := 0) HS20 rfl :).2.2.2.1⟩ (fun hHeld => ?_)
          clear hK K
          try simp only [Act.put, List.setIfInBounds_toArray, List.set_cons_zero, List.set_cons_succ]
          refine wpAnyH_take (i := 3) (oi := ⟨_, _, _, _, _, _⟩) (v := .bool false) rfl (by kernel_rfl) (by kernel_rfl) (by kernel_rfl) (fun _ _ _ h => h) (Or.inl ⟨wanted_free rfl, fun w' hSw => ?_⟩) hHeld ?_
          · go_simp
          try simp only [Act.put, List.setIfInBounds_toArray, List.set_cons_zero, List.set_cons_succ]
          refine wpAnyH_take (i := 4) (oi := ⟨_, _, _, _, _, _⟩) (v := .bool false) rfl (by kernel_rfl) (by kernel_rfl) (by kernel_rfl) (fun _ _ _ h => h) (Or.inl ⟨wanted_free rfl, fun w' hSw => ?_⟩) hHeld ?_
          · go_simp
          try simp only [Act.put, List.setIfInBounds_toArray, List.set_cons_zero, List.set_cons_succ]
          refine wpAnyH_take (i := 5) (oi := ⟨_, _, _, _, _, _⟩) (v := .pointer (some ⟨wl1.heap.size, 1, none⟩)) rfl (by kernel_rfl) (by kernel_rfl) (by kernel_rfl) (fun _ _ _ h => h) (Or.inl ⟨by with_unfolding_all rfl, fun w' hSw => ?_⟩) hHeld ?_
          · go_simp
          try simp only [Act.put, List.setIfInBounds_toArray, List.set_cons_zero, List.set_cons_succ]
          refine wpAnyH_take (i := 6) (oi := ⟨_, _, _, _, _, _⟩) (v := .string x1) rfl (by kernel_rfl) (by kernel_rfl) (by kernel_rfl) (fun _ _ _ h => h) (Or.inl ⟨by with_unfolding_all rfl, fun w' hSw => ?_⟩) hHeld ?_
          · obtain ⟨s0, s1, s2⟩ := hSw
            go_simp
          try simp only [Act.put, List.setIfInBounds_toArray, List.set_cons_zero, List.set_cons_succ]
          refine wpAnyH_ready (rs := [7]) (by kernel_rfl) (by simp) (AllReadyH.cons (o := ⟨_, _, _, _, _, _⟩) rfl (fun K hK => ?_) AllReadyH.nil)
          rewrite [if_pos (by with_unfolding_all rfl)]
          go_simp
          (with_reducible refine (hC4 w20 x1 W1.out hd1).mono ?_)
          rintro r w' ⟨rfl, rfl⟩
          go_wp2_with fail
          refine hK.out _ _ ⟨Sta.c (i := 0) HS20 rfl rfl, Sta.c (i := 0) HS20 rfl rfl, (Sta.t (i := 0) HS20 rfl :).2.2.2.1⟩ (fun hHeld => ?_)
          clear hK K
          try simp only [Act.put, List.setIfInBounds_toArray, List.set_cons_zero, List.set_cons_succ]
          refine wpAnyH_take (i := 8) (oi := ⟨_, _, _, _, _, _⟩) (v := .bool false) rfl (by kernel_rfl) (by kernel_rfl) (by kernel_rfl) (fun _ _ _ h => h) (Or.inl ⟨by with_unfolding_all rfl, fun w' hSw => ?_⟩) hHeld ?_
          · go_simp
          try simp only [Act.put, List.setIfInBounds_toArray, List.set_cons_zero, List.set_cons_succ]
          refine wpAnyH_take (i := 9) (oi := ⟨_, _, _, _, _, _⟩) (v := .bool false) rfl (by kernel_rfl) (by kernel_rfl) (by kernel_rfl) (fun _ _ _ h => h) (Or.inl ⟨wanted_free rfl, fun w' hSw => ?_⟩) hHeld ?_
          · go_simp
          try simp only [Act.put, List.setIfInBounds_toArray, List.set_cons_zero, List.set_cons_succ]
          refine wpAnyH_take (i := 10) (oi := ⟨_, _, _, _, _, _⟩) (v := .bool false) rfl (by kernel_rfl) (by kernel_rfl) (by kernel_rfl) (fun _ _ _ h => h) (Or.inl ⟨wanted_free rfl, fun w' hSw => ?_⟩) hHeld ?_
          · go_simp
          try simp only [Act.put, List.setIfInBounds_toArray, List.set_cons_zero, List.set_cons_succ]
          refine wpAnyH_take (i := 11) (oi := ⟨_, _, _, _, _, _⟩) (v := .int .i64 (k : Int)) rfl (by kernel_rfl) (by kernel_rfl) (by kernel_rfl) (fun _ _ _ h => h) (Or.inl ⟨by with_unfolding_all rfl, fun w' hSw => ?_⟩) hHeld ?_
          · go_simp
          try simp only [Act.put, List.setIfInBounds_toArray, List.set_cons_zero, List.set_cons_succ]
          refine wpAnyH_take (i := 12) (oi := ⟨_, _, _, _, _, _⟩) (v := .bool true) rfl (by kernel_rfl) (by kernel_rfl) (by kernel_rfl) (fun _ _ _ h => h) (Or.inl ⟨by with_unfolding_all rfl, fun w' hSw => ?_⟩) hHeld ?_
          · go_simp
          try simp only [Act.put, List.setIfInBounds_toArray, List.set_cons_zero, List.set_cons_succ]
          refine wpAnyH_take (i := 13) (oi := ⟨_, _, _, _, _, _⟩) (v := .bool true) rfl (by kernel_rfl) (by kernel_rfl) (by kernel_rfl) (fun _ _ _ h => h) (Or.inl ⟨by with_unfolding_all rfl, fun w' hSw => ?_⟩) hHeld ?_
          · go_simp
          try simp only [Act.put, List.setIfInBounds_toArray, List.set_cons_zero, List.set_cons_succ]
          refine wpAnyH_take (i := 14) (oi := ⟨_, _, _, _, _, _⟩) (v := .slice (some ⟨b, o, none⟩) n c) rfl (by kernel_rfl) (by kernel_rfl) (by kernel_rfl) (fun _ _ _ h => h) (Or.inl ⟨by with_unfolding_all rfl, fun w' hSw => ?_⟩) hHeld ?_
          · go_simp
          try simp only [Act.put, List.setIfInBounds_toArray, List.set_cons_zero, List.set_cons_succ]
          refine wpAnyH_take (i := 15) (oi := ⟨_, _, _, _, _, _⟩) (v := .int .i64 (k : Int)) rfl (by kernel_rfl) (by kernel_rfl) (by kernel_rfl) (fun _ _ _ h => h) (Or.inl ⟨by with_unfolding_all rfl, fun w' hSw => ?_⟩) hHeld ?_
          · go_simp
          try simp only [Act.put, List.setIfInBounds_toArray, List.set_cons_zero, List.set_cons_succ]
          refine wpAnyH_take (i := 16) (oi := ⟨_, _, _, _, _, _⟩) (v := .int .i64 (k1 : Int)) rfl (by kernel_rfl) (by kernel_rfl) (by kernel_rfl) (fun _ _ _ h => h) (Or.inl ⟨by with_unfolding_all rfl, fun w' hSw => ?_⟩) hHeld ?_
          · go_simp
          try simp only [Act.put, List.setIfInBounds_toArray, List.set_cons_zero, List.set_cons_succ]
          refine wpAnyH_take (i := 17) (oi := ⟨_, _, _, _, _, _⟩) (v := .pointer (some ⟨b, o + k1 * 2, none⟩)) rfl (by kernel_rfl) (by kernel_rfl) (by kernel_rfl) (fun _ _ _ h => h) (Or.inl ⟨by with_unfolding_all rfl, fun w' hSw => ?_⟩) hHeld ?_
          · go_simp
          try simp only [Act.put, List.setIfInBounds_toArray, List.set_cons_zero, List.set_cons_succ]
          refine wpAnyH_take (i := 18) (oi := ⟨_, _, _, _, _, _⟩) (v := .pointer (some ⟨b, o + k1 * 2, none⟩)) rfl (by kernel_rfl) (by kernel_rfl) (by kernel_rfl) (fun _ _ _ h => h) (Or.inl ⟨by with_unfolding_all rfl, fun w' hSw => ?_⟩) hHeld ?_
          · go_simp
          try simp only [Act.put, List.setIfInBounds_toArray, List.set_cons_zero, List.set_cons_succ]
          refine wpAnyH_take (i := 19) (oi := ⟨_, _, _, _, _, _⟩) (v := .string z0) rfl (by kernel_rfl) (by kernel_rfl) (by kernel_rfl) (fun _ _ _ h => h) (Or.inl ⟨by with_unfolding_all rfl, fun w' hSw => ?_⟩) hHeld ?_
          · obtain ⟨s0, s1, s2⟩ := hSw
            go_simp
          try simp only [Act.put, List.setIfInBounds_toArray, List.set_cons_zero, List.set_cons_succ]
          refine wpAnyH_take (i := 20) (oi := ⟨_, _, _, _, _, _⟩) (v := .pointer (some ⟨wl1.heap.size, 0, none⟩)) rfl (by kernel_rfl) (by kernel_rfl) (by kernel_rfl) (fun _ _ _ h => h) (Or.inl ⟨by with_unfolding_all rfl, fun w' hSw => ?_⟩) hHeld ?_
          · go_simp
          try simp only [Act.put, List.setIfInBounds_toArray, List.set_cons_zero, List.set_cons_succ]
          refine wpAnyH_take (i := 21) (oi := ⟨_, _, _, _, _, _⟩) (v := .string x0) rfl (by kernel_rfl) (by kernel_rfl) (by kernel_rfl) (fun _ _ _ h => h) (Or.inl ⟨by with_unfolding_all rfl, fun w' hSw => ?_⟩) hHeld ?_
          · obtain ⟨s0, s1, s2⟩ := hSw
            go_simp
          try simp only [Act.put, List.setIfInBounds_toArray, List.set_cons_zero, List.set_cons_succ]
          refine wpAnyH_take (i := 22) (oi := ⟨_, _, _, _, _, _⟩) (v := .bool false) rfl (by kernel_rfl) (by kernel_rfl) (by kernel_rfl) (fun _ _ _ h => h) (Or.inl ⟨by with_unfolding_all rfl, fun w' hSw => ?_⟩) hHeld ?_
          · go_simp
          try simp only [Act.put, List.setIfInBounds_toArray, List.set_cons_zero, List.set_cons_succ]
          refine wpAnyH_take (i := 23) (oi := ⟨_, _, _, _, _, _⟩) (v := .bool false) rfl (by kernel_rfl) (by kernel_rfl) (by kernel_rfl) (fun _ _ _ h => h) (Or.inl ⟨by with_unfolding_all rfl, fun w' hSw => ?_⟩) hHeld ?_
          · go_simp
          try simp only [Act.put, List.setIfInBounds_toArray, List.set_cons_zero, List.set_cons_succ]
          refine wpAnyH_take (i := 24) (oi := ⟨_, _, _, _, _, _⟩) (v := .bool false) rfl (by kernel_rfl) (by kernel_rfl) (by kernel_rfl) (fun _ _ _ h => h) (Or.inl ⟨wanted_free rfl, fun w' hSw => ?_⟩) hHeld ?_
          · go_simp
          try simp only [Act.put, List.setIfInBounds_toArray, List.set_cons_zero, List.set_cons_succ]
          refine wpAnyH_done (by kernel_rfl) ?_ _
          clear hHeld
          go_wp2_with fail
          have HS23 := Sta.imp 0 (fun w' => LabAt w' (some ⟨b, o, none⟩) l) HS20 rfl (fun w' h => h.1)
          go_roundw
          case rel => exact ⟨k + 1, by go_num, hlt1, HT2, Sta.drop 1 0 HS23⟩
          case measure => simp [intOf]; omega
set_option maxRecDepth 100000 in
set_option maxHeartbeats 4000000 in
theorem implManR (nm : ByteArray) (a1 : Option Addr) (c1 y1 : Nat) (ls : List LayV) (a2 : Option Addr) (c2 y2 : Nat) (bs : List LabV) (w : World) (h1 : ls.length = y1) (h2 : LayAt w a1 ls) (h3 : y1 ≤ maxLen) (h4 : ∀ x ∈ ls, x.w) (h5 : bs.length = y2) (h6 : LabAt w a2 bs) (h7 : y2 ≤ maxLen) (h8 : ∀ x ∈ bs, x.w) (h0 : nm.size ≤ maxLen) :
    Calls Tryd.prog 83 #[.agg #[.string nm, .slice a1 y1 c1, .slice a2 y2 c2]] w fun r w' => r = .returned (.bool (boolP (ManOk nm ls bs))) ∧ Below w.heap.size w w' := by
  unfold maxLen at h3 h7
  have HN1 := hidP h1
  have HW1 := hidP h4
  have HN2 := hidP h5
  have HW2 := hidP h8
  have H0 := hidP h0
  have HM1 : Hid (y1 ≤ maxLen) := h3
  have HM2 : Hid (y2 ≤ maxLen) := h7
  have hC1 : ∀ w0, (nameB nm = false) → Calls Tryd.prog 104 #[.string nm] w0 fun r w' => r = .returned (.bool false) ∧ w0 = w' := fun w0 n0 => by rw [← n0]; exact implNameB nm w0 h0
  have hC2 : ∀ w0, (nameB nm = true) → Calls Tryd.prog 104 #[.string nm] w0 fun r w' => r = .returned (.bool true) ∧ w0 = w' := fun w0 n0 => by rw [← n0]; exact implNameB nm w0 h0
  have hC3 : ∀ w0, (LayAt w0 a1 ls) → (boolP (LaysOk ls) = false) → Calls Tryd.prog 105 #[.slice a1 y1 c1] w0 fun r w' => r = .returned (.bool false) ∧ Below w0.heap.size w0 w' := fun w0 n0 n1 => by rw [← n1]; exact implLays a1 c1 y1 ls w0 h1 n0 h3 h4
  have hC4 : ∀ w0, (LayAt w0 a1 ls) → (boolP (LaysOk ls) = true) → Calls Tryd.prog 105 #[.slice a1 y1 c1] w0 fun r w' => r = .returned (.bool true) ∧ Below w0.heap.size w0 w' := fun w0 n0 n1 => by rw [← n1]; exact implLays a1 c1 y1 ls w0 h1 n0 h3 h4
  have hC5 : ∀ w0, (LabAt w0 a2 bs) → Calls Tryd.prog 106 #[.slice a2 y2 c2] w0 fun r w' => r = .returned (.bool (boolP (LabsOk bs))) ∧ Below w0.heap.size w0 w' := fun w0 n0 => implLabs a2 c2 y2 bs w0 h5 n0 h7 h8
  have HS0 : Hid (Sta [] w [] [⟨fun k => k < w.heap.size, fun w' => LayAt w' a1 ls ∧ LabAt w' a2 bs⟩] w) := Sta.arg (fun w' => LayAt w' a1 ls ∧ LabAt w' a2 bs) (fun w' hb => ⟨h2.below hb, h6.below hb⟩)
  clear h1 h2 h4 h5 h6 h8 h0
  go_enter Tryd.func83, Tryd.ntmps83
  go_wp2_with (first
    | ((with_reducible refine wpList_boxV (w := w) (by with_unfolding_all rfl) 41 (.tmp 0) (by with_unfolding_all rfl) [.string nm, .slice a1 y1 c1, .slice a2 y2 c2] (by with_unfolding_all rfl) ?_); intro w1 hA1 hB1 hS1; clear hS1; have HS1 := Sta.new HS0 hA1 hB1 (by simp); clear hA1 hB1; have cHS1_0_0 : w1.cell? ⟨w.heap.size, 0, none⟩ = some (.string nm) := Sta.c (i := 0) HS1 rfl rfl))
  clear cHS1_0_0
  have hb3 : nameB nm = false ∨ (nameB nm = true ∧ boolP (LaysOk ls) = false) ∨ (nameB nm = true ∧ boolP (LaysOk ls) = true) := by cases nameB nm <;> cases boolP (LaysOk ls) <;> simp
  rcases hb3 with hd0 | ⟨hd0, hd1⟩ | ⟨hd0, hd1⟩
  · as_aux_lemma =>
    have HF : Hid (¬ ManOk nm ls bs) := fun h => by have := h.1; rw [hd0] at this; cases this
    have cHS1_0_0 : w1.cell? ⟨w.heap.size, 0, none⟩ = some (.string nm) := Sta.c (i := 0) HS1 rfl rfl
    go_wp2_with (first
      | (go_at_call 104; (with_reducible refine (hC1 w1 hd0).mono ?_); rintro r w' ⟨rfl, rfl⟩))
    go_ret
    exact ⟨congrArg (fun b => Ending.returned (Value.bool b)) (boolP_no HF.out).symm, Sta.fin HS1⟩
  · as_aux_lemma =>
    have HF : Hid (¬ ManOk nm ls bs) := fun h => boolP_not hd1 h.2.1
    have cHS1_0_0 : w1.cell? ⟨w.heap.size, 0, none⟩ = some (.string nm) := Sta.c (i := 0) HS1 rfl rfl
    have cHS1_0_1 : w1.cell? ⟨w.heap.size, 1, none⟩ = some (.slice a1 y1 c1) := Sta.c (i := 0) HS1 rfl rfl
    go_wp2_with (first
      | (go_at_call 104; (with_reducible refine (hC2 w1 hd0).mono ?_); rintro r w' ⟨rfl, rfl⟩)
      | (go_at_call 105; have n4_0 : LayAt w1 a1 ls := (Sta.t (i := 0) HS1 rfl :).1; (with_reducible refine (hC3 w1 n4_0 hd1).mono ?_); rintro r w4 ⟨rfl, hB4⟩; have HS4 := Sta.call HS1 hB4; clear hB4; clear cHS1_0_0 cHS1_0_1))
    go_ret
    exact ⟨congrArg (fun b => Ending.returned (Value.bool b)) (boolP_no HF.out).symm, Sta.fin HS4⟩
  · as_aux_lemma =>
    have HA : Hid (nameB nm = true ∧ LaysOk ls) := ⟨hd0, boolP_of hd1⟩
    have cHS1_0_0 : w1.cell? ⟨w.heap.size, 0, none⟩ = some (.string nm) := Sta.c (i := 0) HS1 rfl rfl
    have cHS1_0_1 : w1.cell? ⟨w.heap.size, 1, none⟩ = some (.slice a1 y1 c1) := Sta.c (i := 0) HS1 rfl rfl
    go_wp2_with (first
      | (go_at_call 104; (with_reducible refine (hC2 w1 hd0).mono ?_); rintro r w' ⟨rfl, rfl⟩)
      | (go_at_call 105; have n6_0 : LayAt w1 a1 ls := (Sta.t (i := 0) HS1 rfl :).1; (with_reducible refine (hC4 w1 n6_0 hd1).mono ?_); rintro r w6 ⟨rfl, hB6⟩; have HS6 := Sta.call HS1 hB6; clear hB6; clear cHS1_0_0 cHS1_0_1; have cHS6_0_2 : w6.cell? ⟨w.heap.size, 2, none⟩ = some (.slice a2 y2 c2) := Sta.c (i := 0) HS6 rfl rfl)
      | (go_at_call 106; have n7_0 : LabAt w6 a2 bs := (Sta.t (i := 0) HS6 rfl :).2; (with_reducible refine (hC5 w6 n7_0).mono ?_); rintro r w7 ⟨rfl, hB7⟩; have HS7 := Sta.call HS6 hB7; clear hB7; clear cHS6_0_2))
    go_ret
    exact ⟨congrArg (fun b => Ending.returned (Value.bool b)) (boolP_congr ⟨fun h => ⟨HA.out.1, HA.out.2, h⟩, fun h => h.2.2⟩), Sta.fin HS7⟩
end Go.Proofs.YtchfpiadfmnphaaDoor
namespace Go.Proofs.YtchfpiadfmnphaaDoor
open Go.RowKit
set_option linter.unusedVariables false

/- What the reader tells. -/
def ManT (t : ByteArray) (g : Nat) (R : Option MfRes) (w : World) (e : Ending) (w' : World) : Prop :=
  (∃ nm ls bs q L, R = some (nm, ls, bs, q) ∧ e = .returned (.agg L.toArray) ∧ L.length = 3 ∧ L.all Value.oneCell' = true ∧ ManF L w.heap.size w'.heap.size ∧ (∀ x ∈ ls, x.w) ∧ (∀ x ∈ bs, x.w) ∧ RowV w' g (cuv t q) ∧ Only g w w' ∧ Made w w' (ManQ nm ls bs L)) ∨ (R = none ∧ e = .panicked [{ v := faultV, recovered := false }] ∧ Only g w w')
theorem ManT.no {t : ByteArray} {g : Nat} {R : Option MfRes} {w w' : World} (h : R = none) (ho : Only g w w') : ManT t g R w (.panicked [{ v := faultV, recovered := false }]) w' := Or.inr ⟨h, rfl, ho⟩
theorem ManT.yes {t : ByteArray} {g : Nat} {R : Option MfRes} {w w' : World} {nm : ByteArray} {ls : List LayV} {bs : List LabV} {q : Nat} {L : List Value} (h : R = some (nm, ls, bs, q)) (h1 : L.length = 3) (h2 : L.all Value.oneCell' = true) (h3 : ManF L w.heap.size w'.heap.size) (h4 : ∀ x ∈ ls, x.w) (h5 : ∀ x ∈ bs, x.w) (h6 : RowV w' g (cuv t q)) (h7 : Only g w w') (h8 : Made w w' (ManQ nm ls bs L)) : ManT t g R w (.returned (.agg L.toArray)) w' := Or.inl ⟨nm, ls, bs, q, L, h, rfl, h1, h2, h3, h4, h5, h6, h7, h8⟩
theorem apart_own {G : List Nat} {w0 w : World} {R : List (Nat × List Value)} {T : List Thing} {a1 a2 : Option Addr} {n1 c1 n2 c2 i j : Nat} {P1 P2 : World → Prop} (h : Hid (Sta G w0 R T w)) (hi : T[i]? = some ⟨fun k => (Value.slice a1 n1 c1).ownBlock = some k, P1⟩) (hj : T[j]? = some ⟨fun k => (Value.slice a2 n2 c2).ownBlock = some k, P2⟩) (hij : i < j) : ∀ x y, a1 = some x → a2 = some y → x.block ≠ y.block := fun x y e1 e2 e => by
  subst e1 e2
  exact Sta.apart h hi hj hij x.block rfl (by show some y.block = some x.block; rw [e])
theorem Made.and' {w0 w' : World} {P Q : World → Prop} (h : Made w0 w' P) (k : Made w0 w' Q) : Made w0 w' (fun w => P w ∧ Q w) := fun w2 hw => ⟨h w2 hw, k w2 hw⟩
set_option maxRecDepth 100000 in
set_option maxHeartbeats 16000000 in
theorem mdN0 (g p : Nat) (t : ByteArray) (R : Option MfRes) (w : World) (hs : t.size ≤ maxLen) (hl0 : p ≤ t.size) (HR0 : Hid (R = none)) (hn0 : textO t p = none) (h : RowV w g (cuv t p)) :
    Calls Tryd.prog 53 #[.pointer (some ⟨g, 0, none⟩)] w fun r w' => ManT t g R w r w' := by
  have hg : g < w.heap.size := h.lt (cuv_ne _ _)
  have HF := HR0
  have hC1 : ∀ w0, (RowV w0 g [.string t, .int .i64 (p : Int)]) → Calls Tryd.prog 79 #[.pointer (some ⟨g, 0, none⟩)] w0 fun r w' => r = .panicked [{ v := faultV, recovered := false }] ∧ Only g w0 w' := fun w0 n0 => textNo g p t w0 hs hn0 hl0 n0
  have HS0 : Hid (Sta [g] w [(g, [.string t, .int .i64 (p : Int)])] [⟨fun k => k < w.heap.size ∧ k ≠ g, fun _ => True⟩] w) := Sta.recv h (cuv_ne _ _) (fun _ => True) (fun _ _ => trivial)
  clear h hs
  go_enter Tryd.func53, Tryd.ntmps53
  go_wp2_with (first
    | ((with_reducible refine wpList_allocV (w := w) (by with_unfolding_all rfl) 41 (by with_unfolding_all rfl) [.string ⟨#[]⟩, .slice none 0 0, .slice none 0 0] Tryd.zT_implManifest ?_); intro w1 hA1 hB1 hS1; clear hS1; have HS1 := Sta.new HS0 hA1 hB1 (by simp); clear hA1 hB1))
  have n2_0 : RowV w1 g [.string t, .int .i64 (p : Int)] := (Sta.r (i := 1) HS1 rfl :)
  refine (hC1 w1 n2_0).mono ?_
  rintro r w2 ⟨rfl, hO2⟩
  exact ⟨rfl, ManT.no HF.out ((Sta.only HS1 hg).trans hO2)⟩
set_option maxRecDepth 100000 in
set_option maxHeartbeats 16000000 in
theorem mdN1 (g p : Nat) (t : ByteArray) (R : Option MfRes) (nm : ByteArray) (p1 : Nat) (w : World) (hs : t.size ≤ maxLen) (hl0 : p ≤ t.size) (HR0 : Hid (R = none)) (hn0 : textO t p = some (nm, p1)) (hl1 : p1 ≤ t.size) (hn1 : countO t p1 10 = none) (h : RowV w g (cuv t p)) :
    Calls Tryd.prog 53 #[.pointer (some ⟨g, 0, none⟩)] w fun r w' => ManT t g R w r w' := by
  have hg : g < w.heap.size := h.lt (cuv_ne _ _)
  have HF := HR0
  have hC1 : ∀ w0, (RowV w0 g [.string t, .int .i64 (p : Int)]) → Calls Tryd.prog 79 #[.pointer (some ⟨g, 0, none⟩)] w0 fun r w' => r = .returned (.string nm) ∧ RowV w' g [.string t, .int .i64 (p1 : Int)] ∧ Only g w0 w' := fun w0 n0 => textYes g p p1 t nm w0 hs ⟨hn0, hl0⟩ n0
  have hC2 : ∀ w0, (RowV w0 g [.string t, .int .i64 (p1 : Int)]) → Calls Tryd.prog 80 #[.pointer (some ⟨g, 0, none⟩), .int .i64 10] w0 fun r w' => r = .panicked [{ v := faultV, recovered := false }] ∧ Only g w0 w' := fun w0 n0 => countNo g p1 10 t w0 hs hn1 hl1 n0
  have HS0 : Hid (Sta [g] w [(g, [.string t, .int .i64 (p : Int)])] [⟨fun k => k < w.heap.size ∧ k ≠ g, fun _ => True⟩] w) := Sta.recv h (cuv_ne _ _) (fun _ => True) (fun _ _ => trivial)
  clear h hs
  go_enter Tryd.func53, Tryd.ntmps53
  go_wp2_with (first
    | ((with_reducible refine wpList_allocV (w := w) (by with_unfolding_all rfl) 41 (by with_unfolding_all rfl) [.string ⟨#[]⟩, .slice none 0 0, .slice none 0 0] Tryd.zT_implManifest ?_); intro w1 hA1 hB1 hS1; clear hS1; have HS1 := Sta.new HS0 hA1 hB1 (by simp); clear hA1 hB1)
    | (go_at_call 79; have n2_0 : RowV w1 g [.string t, .int .i64 (p : Int)] := (Sta.r (i := 1) HS1 rfl :); (with_reducible refine (hC1 w1 n2_0).mono ?_); rintro r w2 ⟨rfl, hA2, hO2⟩; have HS2 := Sta.put 1 HS1 rfl hA2 (by simp) hO2; clear hA2 hO2)
    | ((with_reducible refine wpList_allocV (w := w2) (by with_unfolding_all rfl) 41 (by with_unfolding_all rfl) [.string ⟨#[]⟩, .slice none 0 0, .slice none 0 0] Tryd.zT_implManifest ?_); intro w3 hA3 hB3 hS3; clear hS3; have HS3 := Sta.new HS2 hA3 hB3 (by simp); clear hA3 hB3)
    | ((with_reducible refine wpList_storeS (w := w3) (by with_unfolding_all rfl) 41 (.tmp 3) (.tmp 8) (by with_unfolding_all rfl) w2.heap.size [.string ⟨#[]⟩, .slice none 0 0, .slice none 0 0] [.string nm, .slice none 0 0, .slice none 0 0] (by with_unfolding_all rfl) (by with_unfolding_all rfl) (Sta.r (i := 0) HS3 (by with_unfolding_all rfl)) 3 Tryd.sT_implManifest (by with_unfolding_all rfl) (by with_unfolding_all rfl) (by with_unfolding_all rfl) ?_); intro w4 hA4 hO4; have HS4 := Sta.put 0 HS3 rfl hA4 (by simp) hO4; clear hA4 hO4))
  have n5_0 : RowV w4 g [.string t, .int .i64 (p1 : Int)] := (Sta.r (i := 2) HS4 rfl :)
  refine (hC2 w4 n5_0).mono ?_
  rintro r w5 ⟨rfl, hO5⟩
  exact ⟨rfl, ManT.no HF.out ((Sta.only HS4 hg).trans hO5)⟩
set_option maxRecDepth 100000 in
set_option maxHeartbeats 16000000 in
theorem mdY (g p : Nat) (t : ByteArray) (R : Option MfRes) (nm : ByteArray) (p1 : Nat) (m p2 : Nat) (w : World) (hs : t.size ≤ maxLen) (hl0 : p ≤ t.size) (HR0 : Hid (R = restLs t nm [] m p2)) (hn0 : textO t p = some (nm, p1)) (hl1 : p1 ≤ t.size) (hn1 : countO t p1 10 = some (m, p2)) (hl2 : p2 ≤ t.size) (hm10 : m ≤ 10) (h : RowV w g (cuv t p)) :
    Calls Tryd.prog 53 #[.pointer (some ⟨g, 0, none⟩)] w fun r w' => ManT t g R w r w' := by
  have hg : g < w.heap.size := h.lt (cuv_ne _ _)
  have hnmz : nm.size ≤ maxLen := Nat.le_trans (textO_some hn0).2.2.1 hs
  have hs' := hs
  have hC1 : ∀ w0, (RowV w0 g [.string t, .int .i64 (p : Int)]) → Calls Tryd.prog 79 #[.pointer (some ⟨g, 0, none⟩)] w0 fun r w' => r = .returned (.string nm) ∧ RowV w' g [.string t, .int .i64 (p1 : Int)] ∧ Only g w0 w' := fun w0 n0 => textYes g p p1 t nm w0 hs ⟨hn0, hl0⟩ n0
  have hC2 : ∀ w0, (RowV w0 g [.string t, .int .i64 (p1 : Int)]) → Calls Tryd.prog 80 #[.pointer (some ⟨g, 0, none⟩), .int .i64 10] w0 fun r w' => r = .returned (.int .i64 (m : Int)) ∧ RowV w' g [.string t, .int .i64 (p2 : Int)] ∧ Only g w0 w' := fun w0 n0 => countYes g p1 p2 10 m t w0 hs ⟨hn1, hl1⟩ n0
  have hC3 : ∀ w0 (pa : Nat), (RowV w0 g [.string t, .int .i64 (pa : Int)]) → (countO t pa 10 = none) → (pa ≤ t.size) → Calls Tryd.prog 80 #[.pointer (some ⟨g, 0, none⟩), .int .i64 10] w0 fun r w' => r = .panicked [{ v := faultV, recovered := false }] ∧ Only g w0 w' := fun w0 pa n0 n1 n2 => countNo g pa 10 t w0 hs n1 n2 n0
  have hC4 : ∀ w0 (pa : Nat) (m2 : Nat) (p3 : Nat), (RowV w0 g [.string t, .int .i64 (pa : Int)]) → (countO t pa 10 = some (m2, p3)) → (pa ≤ t.size) → Calls Tryd.prog 80 #[.pointer (some ⟨g, 0, none⟩), .int .i64 10] w0 fun r w' => r = .returned (.int .i64 (m2 : Int)) ∧ RowV w' g [.string t, .int .i64 (p3 : Int)] ∧ Only g w0 w' := fun w0 pa m2 p3 n0 n1 n2 => countYes g pa p3 10 m2 t w0 hs ⟨n1, n2⟩ n0
  have hC5 : ∀ w0 (aa : Option Addr) (na : Nat) (ca : Nat) (la : List LayV) (ab : Option Addr) (nb : Nat) (cb : Nat) (lb : List LabV), (LayO w0 w.heap.size (.slice aa na ca) la) → (LabO w0 w.heap.size (.slice ab nb cb) lb) → (∀ x ∈ la, x.w) → (∀ x ∈ lb, x.w) → (la.length ≤ 10 ∧ lb.length ≤ 10) → (boolP (ManOk nm la lb) = false) → Calls Tryd.prog 83 #[.agg #[.string nm, .slice aa na ca, .slice ab nb cb]] w0 fun r w' => r = .returned (.bool false) ∧ Below w0.heap.size w0 w' := fun w0 aa na ca la ab nb cb lb n0 n1 n2 n3 n4 n5 => by rw [← n5]; exact implManR nm aa ca na la ab cb nb lb w0 (LayO.row n0).2.2.symm (LayO.row n0).1.lay (by have := (LayO.row n0).2.2; unfold maxLen; omega) n2 (LabO.row n1).2.2.symm (LabO.row n1).1.lab (by have := (LabO.row n1).2.2; unfold maxLen; omega) n3 hnmz
  have hC6 : ∀ w0, Calls Tryd.prog 78 #[.pointer (some ⟨g, 0, none⟩), .bool false] w0 fun r w' => r = .panicked [{ v := faultV, recovered := false }] ∧ Only g w0 w' := fun w0 => (mustNo _ w0).mono fun r w' ⟨h1, h2⟩ => ⟨h1, h2 ▸ Only.refl g w0⟩
  have hC7 : ∀ w0 (aa : Option Addr) (na : Nat) (ca : Nat) (la : List LayV) (ab : Option Addr) (nb : Nat) (cb : Nat) (lb : List LabV), (LayO w0 w.heap.size (.slice aa na ca) la) → (LabO w0 w.heap.size (.slice ab nb cb) lb) → (∀ x ∈ la, x.w) → (∀ x ∈ lb, x.w) → (la.length ≤ 10 ∧ lb.length ≤ 10) → (boolP (ManOk nm la lb) = true) → Calls Tryd.prog 83 #[.agg #[.string nm, .slice aa na ca, .slice ab nb cb]] w0 fun r w' => r = .returned (.bool true) ∧ Below w0.heap.size w0 w' := fun w0 aa na ca la ab nb cb lb n0 n1 n2 n3 n4 n5 => by rw [← n5]; exact implManR nm aa ca na la ab cb nb lb w0 (LayO.row n0).2.2.symm (LayO.row n0).1.lay (by have := (LayO.row n0).2.2; unfold maxLen; omega) n2 (LabO.row n1).2.2.symm (LabO.row n1).1.lab (by have := (LabO.row n1).2.2; unfold maxLen; omega) n3 hnmz
  have hC8 : ∀ w0, Calls Tryd.prog 78 #[.pointer (some ⟨g, 0, none⟩), .bool true] w0 fun r w' => r = .returned (.tuple #[]) ∧ w0 = w' := fun w0 => mustYes _ w0
  have hC9 : ∀ w0 (pb : Nat), (RowV w0 g [.string t, .int .i64 (pb : Int)]) → (textO t pb = none) → (pb ≤ t.size) → Calls Tryd.prog 79 #[.pointer (some ⟨g, 0, none⟩)] w0 fun r w' => r = .panicked [{ v := faultV, recovered := false }] ∧ Only g w0 w' := fun w0 pb n0 n1 n2 => textNo g pb t w0 hs n1 n2 n0
  have hC10 : ∀ w0 (pb : Nat) (x0 : ByteArray) (q1 : Nat), (RowV w0 g [.string t, .int .i64 (pb : Int)]) → (textO t pb = some (x0, q1)) → (pb ≤ t.size) → Calls Tryd.prog 79 #[.pointer (some ⟨g, 0, none⟩)] w0 fun r w' => r = .returned (.string x0) ∧ RowV w' g [.string t, .int .i64 (q1 : Int)] ∧ Only g w0 w' := fun w0 pb x0 q1 n0 n1 n2 => textYes g pb q1 t x0 w0 hs ⟨n1, n2⟩ n0
  have hC11 : ∀ w0 (q1 : Nat), (RowV w0 g [.string t, .int .i64 (q1 : Int)]) → (textO t q1 = none) → (q1 ≤ t.size) → Calls Tryd.prog 79 #[.pointer (some ⟨g, 0, none⟩)] w0 fun r w' => r = .panicked [{ v := faultV, recovered := false }] ∧ Only g w0 w' := fun w0 q1 n0 n1 n2 => textNo g q1 t w0 hs n1 n2 n0
  have hC12 : ∀ w0 (q1 : Nat) (x1 : ByteArray) (q2 : Nat), (RowV w0 g [.string t, .int .i64 (q1 : Int)]) → (textO t q1 = some (x1, q2)) → (q1 ≤ t.size) → Calls Tryd.prog 79 #[.pointer (some ⟨g, 0, none⟩)] w0 fun r w' => r = .returned (.string x1) ∧ RowV w' g [.string t, .int .i64 (q2 : Int)] ∧ Only g w0 w' := fun w0 q1 x1 q2 n0 n1 n2 => textYes g q1 q2 t x1 w0 hs ⟨n1, n2⟩ n0
  have hC13 : ∀ w0 (pa : Nat), (RowV w0 g [.string t, .int .i64 (pa : Int)]) → (bytesO t pa 32 = none) → (pa ≤ t.size) → Calls Tryd.prog 81 #[.pointer (some ⟨g, 0, none⟩), .int .i64 32] w0 fun r w' => r = .panicked [{ v := faultV, recovered := false }] ∧ Only g w0 w' := fun w0 pa n0 n1 n2 => bytesNo g pa 32 t w0 hs (by omega) n2 (bytesO_no n1) n0
  have hC14 : ∀ w0 (pa : Nat) (x0 : ByteArray) (q1 : Nat), (RowV w0 g [.string t, .int .i64 (pa : Int)]) → (bytesO t pa 32 = some (x0, q1)) → Calls Tryd.prog 81 #[.pointer (some ⟨g, 0, none⟩), .int .i64 32] w0 fun r w' => r = .returned (.string x0) ∧ RowV w' g [.string t, .int .i64 (q1 : Int)] ∧ Only g w0 w' := fun w0 pa x0 q1 n0 n1 => by have h5 := bytesO_yes n1; rw [h5.1]; exact bytesYes g pa 32 q1 t w0 hs h5.2.1 h5.2.2 n0
  have hC15 : ∀ w0 (q1 : Nat), (RowV w0 g [.string t, .int .i64 (q1 : Int)]) → (numO t q1 = none) → (q1 ≤ t.size) → Calls Tryd.prog 82 #[.pointer (some ⟨g, 0, none⟩)] w0 fun r w' => r = .panicked [{ v := faultV, recovered := false }] ∧ Only g w0 w' := fun w0 q1 n0 n1 n2 => numNo g q1 t w0 hs n1 n2 n0
  have hC16 : ∀ w0 (q1 : Nat) (x1 : Int) (q2 : Nat), (RowV w0 g [.string t, .int .i64 (q1 : Int)]) → (numO t q1 = some (x1, q2)) → (q1 ≤ t.size) → Calls Tryd.prog 82 #[.pointer (some ⟨g, 0, none⟩)] w0 fun r w' => r = .returned (.int .i64 x1) ∧ RowV w' g [.string t, .int .i64 (q2 : Int)] ∧ Only g w0 w' := fun w0 q1 x1 q2 n0 n1 n2 => numYes g q1 q2 t x1 w0 hs ⟨n1, n2⟩ n0
  have HS0 : Hid (Sta [g] w [(g, [.string t, .int .i64 (p : Int)])] [⟨fun k => k < w.heap.size ∧ k ≠ g, fun _ => True⟩] w) := Sta.recv h (cuv_ne _ _) (fun _ => True) (fun _ _ => trivial)
  clear h hs
  go_enter Tryd.func53, Tryd.ntmps53
  go_wp2_with (first
    | ((with_reducible refine wpList_allocV (w := w) (by with_unfolding_all rfl) 41 (by with_unfolding_all rfl) [.string ⟨#[]⟩, .slice none 0 0, .slice none 0 0] Tryd.zT_implManifest ?_); intro w1 hA1 hB1 hS1; clear hS1; have HS1 := Sta.new HS0 hA1 hB1 (by simp); clear hA1 hB1)
    | (go_at_call 79; have n2_0 : RowV w1 g [.string t, .int .i64 (p : Int)] := (Sta.r (i := 1) HS1 rfl :); (with_reducible refine (hC1 w1 n2_0).mono ?_); rintro r w2 ⟨rfl, hA2, hO2⟩; have HS2 := Sta.put 1 HS1 rfl hA2 (by simp) hO2; clear hA2 hO2)
    | ((with_reducible refine wpList_allocV (w := w2) (by with_unfolding_all rfl) 41 (by with_unfolding_all rfl) [.string ⟨#[]⟩, .slice none 0 0, .slice none 0 0] Tryd.zT_implManifest ?_); intro w3 hA3 hB3 hS3; clear hS3; have HS3 := Sta.new HS2 hA3 hB3 (by simp); clear hA3 hB3)
    | ((with_reducible refine wpList_storeS (w := w3) (by with_unfolding_all rfl) 41 (.tmp 3) (.tmp 8) (by with_unfolding_all rfl) w2.heap.size [.string ⟨#[]⟩, .slice none 0 0, .slice none 0 0] [.string nm, .slice none 0 0, .slice none 0 0] (by with_unfolding_all rfl) (by with_unfolding_all rfl) (Sta.r (i := 0) HS3 (by with_unfolding_all rfl)) 3 Tryd.sT_implManifest (by with_unfolding_all rfl) (by with_unfolding_all rfl) (by with_unfolding_all rfl) ?_); intro w4 hA4 hO4; have HS4 := Sta.put 0 HS3 rfl hA4 (by simp) hO4; clear hA4 hO4)
    | (go_at_call 80; have n5_0 : RowV w4 g [.string t, .int .i64 (p1 : Int)] := (Sta.r (i := 2) HS4 rfl :); (with_reducible refine (hC2 w4 n5_0).mono ?_); rintro r w5 ⟨rfl, hA5, hO5⟩; have HS5 := Sta.put 2 HS4 rfl hA5 (by simp) hO5; clear hA5 hO5))
  have HS6 : Hid (Sta [g] w [(w2.heap.size, [.string nm, .slice none 0 0, .slice none 0 0]), (w.heap.size, [.string ⟨#[]⟩, .slice none 0 0, .slice none 0 0]), (g, [.string t, .int .i64 (p2 : Int)])] [⟨fun k => (Value.slice none 0 0).ownBlock = some k, fun w' => LayO w' w.heap.size (.slice none 0 0) ([])⟩, ⟨fun k => k < w.heap.size ∧ k ≠ g, fun _ => True⟩] w5) := Sta.own0 w.heap.size 85 2 HS5
  go_wp2_with fail
  go_loopw [13] (fun v0 wr => ∃ (k : Nat) (pa : Nat) (aa : Option Addr) (na : Nat) (ca : Nat) (la : List LayV), v0 = .int .i64 (k : Int) ∧ k ≤ m ∧ Hid (pa ≤ t.size) ∧ Hid (la.length = k) ∧ Hid (∀ x ∈ la, x.w) ∧ Hid (R = restLs t nm la (m - k) pa) ∧ Hid (Sta [g] w [(w2.heap.size, [.string nm, .slice aa na ca, .slice none 0 0]), (w.heap.size, [.string ⟨#[]⟩, .slice none 0 0, .slice none 0 0]), (g, [.string t, .int .i64 (pa : Int)])] [⟨fun k => (Value.slice aa na ca).ownBlock = some k, fun w' => LayO w' w.heap.size (.slice aa na ca) la⟩, ⟨fun k => k < w.heap.size ∧ k ≠ g, fun _ => True⟩] wr)) (fun v0 _ => m - (intOf v0).toNat)
  case atStart => exact ⟨0, p2, none, 0, 0, [], rfl, Nat.zero_le _, hl2, rfl, fun x hx => (by cases hx), HR0.out, HS6⟩
  case round =>
    rename Go.World => wl7
    clear HS6
    obtain ⟨k, pa, aa, na, ca, la, rfl, hk7, HPa, HLa, HWa, HR, HS7⟩ := hrel
    by_cases hlt7 : k < m
    case neg =>
      obtain rfl : m = k := by omega
      have hla := HPa.out
      have HRe : Hid (R = restC t nm la pa) := by have := HR.out; rw [Nat.sub_self, restLs_end] at this; exact this
      clear HR
      have hb2 : countO t pa 10 = none ∨ (∃ m2 p3, countO t pa 10 = some (m2, p3)) := by
        cases h5 : countO t pa 10 with
        | none => exact Or.inl rfl
        | some y => exact Or.inr ⟨y.1, y.2, rfl⟩
      rcases hb2 with hc | ⟨m2, p3, hc⟩
      · as_aux_lemma =>
        have HF : Hid (R = none) := by show _ = _; rw [HRe.out]; exact restC_no hc
        go_wp2_with fail
        have n8_0 : RowV wl7 g [.string t, .int .i64 (pa : Int)] := (Sta.r (i := 2) HS7 rfl :)
        refine (hC3 wl7 pa n8_0 hc hla).mono ?_
        rintro r w8 ⟨rfl, hO8⟩
        exact ⟨rfl, ManT.no HF.out ((Sta.only HS7 hg).trans hO8)⟩
      · as_aux_lemma =>
        have hl3 := (countO_le hc).2
        have hm2 := (countO_le hc).1
        have HRe2 : Hid (R = restBs t nm la [] m2 p3) := by show _ = _; rw [HRe.out]; exact restC_yes hc
        go_wp2_with (first
          | (go_at_call 80; have n9_0 : RowV wl7 g [.string t, .int .i64 (pa : Int)] := (Sta.r (i := 2) HS7 rfl :); (with_reducible refine (hC4 wl7 pa m2 p3 n9_0 hc hla).mono ?_); rintro r w9 ⟨rfl, hA9, hO9⟩; have HS9 := Sta.put 2 HS7 rfl hA9 (by simp) hO9; clear hA9 hO9))
        have HS10 : Hid (Sta [g] w [(w2.heap.size, [.string nm, .slice aa na ca, .slice none 0 0]), (w.heap.size, [.string ⟨#[]⟩, .slice none 0 0, .slice none 0 0]), (g, [.string t, .int .i64 (p3 : Int)])] [⟨fun k => (Value.slice none 0 0).ownBlock = some k, fun w' => LabO w' w.heap.size (.slice none 0 0) ([])⟩, ⟨fun m => (Value.slice aa na ca).ownBlock = some m, fun w' => LayO w' w.heap.size (.slice aa na ca) la⟩, ⟨fun m => m < w.heap.size ∧ m ≠ g, fun _ => True⟩] w9) := Sta.own0 w.heap.size 116 2 HS9
        go_wp2_with fail
        go_loopw [34] (fun v0 wr => ∃ (k : Nat) (pb : Nat) (ab : Option Addr) (nb : Nat) (cb : Nat) (lb : List LabV), v0 = .int .i64 (k : Int) ∧ k ≤ m2 ∧ Hid (pb ≤ t.size) ∧ Hid (lb.length = k) ∧ Hid (∀ x ∈ lb, x.w) ∧ Hid (R = restBs t nm la lb (m2 - k) pb) ∧ Hid (Sta [g] w [(w2.heap.size, [.string nm, .slice aa na ca, .slice ab nb cb]), (w.heap.size, [.string ⟨#[]⟩, .slice none 0 0, .slice none 0 0]), (g, [.string t, .int .i64 (pb : Int)])] [⟨fun k => (Value.slice ab nb cb).ownBlock = some k, fun w' => LabO w' w.heap.size (.slice ab nb cb) lb⟩, ⟨fun m => (Value.slice aa na ca).ownBlock = some m, fun w' => LayO w' w.heap.size (.slice aa na ca) la⟩, ⟨fun m => m < w.heap.size ∧ m ≠ g, fun _ => True⟩] wr)) (fun v0 _ => m2 - (intOf v0).toNat)
        case atStart => exact ⟨0, p3, none, 0, 0, [], rfl, Nat.zero_le _, hl3, rfl, fun x hx => (by cases hx), HRe2.out, HS10⟩
        case round =>
          rename Go.World => wl11
          clear HS10
          obtain ⟨k, pb, ab, nb, cb, lb, rfl, hk11, HPb, HLb, HWb, HR, HS11⟩ := hrel
          by_cases hlt11 : k < m2
          case neg =>
            obtain rfl : m2 = k := by omega
            have hlb := HPb.out
            have HRe3 : Hid (R = restBs t nm la lb 0 pb) := by have := HR.out; rw [Nat.sub_self] at this; exact this
            have HLen : Hid (la.length ≤ 10 ∧ lb.length ≤ 10) := by have h1 := HLa.out; have h2 := HLb.out; show _ ∧ _; omega
            clear HR
            cases hd : boolP (ManOk nm la lb)
            · as_aux_lemma =>
              have HF : Hid (R = none) := by show _ = _; rw [HRe3.out]; exact restBs_no hd
              go_wp2_with fail
              have HS12 := Sta.drew HS11
              refine wp_region_held_drew (S := fun w' => w'.cell? ⟨w2.heap.size, 0, none⟩ = some (.string nm) ∧ w'.cell? ⟨w2.heap.size, 1, none⟩ = some (.slice aa na ca) ∧ w'.cell? ⟨w2.heap.size, 2, none⟩ = some (.slice ab nb cb)) (by kernel_rfl) ⟨Sta.c (i := 0) HS12 rfl rfl, Sta.c (i := 0) HS12 rfl rfl, Sta.c (i := 0) HS12 rfl rfl⟩ (fun hHeld => ?_)
              generalize wl11.drew = w12 at *
              refine wpAnyH_take (i := 0) (oi := ⟨_, _, _, _, _, _⟩) (v := .pointer (some ⟨g, 0, none⟩)) rfl (by kernel_rfl) (by kernel_rfl) (by kernel_rfl) (fun _ _ _ h => h) (Or.inl ⟨wanted_free rfl, fun w' hSw => ?_⟩) hHeld ?_
              · go_simp
              try simp only [Act.put, List.setIfInBounds_toArray, List.set_cons_zero, List.set_cons_succ]
              refine wpAnyH_take (i := 1) (oi := ⟨_, _, _, _, _, _⟩) (v := .pointer (some ⟨g, 0, none⟩)) rfl (by kernel_rfl) (by kernel_rfl) (by kernel_rfl) (fun _ _ _ h => h) (Or.inl ⟨wanted_free rfl, fun w' hSw => ?_⟩) hHeld ?_
              · go_simp
              try simp only [Act.put, List.setIfInBounds_toArray, List.set_cons_zero, List.set_cons_succ]
              refine wpAnyH_take (i := 2) (oi := ⟨_, _, _, _, _, _⟩) (v := .pointer (some ⟨g, 0, none⟩)) rfl (by kernel_rfl) (by kernel_rfl) (by kernel_rfl) (fun _ _ _ h => h) (Or.inl ⟨wanted_free rfl, fun w' hSw => ?_⟩) hHeld ?_
              · go_simp
              try simp only [Act.put, List.setIfInBounds_toArray, List.set_cons_zero, List.set_cons_succ]
              refine wpAnyH_take (i := 3) (oi := ⟨_, _, _, _, _, _⟩) (v := .agg #[.string nm, .slice aa na ca, .slice ab nb cb]) rfl (by kernel_rfl) (by kernel_rfl) (by kernel_rfl) (fun _ _ _ h => h) (Or.inl ⟨wanted_free rfl, fun w' hSw => ?_⟩) hHeld ?_
              · obtain ⟨s0, s1, s2⟩ := hSw
                go_simp
              try simp only [Act.put, List.setIfInBounds_toArray, List.set_cons_zero, List.set_cons_succ]
              refine wpAnyH_ready (rs := [4]) (by kernel_rfl) (by simp) (AllReadyH.cons (o := ⟨_, _, _, _, _, _⟩) rfl (fun K hK => ?_) AllReadyH.nil)
              rewrite [if_pos (wanted_free rfl)]
              go_simp
              have n13_0 : LayO w12 w.heap.size (.slice aa na ca) la := (Sta.t (i := 1) HS12 rfl :)
              have n13_1 : LabO w12 w.heap.size (.slice ab nb cb) lb := (Sta.t (i := 0) HS12 rfl :)
              (with_reducible refine (hC5 w12 aa na ca la ab nb cb lb n13_0 n13_1 HWa.out HWb.out HLen.out hd).mono ?_)
              rintro r w13 ⟨rfl, hB13⟩
              have HS13 := Sta.call HS12 hB13
              clear hB13
              go_wp2_with fail
              refine hK.out _ _ ⟨Sta.c (i := 0) HS13 rfl rfl, Sta.c (i := 0) HS13 rfl rfl, Sta.c (i := 0) HS13 rfl rfl⟩ (fun hHeld => ?_)
              clear hK K
              try simp only [Act.put, List.setIfInBounds_toArray, List.set_cons_zero, List.set_cons_succ]
              refine wpAnyH_ready (rs := [5]) (by kernel_rfl) (by simp) (AllReadyH.cons (o := ⟨_, _, _, _, _, _⟩) rfl (fun K hK => ?_) AllReadyH.nil)
              rewrite [if_pos (wanted_free rfl)]
              go_simp
              go_wp2_with fail
              refine (hC6 w13).mono ?_
              rintro r w14 ⟨rfl, hO14⟩
              exact ⟨rfl, ManT.no HF.out ((Sta.only HS13 hg).trans hO14)⟩
            · as_aux_lemma =>
              have HF : Hid (R = some (nm, la, lb, pb)) := by show _ = _; rw [HRe3.out]; exact restBs_yes hd
              go_wp2_with fail
              have HS15 := Sta.drew HS11
              refine wp_region_held_drew (S := fun w' => w'.cell? ⟨w2.heap.size, 0, none⟩ = some (.string nm) ∧ w'.cell? ⟨w2.heap.size, 1, none⟩ = some (.slice aa na ca) ∧ w'.cell? ⟨w2.heap.size, 2, none⟩ = some (.slice ab nb cb)) (by kernel_rfl) ⟨Sta.c (i := 0) HS15 rfl rfl, Sta.c (i := 0) HS15 rfl rfl, Sta.c (i := 0) HS15 rfl rfl⟩ (fun hHeld => ?_)
              generalize wl11.drew = w15 at *
              refine wpAnyH_take (i := 0) (oi := ⟨_, _, _, _, _, _⟩) (v := .pointer (some ⟨g, 0, none⟩)) rfl (by kernel_rfl) (by kernel_rfl) (by kernel_rfl) (fun _ _ _ h => h) (Or.inl ⟨wanted_free rfl, fun w' hSw => ?_⟩) hHeld ?_
              · go_simp
              try simp only [Act.put, List.setIfInBounds_toArray, List.set_cons_zero, List.set_cons_succ]
              refine wpAnyH_take (i := 1) (oi := ⟨_, _, _, _, _, _⟩) (v := .pointer (some ⟨g, 0, none⟩)) rfl (by kernel_rfl) (by kernel_rfl) (by kernel_rfl) (fun _ _ _ h => h) (Or.inl ⟨wanted_free rfl, fun w' hSw => ?_⟩) hHeld ?_
              · go_simp
              try simp only [Act.put, List.setIfInBounds_toArray, List.set_cons_zero, List.set_cons_succ]
              refine wpAnyH_take (i := 2) (oi := ⟨_, _, _, _, _, _⟩) (v := .pointer (some ⟨g, 0, none⟩)) rfl (by kernel_rfl) (by kernel_rfl) (by kernel_rfl) (fun _ _ _ h => h) (Or.inl ⟨wanted_free rfl, fun w' hSw => ?_⟩) hHeld ?_
              · go_simp
              try simp only [Act.put, List.setIfInBounds_toArray, List.set_cons_zero, List.set_cons_succ]
              refine wpAnyH_take (i := 3) (oi := ⟨_, _, _, _, _, _⟩) (v := .agg #[.string nm, .slice aa na ca, .slice ab nb cb]) rfl (by kernel_rfl) (by kernel_rfl) (by kernel_rfl) (fun _ _ _ h => h) (Or.inl ⟨wanted_free rfl, fun w' hSw => ?_⟩) hHeld ?_
              · obtain ⟨s0, s1, s2⟩ := hSw
                go_simp
              try simp only [Act.put, List.setIfInBounds_toArray, List.set_cons_zero, List.set_cons_succ]
              refine wpAnyH_ready (rs := [4]) (by kernel_rfl) (by simp) (AllReadyH.cons (o := ⟨_, _, _, _, _, _⟩) rfl (fun K hK => ?_) AllReadyH.nil)
              rewrite [if_pos (wanted_free rfl)]
              go_simp
              have n16_0 : LayO w15 w.heap.size (.slice aa na ca) la := (Sta.t (i := 1) HS15 rfl :)
              have n16_1 : LabO w15 w.heap.size (.slice ab nb cb) lb := (Sta.t (i := 0) HS15 rfl :)
              (with_reducible refine (hC7 w15 aa na ca la ab nb cb lb n16_0 n16_1 HWa.out HWb.out HLen.out hd).mono ?_)
              rintro r w16 ⟨rfl, hB16⟩
              have HS16 := Sta.call HS15 hB16
              clear hB16
              go_wp2_with fail
              refine hK.out _ _ ⟨Sta.c (i := 0) HS16 rfl rfl, Sta.c (i := 0) HS16 rfl rfl, Sta.c (i := 0) HS16 rfl rfl⟩ (fun hHeld => ?_)
              clear hK K
              try simp only [Act.put, List.setIfInBounds_toArray, List.set_cons_zero, List.set_cons_succ]
              refine wpAnyH_ready (rs := [5]) (by kernel_rfl) (by simp) (AllReadyH.cons (o := ⟨_, _, _, _, _, _⟩) rfl (fun K hK => ?_) AllReadyH.nil)
              rewrite [if_pos (wanted_free rfl)]
              go_simp
              (with_reducible refine (hC8 w16).mono ?_)
              rintro r w' ⟨rfl, rfl⟩
              go_wp2_with fail
              refine hK.out _ _ ⟨Sta.c (i := 0) HS16 rfl rfl, Sta.c (i := 0) HS16 rfl rfl, Sta.c (i := 0) HS16 rfl rfl⟩ (fun hHeld => ?_)
              clear hK K
              try simp only [Act.put, List.setIfInBounds_toArray, List.set_cons_zero, List.set_cons_succ]
              refine wpAnyH_done (by kernel_rfl) ?_ _
              clear hHeld
              go_wp2_with (first
                | ((with_reducible refine wpList_loadV (w := w16) (by with_unfolding_all rfl) 41 (.tmp 3) (by with_unfolding_all rfl) w2.heap.size [.string nm, .slice aa na ca, .slice ab nb cb] (by with_unfolding_all rfl) (Sta.r (i := 0) HS16 (by with_unfolding_all rfl)) Tryd.uT_implManifest 3 Tryd.sT_implManifest (by with_unfolding_all rfl) ?_))
                | ((with_reducible refine wpList_storeS (w := w16) (by with_unfolding_all rfl) 41 (.tmp 2) (.tmp 57) (by with_unfolding_all rfl) w.heap.size [.string ⟨#[]⟩, .slice none 0 0, .slice none 0 0] [.string nm, .slice aa na ca, .slice ab nb cb] (by with_unfolding_all rfl) (by with_unfolding_all rfl) (Sta.r (i := 1) HS16 (by with_unfolding_all rfl)) 3 Tryd.sT_implManifest (by with_unfolding_all rfl) (by with_unfolding_all rfl) (by with_unfolding_all rfl) ?_); intro w18 hA18 hO18; have HS18 := Sta.put 1 HS16 rfl hA18 (by simp) hO18; clear hA18 hO18))
              exact bodyPost_ret (results_V (t := 41) rfl _ w.heap.size [.string nm, .slice aa na ca, .slice ab nb cb] rfl (Sta.r (i := 1) HS18 (by with_unfolding_all rfl)) Tryd.uT_implManifest 3 Tryd.sT_implManifest rfl) rfl (ManT.yes (L := [.string nm, .slice aa na ca, .slice ab nb cb]) HF.out rfl rfl ⟨nm, aa, na, ca, ab, nb, cb, rfl, (LayO.row (Sta.t (i := 1) HS18 rfl : LayO _ _ (.slice aa na ca) la)).2.1, (LabO.row (Sta.t (i := 0) HS18 rfl : LabO _ _ (.slice ab nb cb) lb)).2.1, (fun x y e1 e2 => (apart_own (i := 0) (j := 1) HS18 rfl rfl (by decide) y x e2 e1).symm)⟩ HWa.out HWb.out (Sta.r (i := 2) HS18 rfl) (Sta.only HS18 hg) ((Made.and' (P := fun w2 => LayO w2 w.heap.size (.slice aa na ca) la) (Q := fun w2 => LabO w2 w.heap.size (.slice ab nb cb) lb) (Sta.made_of (i := 1) HS18 rfl (fun k hk => (own_ge (Sta.t (i := 1) HS18 rfl : LayO _ _ (.slice aa na ca) la) hk).1)) (Sta.made_of (i := 0) HS18 rfl (fun k hk => (own_ge (Sta.t (i := 0) HS18 rfl : LabO _ _ (.slice ab nb cb) lb) hk).1))).imp (fun w2 h2 => ⟨aa, ca, ab, cb, by rw [← (LayO.row h2.1).2.2, ← (LabO.row h2.2).2.2], (LayO.row h2.1).1, (LabO.row h2.2).1⟩)))
          have lk11 : (k : Int) < m2 := by omega
          have l011 : (0 : Int) ≤ k := by omega
          have hlb := HPb.out
          obtain ⟨j, hj⟩ : ∃ j, m2 - k = j + 1 := ⟨m2 - k - 1, by omega⟩
          have hj2 : m2 - (k + 1) = j := by omega
          have HRr : Hid (R = restBs t nm la lb (j + 1) pb) := by have := HR.out; rw [hj] at this; exact this
          clear HR hj
          have hb3 : textO t pb = none ∨ (∃ x0 q1, textO t pb = some (x0, q1) ∧ textO t q1 = none) ∨ (∃ x0 q1 x1 q2, textO t pb = some (x0, q1) ∧ textO t q1 = some (x1, q2)) := by
            cases h5 : textO t pb with
            | none => exact Or.inl rfl
            | some y =>
              cases h6 : textO t y.2 with
              | none => exact Or.inr (Or.inl ⟨y.1, y.2, rfl, h6⟩)
              | some z => exact Or.inr (Or.inr ⟨y.1, y.2, z.1, z.2, rfl, h6⟩)
          rcases hb3 with ht1 | ⟨x0, q1, ht1, ht2⟩ | ⟨x0, q1, x1, q2, ht1, ht2⟩
          · as_aux_lemma =>
            have HF : Hid (R = none) := by show _ = _; rw [HRr.out]; exact restBs_no1 ht1
            go_wp2_with fail
            have HS19 := Sta.drew HS11
            refine wp_region_held_drew (S := fun w' => True) (by kernel_rfl) trivial (fun hHeld => ?_)
            generalize wl11.drew = w19 at *
            refine wpAnyH_take (i := 0) (oi := ⟨_, _, _, _, _, _⟩) (v := .pointer (some ⟨w2.heap.size, 2, none⟩)) rfl (by kernel_rfl) (by kernel_rfl) (by kernel_rfl) (fun _ _ _ h => h) (Or.inl ⟨wanted_free rfl, fun w' hSw => ?_⟩) hHeld ?_
            · go_simp
            try simp only [Act.put, List.setIfInBounds_toArray, List.set_cons_zero, List.set_cons_succ]
            refine wpAnyH_take (i := 2) (oi := ⟨_, _, _, _, _, _⟩) (v := .pointer (some ⟨g, 0, none⟩)) rfl (by kernel_rfl) (by kernel_rfl) (by kernel_rfl) (fun _ _ _ h => h) (Or.inl ⟨wanted_free rfl, fun w' hSw => ?_⟩) hHeld ?_
            · go_simp
            try simp only [Act.put, List.setIfInBounds_toArray, List.set_cons_zero, List.set_cons_succ]
            refine wpAnyH_take (i := 3) (oi := ⟨_, _, _, _, _, _⟩) (v := .pointer (some ⟨g, 0, none⟩)) rfl (by kernel_rfl) (by kernel_rfl) (by kernel_rfl) (fun _ _ _ h => h) (Or.inl ⟨wanted_free rfl, fun w' hSw => ?_⟩) hHeld ?_
            · go_simp
            try simp only [Act.put, List.setIfInBounds_toArray, List.set_cons_zero, List.set_cons_succ]
            refine wpAnyH_take (i := 4) (oi := ⟨_, _, _, _, _, _⟩) (v := .pointer (some ⟨g, 0, none⟩)) rfl (by kernel_rfl) (by kernel_rfl) (by kernel_rfl) (fun _ _ _ h => h) (Or.inl ⟨wanted_free rfl, fun w' hSw => ?_⟩) hHeld ?_
            · go_simp
            try simp only [Act.put, List.setIfInBounds_toArray, List.set_cons_zero, List.set_cons_succ]
            refine wpAnyH_take (i := 6) (oi := ⟨_, _, _, _, _, _⟩) (v := .pointer (some ⟨g, 0, none⟩)) rfl (by kernel_rfl) (by kernel_rfl) (by kernel_rfl) (fun _ _ _ h => h) (Or.inl ⟨wanted_free rfl, fun w' hSw => ?_⟩) hHeld ?_
            · go_simp
            try simp only [Act.put, List.setIfInBounds_toArray, List.set_cons_zero, List.set_cons_succ]
            refine wpAnyH_take (i := 7) (oi := ⟨_, _, _, _, _, _⟩) (v := .pointer (some ⟨g, 0, none⟩)) rfl (by kernel_rfl) (by kernel_rfl) (by kernel_rfl) (fun _ _ _ h => h) (Or.inl ⟨wanted_free rfl, fun w' hSw => ?_⟩) hHeld ?_
            · go_simp
            try simp only [Act.put, List.setIfInBounds_toArray, List.set_cons_zero, List.set_cons_succ]
            refine wpAnyH_take (i := 8) (oi := ⟨_, _, _, _, _, _⟩) (v := .pointer (some ⟨g, 0, none⟩)) rfl (by kernel_rfl) (by kernel_rfl) (by kernel_rfl) (fun _ _ _ h => h) (Or.inl ⟨wanted_free rfl, fun w' hSw => ?_⟩) hHeld ?_
            · go_simp
            try simp only [Act.put, List.setIfInBounds_toArray, List.set_cons_zero, List.set_cons_succ]
            refine wpAnyH_ready (rs := [1, 5]) (by kernel_rfl) (by simp) (AllReadyH.cons (o := ⟨_, _, _, _, _, _⟩) rfl (fun K hK => ?_) (AllReadyH.cons (o := ⟨_, _, _, _, _, _⟩) rfl (fun K hK => ?_) AllReadyH.nil))
            · as_aux_lemma =>
              rewrite [if_pos (wanted_free rfl)]
              with_reducible refine wp_load1 39 116 (.tmp 36) (by with_unfolding_all rfl) w2.heap.size 2 (.slice ab nb cb) (by with_unfolding_all rfl) (Sta.c (i := 0) HS19 rfl rfl) Tryd.underlying39 ?_
              refine hK.out _ _ trivial (fun hHeld => ?_)
              clear hK K
              try simp only [Act.put, List.setIfInBounds_toArray, List.set_cons_zero, List.set_cons_succ]
              refine wpAnyH_ready (rs := [5]) (by kernel_rfl) (by simp) (AllReadyH.cons (o := ⟨_, _, _, _, _, _⟩) rfl (fun K hK => ?_) AllReadyH.nil)
              rewrite [if_pos (wanted_free rfl)]
              go_simp
              go_wp2_with fail
              have n20_0 : RowV w19 g [.string t, .int .i64 (pb : Int)] := (Sta.r (i := 2) HS19 rfl :)
              refine (hC9 w19 pb n20_0 ht1 hlb).mono ?_
              rintro r w20 ⟨rfl, hO20⟩
              exact ⟨rfl, ManT.no HF.out ((Sta.only HS19 hg).trans hO20)⟩
            · as_aux_lemma =>
              rewrite [if_pos (wanted_free rfl)]
              go_simp
              go_wp2_with fail
              have n21_0 : RowV w19 g [.string t, .int .i64 (pb : Int)] := (Sta.r (i := 2) HS19 rfl :)
              refine (hC9 w19 pb n21_0 ht1 hlb).mono ?_
              rintro r w21 ⟨rfl, hO21⟩
              exact ⟨rfl, ManT.no HF.out ((Sta.only HS19 hg).trans hO21)⟩
          · as_aux_lemma =>
            have hlq := (textO_some ht1).2.1
            have HF : Hid (R = none) := by show _ = _; rw [HRr.out]; exact restBs_no2 ht1 ht2
            go_wp2_with fail
            have HS22 := Sta.drew HS11
            refine wp_region_held_drew (S := fun w' => True) (by kernel_rfl) trivial (fun hHeld => ?_)
            generalize wl11.drew = w22 at *
            refine wpAnyH_take (i := 0) (oi := ⟨_, _, _, _, _, _⟩) (v := .pointer (some ⟨w2.heap.size, 2, none⟩)) rfl (by kernel_rfl) (by kernel_rfl) (by kernel_rfl) (fun _ _ _ h => h) (Or.inl ⟨wanted_free rfl, fun w' hSw => ?_⟩) hHeld ?_
            · go_simp
            try simp only [Act.put, List.setIfInBounds_toArray, List.set_cons_zero, List.set_cons_succ]
            refine wpAnyH_take (i := 2) (oi := ⟨_, _, _, _, _, _⟩) (v := .pointer (some ⟨g, 0, none⟩)) rfl (by kernel_rfl) (by kernel_rfl) (by kernel_rfl) (fun _ _ _ h => h) (Or.inl ⟨wanted_free rfl, fun w' hSw => ?_⟩) hHeld ?_
            · go_simp
            try simp only [Act.put, List.setIfInBounds_toArray, List.set_cons_zero, List.set_cons_succ]
            refine wpAnyH_take (i := 3) (oi := ⟨_, _, _, _, _, _⟩) (v := .pointer (some ⟨g, 0, none⟩)) rfl (by kernel_rfl) (by kernel_rfl) (by kernel_rfl) (fun _ _ _ h => h) (Or.inl ⟨wanted_free rfl, fun w' hSw => ?_⟩) hHeld ?_
            · go_simp
            try simp only [Act.put, List.setIfInBounds_toArray, List.set_cons_zero, List.set_cons_succ]
            refine wpAnyH_take (i := 4) (oi := ⟨_, _, _, _, _, _⟩) (v := .pointer (some ⟨g, 0, none⟩)) rfl (by kernel_rfl) (by kernel_rfl) (by kernel_rfl) (fun _ _ _ h => h) (Or.inl ⟨wanted_free rfl, fun w' hSw => ?_⟩) hHeld ?_
            · go_simp
            try simp only [Act.put, List.setIfInBounds_toArray, List.set_cons_zero, List.set_cons_succ]
            refine wpAnyH_take (i := 6) (oi := ⟨_, _, _, _, _, _⟩) (v := .pointer (some ⟨g, 0, none⟩)) rfl (by kernel_rfl) (by kernel_rfl) (by kernel_rfl) (fun _ _ _ h => h) (Or.inl ⟨wanted_free rfl, fun w' hSw => ?_⟩) hHeld ?_
            · go_simp
            try simp only [Act.put, List.setIfInBounds_toArray, List.set_cons_zero, List.set_cons_succ]
            refine wpAnyH_take (i := 7) (oi := ⟨_, _, _, _, _, _⟩) (v := .pointer (some ⟨g, 0, none⟩)) rfl (by kernel_rfl) (by kernel_rfl) (by kernel_rfl) (fun _ _ _ h => h) (Or.inl ⟨wanted_free rfl, fun w' hSw => ?_⟩) hHeld ?_
            · go_simp
            try simp only [Act.put, List.setIfInBounds_toArray, List.set_cons_zero, List.set_cons_succ]
            refine wpAnyH_take (i := 8) (oi := ⟨_, _, _, _, _, _⟩) (v := .pointer (some ⟨g, 0, none⟩)) rfl (by kernel_rfl) (by kernel_rfl) (by kernel_rfl) (fun _ _ _ h => h) (Or.inl ⟨wanted_free rfl, fun w' hSw => ?_⟩) hHeld ?_
            · go_simp
            try simp only [Act.put, List.setIfInBounds_toArray, List.set_cons_zero, List.set_cons_succ]
            refine wpAnyH_ready (rs := [1, 5]) (by kernel_rfl) (by simp) (AllReadyH.cons (o := ⟨_, _, _, _, _, _⟩) rfl (fun K hK => ?_) (AllReadyH.cons (o := ⟨_, _, _, _, _, _⟩) rfl (fun K hK => ?_) AllReadyH.nil))
            · as_aux_lemma =>
              rewrite [if_pos (wanted_free rfl)]
              with_reducible refine wp_load1 39 116 (.tmp 36) (by with_unfolding_all rfl) w2.heap.size 2 (.slice ab nb cb) (by with_unfolding_all rfl) (Sta.c (i := 0) HS22 rfl rfl) Tryd.underlying39 ?_
              refine hK.out _ _ trivial (fun hHeld => ?_)
              clear hK K
              try simp only [Act.put, List.setIfInBounds_toArray, List.set_cons_zero, List.set_cons_succ]
              refine wpAnyH_ready (rs := [5]) (by kernel_rfl) (by simp) (AllReadyH.cons (o := ⟨_, _, _, _, _, _⟩) rfl (fun K hK => ?_) AllReadyH.nil)
              rewrite [if_pos (wanted_free rfl)]
              go_simp
              have n23_0 : RowV w22 g [.string t, .int .i64 (pb : Int)] := (Sta.r (i := 2) HS22 rfl :)
              (with_reducible refine (hC10 w22 pb x0 q1 n23_0 ht1 hlb).mono ?_)
              rintro r w23 ⟨rfl, hA23, hO23⟩
              have HS23 := Sta.put 2 HS22 rfl hA23 (by simp) hO23
              clear hA23 hO23
              go_wp2_with fail
              refine hK.out _ _ trivial (fun hHeld => ?_)
              clear hK K
              try simp only [Act.put, List.setIfInBounds_toArray, List.set_cons_zero, List.set_cons_succ]
              refine wpAnyH_ready (rs := [9]) (by kernel_rfl) (by simp) (AllReadyH.cons (o := ⟨_, _, _, _, _, _⟩) rfl (fun K hK => ?_) AllReadyH.nil)
              rewrite [if_pos (wanted_free rfl)]
              go_simp
              go_wp2_with fail
              have n24_0 : RowV w23 g [.string t, .int .i64 (q1 : Int)] := (Sta.r (i := 2) HS23 rfl :)
              refine (hC11 w23 q1 n24_0 ht2 hlq).mono ?_
              rintro r w24 ⟨rfl, hO24⟩
              exact ⟨rfl, ManT.no HF.out ((Sta.only HS23 hg).trans hO24)⟩
            · as_aux_lemma =>
              rewrite [if_pos (wanted_free rfl)]
              go_simp
              have n25_0 : RowV w22 g [.string t, .int .i64 (pb : Int)] := (Sta.r (i := 2) HS22 rfl :)
              (with_reducible refine (hC10 w22 pb x0 q1 n25_0 ht1 hlb).mono ?_)
              rintro r w25 ⟨rfl, hA25, hO25⟩
              have HS25 := Sta.put 2 HS22 rfl hA25 (by simp) hO25
              clear hA25 hO25
              go_wp2_with fail
              refine hK.out _ _ trivial (fun hHeld => ?_)
              clear hK K
              try simp only [Act.put, List.setIfInBounds_toArray, List.set_cons_zero, List.set_cons_succ]
              refine wpAnyH_ready (rs := [1, 9]) (by kernel_rfl) (by simp) (AllReadyH.cons (o := ⟨_, _, _, _, _, _⟩) rfl (fun K hK => ?_) (AllReadyH.cons (o := ⟨_, _, _, _, _, _⟩) rfl (fun K hK => ?_) AllReadyH.nil))
              · as_aux_lemma =>
                rewrite [if_pos (wanted_free rfl)]
                with_reducible refine wp_load1 39 116 (.tmp 36) (by with_unfolding_all rfl) w2.heap.size 2 (.slice ab nb cb) (by with_unfolding_all rfl) (Sta.c (i := 0) HS25 rfl rfl) Tryd.underlying39 ?_
                refine hK.out _ _ trivial (fun hHeld => ?_)
                clear hK K
                try simp only [Act.put, List.setIfInBounds_toArray, List.set_cons_zero, List.set_cons_succ]
                refine wpAnyH_ready (rs := [9]) (by kernel_rfl) (by simp) (AllReadyH.cons (o := ⟨_, _, _, _, _, _⟩) rfl (fun K hK => ?_) AllReadyH.nil)
                rewrite [if_pos (wanted_free rfl)]
                go_simp
                go_wp2_with fail
                have n26_0 : RowV w25 g [.string t, .int .i64 (q1 : Int)] := (Sta.r (i := 2) HS25 rfl :)
                refine (hC11 w25 q1 n26_0 ht2 hlq).mono ?_
                rintro r w26 ⟨rfl, hO26⟩
                exact ⟨rfl, ManT.no HF.out ((Sta.only HS25 hg).trans hO26)⟩
              · as_aux_lemma =>
                rewrite [if_pos (wanted_free rfl)]
                go_simp
                go_wp2_with fail
                have n27_0 : RowV w25 g [.string t, .int .i64 (q1 : Int)] := (Sta.r (i := 2) HS25 rfl :)
                refine (hC11 w25 q1 n27_0 ht2 hlq).mono ?_
                rintro r w27 ⟨rfl, hO27⟩
                exact ⟨rfl, ManT.no HF.out ((Sta.only HS25 hg).trans hO27)⟩
          · as_aux_lemma =>
            have hlq := (textO_some ht1).2.1
            have hlq2 := (textO_some ht2).2.1
            have HXw : Hid (LabV.w ⟨x0, x1⟩) := labsO_w hs' ht1 ht2
            have HRn : Hid (R = restBs t nm la (lb ++ [⟨x0, x1⟩]) j q2) := by show _ = _; rw [HRr.out]; exact restBs_step ht1 ht2
            go_wp2_with fail
            have HS28 := Sta.drew HS11
            refine wp_region_held_drew (S := fun w' => True) (by kernel_rfl) trivial (fun hHeld => ?_)
            generalize wl11.drew = w28 at *
            refine wpAnyH_take (i := 0) (oi := ⟨_, _, _, _, _, _⟩) (v := .pointer (some ⟨w2.heap.size, 2, none⟩)) rfl (by kernel_rfl) (by kernel_rfl) (by kernel_rfl) (fun _ _ _ h => h) (Or.inl ⟨wanted_free rfl, fun w' hSw => ?_⟩) hHeld ?_
            · go_simp
            try simp only [Act.put, List.setIfInBounds_toArray, List.set_cons_zero, List.set_cons_succ]
            refine wpAnyH_take (i := 2) (oi := ⟨_, _, _, _, _, _⟩) (v := .pointer (some ⟨g, 0, none⟩)) rfl (by kernel_rfl) (by kernel_rfl) (by kernel_rfl) (fun _ _ _ h => h) (Or.inl ⟨wanted_free rfl, fun w' hSw => ?_⟩) hHeld ?_
            · go_simp
            try simp only [Act.put, List.setIfInBounds_toArray, List.set_cons_zero, List.set_cons_succ]
            refine wpAnyH_take (i := 3) (oi := ⟨_, _, _, _, _, _⟩) (v := .pointer (some ⟨g, 0, none⟩)) rfl (by kernel_rfl) (by kernel_rfl) (by kernel_rfl) (fun _ _ _ h => h) (Or.inl ⟨wanted_free rfl, fun w' hSw => ?_⟩) hHeld ?_
            · go_simp
            try simp only [Act.put, List.setIfInBounds_toArray, List.set_cons_zero, List.set_cons_succ]
            refine wpAnyH_take (i := 4) (oi := ⟨_, _, _, _, _, _⟩) (v := .pointer (some ⟨g, 0, none⟩)) rfl (by kernel_rfl) (by kernel_rfl) (by kernel_rfl) (fun _ _ _ h => h) (Or.inl ⟨wanted_free rfl, fun w' hSw => ?_⟩) hHeld ?_
            · go_simp
            try simp only [Act.put, List.setIfInBounds_toArray, List.set_cons_zero, List.set_cons_succ]
            refine wpAnyH_take (i := 6) (oi := ⟨_, _, _, _, _, _⟩) (v := .pointer (some ⟨g, 0, none⟩)) rfl (by kernel_rfl) (by kernel_rfl) (by kernel_rfl) (fun _ _ _ h => h) (Or.inl ⟨wanted_free rfl, fun w' hSw => ?_⟩) hHeld ?_
            · go_simp
            try simp only [Act.put, List.setIfInBounds_toArray, List.set_cons_zero, List.set_cons_succ]
            refine wpAnyH_take (i := 7) (oi := ⟨_, _, _, _, _, _⟩) (v := .pointer (some ⟨g, 0, none⟩)) rfl (by kernel_rfl) (by kernel_rfl) (by kernel_rfl) (fun _ _ _ h => h) (Or.inl ⟨wanted_free rfl, fun w' hSw => ?_⟩) hHeld ?_
            · go_simp
            try simp only [Act.put, List.setIfInBounds_toArray, List.set_cons_zero, List.set_cons_succ]
            refine wpAnyH_take (i := 8) (oi := ⟨_, _, _, _, _, _⟩) (v := .pointer (some ⟨g, 0, none⟩)) rfl (by kernel_rfl) (by kernel_rfl) (by kernel_rfl) (fun _ _ _ h => h) (Or.inl ⟨wanted_free rfl, fun w' hSw => ?_⟩) hHeld ?_
            · go_simp
            try simp only [Act.put, List.setIfInBounds_toArray, List.set_cons_zero, List.set_cons_succ]
            refine wpAnyH_ready (rs := [1, 5]) (by kernel_rfl) (by simp) (AllReadyH.cons (o := ⟨_, _, _, _, _, _⟩) rfl (fun K hK => ?_) (AllReadyH.cons (o := ⟨_, _, _, _, _, _⟩) rfl (fun K hK => ?_) AllReadyH.nil))
            · as_aux_lemma =>
              rewrite [if_pos (wanted_free rfl)]
              with_reducible refine wp_load1 39 116 (.tmp 36) (by with_unfolding_all rfl) w2.heap.size 2 (.slice ab nb cb) (by with_unfolding_all rfl) (Sta.c (i := 0) HS28 rfl rfl) Tryd.underlying39 ?_
              refine hK.out _ _ trivial (fun hHeld => ?_)
              clear hK K
              try simp only [Act.put, List.setIfInBounds_toArray, List.set_cons_zero, List.set_cons_succ]
              refine wpAnyH_ready (rs := [5]) (by kernel_rfl) (by simp) (AllReadyH.cons (o := ⟨_, _, _, _, _, _⟩) rfl (fun K hK => ?_) AllReadyH.nil)
              rewrite [if_pos (wanted_free rfl)]
              go_simp
              have n29_0 : RowV w28 g [.string t, .int .i64 (pb : Int)] := (Sta.r (i := 2) HS28 rfl :)
              (with_reducible refine (hC10 w28 pb x0 q1 n29_0 ht1 hlb).mono ?_)
              rintro r w29 ⟨rfl, hA29, hO29⟩
              have HS29 := Sta.put 2 HS28 rfl hA29 (by simp) hO29
              clear hA29 hO29
              go_wp2_with fail
              refine hK.out _ _ trivial (fun hHeld => ?_)
              clear hK K
              try simp only [Act.put, List.setIfInBounds_toArray, List.set_cons_zero, List.set_cons_succ]
              refine wpAnyH_ready (rs := [9]) (by kernel_rfl) (by simp) (AllReadyH.cons (o := ⟨_, _, _, _, _, _⟩) rfl (fun K hK => ?_) AllReadyH.nil)
              rewrite [if_pos (wanted_free rfl)]
              go_simp
              have n30_0 : RowV w29 g [.string t, .int .i64 (q1 : Int)] := (Sta.r (i := 2) HS29 rfl :)
              (with_reducible refine (hC12 w29 q1 x1 q2 n30_0 ht2 hlq).mono ?_)
              rintro r w30 ⟨rfl, hA30, hO30⟩
              have HS30 := Sta.put 2 HS29 rfl hA30 (by simp) hO30
              clear hA30 hO30
              go_wp2_with fail
              refine hK.out _ _ trivial (fun hHeld => ?_)
              clear hK K
              try simp only [Act.put, List.setIfInBounds_toArray, List.set_cons_zero, List.set_cons_succ]
              refine wpAnyH_take (i := 10) (oi := ⟨_, _, _, _, _, _⟩) (v := .agg #[.string x0, .string x1]) rfl (by kernel_rfl) (by kernel_rfl) (by kernel_rfl) (fun _ _ _ h => h) (Or.inl ⟨wanted_free rfl, fun w' hSw => ?_⟩) hHeld ?_
              · go_simp
              try simp only [Act.put, List.setIfInBounds_toArray, List.set_cons_zero, List.set_cons_succ]
              refine wpAnyH_ready (rs := [11]) (by kernel_rfl) (by simp) (AllReadyH.cons (o := ⟨_, _, _, _, _, _⟩) rfl (fun K hK => ?_) AllReadyH.nil)
              rewrite [if_pos (wanted_free rfl)]
              with_reducible refine wp_buildLab (.tmp 46) (by with_unfolding_all rfl) x0 x1 (by with_unfolding_all rfl) ?_
              intro w31 hA31 hB31
              have HS31 := Sta.new HS30 hA31 hB31 (by simp [labv])
              clear hA31 hB31
              refine hK.out _ _ trivial (fun hHeld => ?_)
              clear hK K
              try simp only [Act.put, List.setIfInBounds_toArray, List.set_cons_zero, List.set_cons_succ]
              refine wpAnyH_ready (rs := [12]) (by kernel_rfl) (by simp) (AllReadyH.cons (o := ⟨_, _, _, _, _, _⟩) rfl (fun K hK => ?_) AllReadyH.nil)
              rewrite [if_pos (wanted_free rfl)]
              with_reducible refine wp_appendLab (W := w31) (.tmp 37) (.tmp 47) (by with_unfolding_all rfl) w.heap.size (.slice ab nb cb) lb ⟨x0, x1⟩ (by with_unfolding_all rfl) (Sta.t (i := 0) HS31 rfl) w30.heap.size (by with_unfolding_all rfl) (Sta.r (i := 0) HS31 (by with_unfolding_all rfl)) (by have := HLb.out; omega) (Sta.size HS31) ?_
              intro v32 w32 hO32 hG32 hb32
              obtain ⟨a32, m32, c32, hm32, rfl⟩ := LabO.form hO32
              have HS32 := Sta.app 0 HS31 rfl (Nat.le_refl _) hO32 hG32 hb32
              have Hm32 := hidP hm32
              clear hO32 hG32 hb32 hm32
              refine hK.out _ _ trivial (fun hHeld => ?_)
              clear hK K
              try simp only [Act.put, List.setIfInBounds_toArray, List.set_cons_zero, List.set_cons_succ]
              refine wpAnyH_take (i := 13) (oi := ⟨_, _, _, _, _, _⟩) (v := .pointer (some ⟨w2.heap.size, 2, none⟩)) rfl (by kernel_rfl) (by kernel_rfl) (by kernel_rfl) (fun _ _ _ h => h) (Or.inl ⟨wanted_free rfl, fun w' hSw => ?_⟩) hHeld ?_
              · go_simp
              try simp only [Act.put, List.setIfInBounds_toArray, List.set_cons_zero, List.set_cons_succ]
              refine wpAnyH_ready (rs := [14]) (by kernel_rfl) (by simp) (AllReadyH.cons (o := ⟨_, _, _, _, _, _⟩) rfl (fun K hK => ?_) AllReadyH.nil)
              rewrite [if_pos (wanted_free rfl)]
              with_reducible refine wp_cellO 39 (.tmp 49) (.tmp 48) (by with_unfolding_all rfl) w2.heap.size 2 [.string nm, .slice aa na ca, .slice ab nb cb] [.string nm, .slice aa na ca, .slice a32 m32 c32] (.slice a32 m32 c32) (by with_unfolding_all rfl) (by with_unfolding_all rfl) (by with_unfolding_all rfl) Tryd.s1_slimplLabel (Sta.r (i := 1) HS32 (by with_unfolding_all rfl)) (by simp) (by with_unfolding_all rfl) ?_
              intro w33 hA33 hO33
              have HS33 := Sta.put 1 HS32 rfl hA33 (by simp) hO33
              clear hA33 hO33
              refine hK.out _ _ trivial (fun hHeld => ?_)
              clear hK K
              try simp only [Act.put]
              refine wpAnyH_done (by kernel_rfl) ?_ _
              clear hHeld
              go_wp2_with fail
              go_roundw
              case rel => exact ⟨k + 1, q2, a32, m32, c32, (lb ++ ([⟨x0, x1⟩] : List LabV)), by go_num, hlt11, hlq2, by show _ = _; rw [List.length_append, HLb.out]; rfl, fun x hx => by rcases List.mem_append.1 hx with hx | hx; exact HWb.out x hx; cases List.mem_singleton.1 hx; exact HXw.out, by show _ = _; rw [hj2]; exact HRn.out, Sta.drop 1 0 HS33⟩
              case measure => simp [intOf]; omega
            · as_aux_lemma =>
              rewrite [if_pos (wanted_free rfl)]
              go_simp
              have n34_0 : RowV w28 g [.string t, .int .i64 (pb : Int)] := (Sta.r (i := 2) HS28 rfl :)
              (with_reducible refine (hC10 w28 pb x0 q1 n34_0 ht1 hlb).mono ?_)
              rintro r w34 ⟨rfl, hA34, hO34⟩
              have HS34 := Sta.put 2 HS28 rfl hA34 (by simp) hO34
              clear hA34 hO34
              go_wp2_with fail
              refine hK.out _ _ trivial (fun hHeld => ?_)
              clear hK K
              try simp only [Act.put, List.setIfInBounds_toArray, List.set_cons_zero, List.set_cons_succ]
              refine wpAnyH_ready (rs := [1, 9]) (by kernel_rfl) (by simp) (AllReadyH.cons (o := ⟨_, _, _, _, _, _⟩) rfl (fun K hK => ?_) (AllReadyH.cons (o := ⟨_, _, _, _, _, _⟩) rfl (fun K hK => ?_) AllReadyH.nil))
              · as_aux_lemma =>
                rewrite [if_pos (wanted_free rfl)]
                with_reducible refine wp_load1 39 116 (.tmp 36) (by with_unfolding_all rfl) w2.heap.size 2 (.slice ab nb cb) (by with_unfolding_all rfl) (Sta.c (i := 0) HS34 rfl rfl) Tryd.underlying39 ?_
                refine hK.out _ _ trivial (fun hHeld => ?_)
                clear hK K
                try simp only [Act.put, List.setIfInBounds_toArray, List.set_cons_zero, List.set_cons_succ]
                refine wpAnyH_ready (rs := [9]) (by kernel_rfl) (by simp) (AllReadyH.cons (o := ⟨_, _, _, _, _, _⟩) rfl (fun K hK => ?_) AllReadyH.nil)
                rewrite [if_pos (wanted_free rfl)]
                go_simp
                have n35_0 : RowV w34 g [.string t, .int .i64 (q1 : Int)] := (Sta.r (i := 2) HS34 rfl :)
                (with_reducible refine (hC12 w34 q1 x1 q2 n35_0 ht2 hlq).mono ?_)
                rintro r w35 ⟨rfl, hA35, hO35⟩
                have HS35 := Sta.put 2 HS34 rfl hA35 (by simp) hO35
                clear hA35 hO35
                go_wp2_with fail
                refine hK.out _ _ trivial (fun hHeld => ?_)
                clear hK K
                try simp only [Act.put, List.setIfInBounds_toArray, List.set_cons_zero, List.set_cons_succ]
                refine wpAnyH_take (i := 10) (oi := ⟨_, _, _, _, _, _⟩) (v := .agg #[.string x0, .string x1]) rfl (by kernel_rfl) (by kernel_rfl) (by kernel_rfl) (fun _ _ _ h => h) (Or.inl ⟨wanted_free rfl, fun w' hSw => ?_⟩) hHeld ?_
                · go_simp
                try simp only [Act.put, List.setIfInBounds_toArray, List.set_cons_zero, List.set_cons_succ]
                refine wpAnyH_ready (rs := [11]) (by kernel_rfl) (by simp) (AllReadyH.cons (o := ⟨_, _, _, _, _, _⟩) rfl (fun K hK => ?_) AllReadyH.nil)
                rewrite [if_pos (wanted_free rfl)]
                with_reducible refine wp_buildLab (.tmp 46) (by with_unfolding_all rfl) x0 x1 (by with_unfolding_all rfl) ?_
                intro w36 hA36 hB36
                have HS36 := Sta.new HS35 hA36 hB36 (by simp [labv])
                clear hA36 hB36
                refine hK.out _ _ trivial (fun hHeld => ?_)
                clear hK K
                try simp only [Act.put, List.setIfInBounds_toArray, List.set_cons_zero, List.set_cons_succ]
                refine wpAnyH_ready (rs := [12]) (by kernel_rfl) (by simp) (AllReadyH.cons (o := ⟨_, _, _, _, _, _⟩) rfl (fun K hK => ?_) AllReadyH.nil)
                rewrite [if_pos (wanted_free rfl)]
                with_reducible refine wp_appendLab (W := w36) (.tmp 37) (.tmp 47) (by with_unfolding_all rfl) w.heap.size (.slice ab nb cb) lb ⟨x0, x1⟩ (by with_unfolding_all rfl) (Sta.t (i := 0) HS36 rfl) w35.heap.size (by with_unfolding_all rfl) (Sta.r (i := 0) HS36 (by with_unfolding_all rfl)) (by have := HLb.out; omega) (Sta.size HS36) ?_
                intro v37 w37 hO37 hG37 hb37
                obtain ⟨a37, m37, c37, hm37, rfl⟩ := LabO.form hO37
                have HS37 := Sta.app 0 HS36 rfl (Nat.le_refl _) hO37 hG37 hb37
                have Hm37 := hidP hm37
                clear hO37 hG37 hb37 hm37
                refine hK.out _ _ trivial (fun hHeld => ?_)
                clear hK K
                try simp only [Act.put, List.setIfInBounds_toArray, List.set_cons_zero, List.set_cons_succ]
                refine wpAnyH_take (i := 13) (oi := ⟨_, _, _, _, _, _⟩) (v := .pointer (some ⟨w2.heap.size, 2, none⟩)) rfl (by kernel_rfl) (by kernel_rfl) (by kernel_rfl) (fun _ _ _ h => h) (Or.inl ⟨wanted_free rfl, fun w' hSw => ?_⟩) hHeld ?_
                · go_simp
                try simp only [Act.put, List.setIfInBounds_toArray, List.set_cons_zero, List.set_cons_succ]
                refine wpAnyH_ready (rs := [14]) (by kernel_rfl) (by simp) (AllReadyH.cons (o := ⟨_, _, _, _, _, _⟩) rfl (fun K hK => ?_) AllReadyH.nil)
                rewrite [if_pos (wanted_free rfl)]
                with_reducible refine wp_cellO 39 (.tmp 49) (.tmp 48) (by with_unfolding_all rfl) w2.heap.size 2 [.string nm, .slice aa na ca, .slice ab nb cb] [.string nm, .slice aa na ca, .slice a37 m37 c37] (.slice a37 m37 c37) (by with_unfolding_all rfl) (by with_unfolding_all rfl) (by with_unfolding_all rfl) Tryd.s1_slimplLabel (Sta.r (i := 1) HS37 (by with_unfolding_all rfl)) (by simp) (by with_unfolding_all rfl) ?_
                intro w38 hA38 hO38
                have HS38 := Sta.put 1 HS37 rfl hA38 (by simp) hO38
                clear hA38 hO38
                refine hK.out _ _ trivial (fun hHeld => ?_)
                clear hK K
                try simp only [Act.put]
                refine wpAnyH_done (by kernel_rfl) ?_ _
                clear hHeld
                go_wp2_with fail
                go_roundw
                case rel => exact ⟨k + 1, q2, a37, m37, c37, (lb ++ ([⟨x0, x1⟩] : List LabV)), by go_num, hlt11, hlq2, by show _ = _; rw [List.length_append, HLb.out]; rfl, fun x hx => by rcases List.mem_append.1 hx with hx | hx; exact HWb.out x hx; cases List.mem_singleton.1 hx; exact HXw.out, by show _ = _; rw [hj2]; exact HRn.out, Sta.drop 1 0 HS38⟩
                case measure => simp [intOf]; omega
              · as_aux_lemma =>
                rewrite [if_pos (wanted_free rfl)]
                go_simp
                have n39_0 : RowV w34 g [.string t, .int .i64 (q1 : Int)] := (Sta.r (i := 2) HS34 rfl :)
                (with_reducible refine (hC12 w34 q1 x1 q2 n39_0 ht2 hlq).mono ?_)
                rintro r w39 ⟨rfl, hA39, hO39⟩
                have HS39 := Sta.put 2 HS34 rfl hA39 (by simp) hO39
                clear hA39 hO39
                go_wp2_with fail
                refine hK.out _ _ trivial (fun hHeld => ?_)
                clear hK K
                try simp only [Act.put, List.setIfInBounds_toArray, List.set_cons_zero, List.set_cons_succ]
                refine wpAnyH_take (i := 10) (oi := ⟨_, _, _, _, _, _⟩) (v := .agg #[.string x0, .string x1]) rfl (by kernel_rfl) (by kernel_rfl) (by kernel_rfl) (fun _ _ _ h => h) (Or.inl ⟨wanted_free rfl, fun w' hSw => ?_⟩) hHeld ?_
                · go_simp
                try simp only [Act.put, List.setIfInBounds_toArray, List.set_cons_zero, List.set_cons_succ]
                refine wpAnyH_ready (rs := [1, 11]) (by kernel_rfl) (by simp) (AllReadyH.cons (o := ⟨_, _, _, _, _, _⟩) rfl (fun K hK => ?_) (AllReadyH.cons (o := ⟨_, _, _, _, _, _⟩) rfl (fun K hK => ?_) AllReadyH.nil))
                · as_aux_lemma =>
                  rewrite [if_pos (wanted_free rfl)]
                  with_reducible refine wp_load1 39 116 (.tmp 36) (by with_unfolding_all rfl) w2.heap.size 2 (.slice ab nb cb) (by with_unfolding_all rfl) (Sta.c (i := 0) HS39 rfl rfl) Tryd.underlying39 ?_
                  refine hK.out _ _ trivial (fun hHeld => ?_)
                  clear hK K
                  try simp only [Act.put, List.setIfInBounds_toArray, List.set_cons_zero, List.set_cons_succ]
                  refine wpAnyH_ready (rs := [11]) (by kernel_rfl) (by simp) (AllReadyH.cons (o := ⟨_, _, _, _, _, _⟩) rfl (fun K hK => ?_) AllReadyH.nil)
                  rewrite [if_pos (wanted_free rfl)]
                  with_reducible refine wp_buildLab (.tmp 46) (by with_unfolding_all rfl) x0 x1 (by with_unfolding_all rfl) ?_
                  intro w40 hA40 hB40
                  have HS40 := Sta.new HS39 hA40 hB40 (by simp [labv])
                  clear hA40 hB40
                  refine hK.out _ _ trivial (fun hHeld => ?_)
                  clear hK K
                  try simp only [Act.put, List.setIfInBounds_toArray, List.set_cons_zero, List.set_cons_succ]
                  refine wpAnyH_ready (rs := [12]) (by kernel_rfl) (by simp) (AllReadyH.cons (o := ⟨_, _, _, _, _, _⟩) rfl (fun K hK => ?_) AllReadyH.nil)
                  rewrite [if_pos (wanted_free rfl)]
                  with_reducible refine wp_appendLab (W := w40) (.tmp 37) (.tmp 47) (by with_unfolding_all rfl) w.heap.size (.slice ab nb cb) lb ⟨x0, x1⟩ (by with_unfolding_all rfl) (Sta.t (i := 0) HS40 rfl) w39.heap.size (by with_unfolding_all rfl) (Sta.r (i := 0) HS40 (by with_unfolding_all rfl)) (by have := HLb.out; omega) (Sta.size HS40) ?_
                  intro v41 w41 hO41 hG41 hb41
                  obtain ⟨a41, m41, c41, hm41, rfl⟩ := LabO.form hO41
                  have HS41 := Sta.app 0 HS40 rfl (Nat.le_refl _) hO41 hG41 hb41
                  have Hm41 := hidP hm41
                  clear hO41 hG41 hb41 hm41
                  refine hK.out _ _ trivial (fun hHeld => ?_)
                  clear hK K
                  try simp only [Act.put, List.setIfInBounds_toArray, List.set_cons_zero, List.set_cons_succ]
                  refine wpAnyH_take (i := 13) (oi := ⟨_, _, _, _, _, _⟩) (v := .pointer (some ⟨w2.heap.size, 2, none⟩)) rfl (by kernel_rfl) (by kernel_rfl) (by kernel_rfl) (fun _ _ _ h => h) (Or.inl ⟨wanted_free rfl, fun w' hSw => ?_⟩) hHeld ?_
                  · go_simp
                  try simp only [Act.put, List.setIfInBounds_toArray, List.set_cons_zero, List.set_cons_succ]
                  refine wpAnyH_ready (rs := [14]) (by kernel_rfl) (by simp) (AllReadyH.cons (o := ⟨_, _, _, _, _, _⟩) rfl (fun K hK => ?_) AllReadyH.nil)
                  rewrite [if_pos (wanted_free rfl)]
                  with_reducible refine wp_cellO 39 (.tmp 49) (.tmp 48) (by with_unfolding_all rfl) w2.heap.size 2 [.string nm, .slice aa na ca, .slice ab nb cb] [.string nm, .slice aa na ca, .slice a41 m41 c41] (.slice a41 m41 c41) (by with_unfolding_all rfl) (by with_unfolding_all rfl) (by with_unfolding_all rfl) Tryd.s1_slimplLabel (Sta.r (i := 1) HS41 (by with_unfolding_all rfl)) (by simp) (by with_unfolding_all rfl) ?_
                  intro w42 hA42 hO42
                  have HS42 := Sta.put 1 HS41 rfl hA42 (by simp) hO42
                  clear hA42 hO42
                  refine hK.out _ _ trivial (fun hHeld => ?_)
                  clear hK K
                  try simp only [Act.put]
                  refine wpAnyH_done (by kernel_rfl) ?_ _
                  clear hHeld
                  go_wp2_with fail
                  go_roundw
                  case rel => exact ⟨k + 1, q2, a41, m41, c41, (lb ++ ([⟨x0, x1⟩] : List LabV)), by go_num, hlt11, hlq2, by show _ = _; rw [List.length_append, HLb.out]; rfl, fun x hx => by rcases List.mem_append.1 hx with hx | hx; exact HWb.out x hx; cases List.mem_singleton.1 hx; exact HXw.out, by show _ = _; rw [hj2]; exact HRn.out, Sta.drop 1 0 HS42⟩
                  case measure => simp [intOf]; omega
                · as_aux_lemma =>
                  rewrite [if_pos (wanted_free rfl)]
                  with_reducible refine wp_buildLab (.tmp 46) (by with_unfolding_all rfl) x0 x1 (by with_unfolding_all rfl) ?_
                  intro w43 hA43 hB43
                  have HS43 := Sta.new HS39 hA43 hB43 (by simp [labv])
                  clear hA43 hB43
                  refine hK.out _ _ trivial (fun hHeld => ?_)
                  clear hK K
                  try simp only [Act.put, List.setIfInBounds_toArray, List.set_cons_zero, List.set_cons_succ]
                  refine wpAnyH_ready (rs := [1]) (by kernel_rfl) (by simp) (AllReadyH.cons (o := ⟨_, _, _, _, _, _⟩) rfl (fun K hK => ?_) AllReadyH.nil)
                  rewrite [if_pos (wanted_free rfl)]
                  with_reducible refine wp_load1 39 116 (.tmp 36) (by with_unfolding_all rfl) w2.heap.size 2 (.slice ab nb cb) (by with_unfolding_all rfl) (Sta.c (i := 1) HS43 rfl rfl) Tryd.underlying39 ?_
                  refine hK.out _ _ trivial (fun hHeld => ?_)
                  clear hK K
                  try simp only [Act.put, List.setIfInBounds_toArray, List.set_cons_zero, List.set_cons_succ]
                  refine wpAnyH_ready (rs := [12]) (by kernel_rfl) (by simp) (AllReadyH.cons (o := ⟨_, _, _, _, _, _⟩) rfl (fun K hK => ?_) AllReadyH.nil)
                  rewrite [if_pos (wanted_free rfl)]
                  with_reducible refine wp_appendLab (W := w43) (.tmp 37) (.tmp 47) (by with_unfolding_all rfl) w.heap.size (.slice ab nb cb) lb ⟨x0, x1⟩ (by with_unfolding_all rfl) (Sta.t (i := 0) HS43 rfl) w39.heap.size (by with_unfolding_all rfl) (Sta.r (i := 0) HS43 (by with_unfolding_all rfl)) (by have := HLb.out; omega) (Sta.size HS43) ?_
                  intro v44 w44 hO44 hG44 hb44
                  obtain ⟨a44, m44, c44, hm44, rfl⟩ := LabO.form hO44
                  have HS44 := Sta.app 0 HS43 rfl (Nat.le_refl _) hO44 hG44 hb44
                  have Hm44 := hidP hm44
                  clear hO44 hG44 hb44 hm44
                  refine hK.out _ _ trivial (fun hHeld => ?_)
                  clear hK K
                  try simp only [Act.put, List.setIfInBounds_toArray, List.set_cons_zero, List.set_cons_succ]
                  refine wpAnyH_take (i := 13) (oi := ⟨_, _, _, _, _, _⟩) (v := .pointer (some ⟨w2.heap.size, 2, none⟩)) rfl (by kernel_rfl) (by kernel_rfl) (by kernel_rfl) (fun _ _ _ h => h) (Or.inl ⟨wanted_free rfl, fun w' hSw => ?_⟩) hHeld ?_
                  · go_simp
                  try simp only [Act.put, List.setIfInBounds_toArray, List.set_cons_zero, List.set_cons_succ]
                  refine wpAnyH_ready (rs := [14]) (by kernel_rfl) (by simp) (AllReadyH.cons (o := ⟨_, _, _, _, _, _⟩) rfl (fun K hK => ?_) AllReadyH.nil)
                  rewrite [if_pos (wanted_free rfl)]
                  with_reducible refine wp_cellO 39 (.tmp 49) (.tmp 48) (by with_unfolding_all rfl) w2.heap.size 2 [.string nm, .slice aa na ca, .slice ab nb cb] [.string nm, .slice aa na ca, .slice a44 m44 c44] (.slice a44 m44 c44) (by with_unfolding_all rfl) (by with_unfolding_all rfl) (by with_unfolding_all rfl) Tryd.s1_slimplLabel (Sta.r (i := 1) HS44 (by with_unfolding_all rfl)) (by simp) (by with_unfolding_all rfl) ?_
                  intro w45 hA45 hO45
                  have HS45 := Sta.put 1 HS44 rfl hA45 (by simp) hO45
                  clear hA45 hO45
                  refine hK.out _ _ trivial (fun hHeld => ?_)
                  clear hK K
                  try simp only [Act.put]
                  refine wpAnyH_done (by kernel_rfl) ?_ _
                  clear hHeld
                  go_wp2_with fail
                  go_roundw
                  case rel => exact ⟨k + 1, q2, a44, m44, c44, (lb ++ ([⟨x0, x1⟩] : List LabV)), by go_num, hlt11, hlq2, by show _ = _; rw [List.length_append, HLb.out]; rfl, fun x hx => by rcases List.mem_append.1 hx with hx | hx; exact HWb.out x hx; cases List.mem_singleton.1 hx; exact HXw.out, by show _ = _; rw [hj2]; exact HRn.out, Sta.drop 1 0 HS45⟩
                  case measure => simp [intOf]; omega
    have lk7 : (k : Int) < m := by omega
    have l07 : (0 : Int) ≤ k := by omega
    have hla := HPa.out
    obtain ⟨j, hj⟩ : ∃ j, m - k = j + 1 := ⟨m - k - 1, by omega⟩
    have hj2 : m - (k + 1) = j := by omega
    have HRr : Hid (R = restLs t nm la (j + 1) pa) := by have := HR.out; rw [hj] at this; exact this
    clear HR hj
    have hb3 : bytesO t pa 32 = none ∨ (∃ x0 q1, bytesO t pa 32 = some (x0, q1) ∧ numO t q1 = none) ∨ (∃ x0 q1 x1 q2, bytesO t pa 32 = some (x0, q1) ∧ numO t q1 = some (x1, q2)) := by
      cases h5 : bytesO t pa 32 with
      | none => exact Or.inl rfl
      | some y =>
        cases h6 : numO t y.2 with
        | none => exact Or.inr (Or.inl ⟨y.1, y.2, rfl, h6⟩)
        | some z => exact Or.inr (Or.inr ⟨y.1, y.2, z.1, z.2, rfl, h6⟩)
    rcases hb3 with ht1 | ⟨x0, q1, ht1, ht2⟩ | ⟨x0, q1, x1, q2, ht1, ht2⟩
    · as_aux_lemma =>
      have HF : Hid (R = none) := by show _ = _; rw [HRr.out]; exact restLs_no1 ht1
      go_wp2_with fail
      have HS46 := Sta.drew HS7
      refine wp_region_held_drew (S := fun w' => True) (by kernel_rfl) trivial (fun hHeld => ?_)
      generalize wl7.drew = w46 at *
      refine wpAnyH_take (i := 0) (oi := ⟨_, _, _, _, _, _⟩) (v := .pointer (some ⟨w2.heap.size, 1, none⟩)) rfl (by kernel_rfl) (by kernel_rfl) (by kernel_rfl) (fun _ _ _ h => h) (Or.inl ⟨wanted_free rfl, fun w' hSw => ?_⟩) hHeld ?_
      · go_simp
      try simp only [Act.put, List.setIfInBounds_toArray, List.set_cons_zero, List.set_cons_succ]
      refine wpAnyH_take (i := 2) (oi := ⟨_, _, _, _, _, _⟩) (v := .pointer (some ⟨g, 0, none⟩)) rfl (by kernel_rfl) (by kernel_rfl) (by kernel_rfl) (fun _ _ _ h => h) (Or.inl ⟨wanted_free rfl, fun w' hSw => ?_⟩) hHeld ?_
      · go_simp
      try simp only [Act.put, List.setIfInBounds_toArray, List.set_cons_zero, List.set_cons_succ]
      refine wpAnyH_take (i := 3) (oi := ⟨_, _, _, _, _, _⟩) (v := .pointer (some ⟨g, 0, none⟩)) rfl (by kernel_rfl) (by kernel_rfl) (by kernel_rfl) (fun _ _ _ h => h) (Or.inl ⟨wanted_free rfl, fun w' hSw => ?_⟩) hHeld ?_
      · go_simp
      try simp only [Act.put, List.setIfInBounds_toArray, List.set_cons_zero, List.set_cons_succ]
      refine wpAnyH_take (i := 4) (oi := ⟨_, _, _, _, _, _⟩) (v := .pointer (some ⟨g, 0, none⟩)) rfl (by kernel_rfl) (by kernel_rfl) (by kernel_rfl) (fun _ _ _ h => h) (Or.inl ⟨wanted_free rfl, fun w' hSw => ?_⟩) hHeld ?_
      · go_simp
      try simp only [Act.put, List.setIfInBounds_toArray, List.set_cons_zero, List.set_cons_succ]
      refine wpAnyH_take (i := 6) (oi := ⟨_, _, _, _, _, _⟩) (v := .pointer (some ⟨g, 0, none⟩)) rfl (by kernel_rfl) (by kernel_rfl) (by kernel_rfl) (fun _ _ _ h => h) (Or.inl ⟨wanted_free rfl, fun w' hSw => ?_⟩) hHeld ?_
      · go_simp
      try simp only [Act.put, List.setIfInBounds_toArray, List.set_cons_zero, List.set_cons_succ]
      refine wpAnyH_take (i := 7) (oi := ⟨_, _, _, _, _, _⟩) (v := .pointer (some ⟨g, 0, none⟩)) rfl (by kernel_rfl) (by kernel_rfl) (by kernel_rfl) (fun _ _ _ h => h) (Or.inl ⟨wanted_free rfl, fun w' hSw => ?_⟩) hHeld ?_
      · go_simp
      try simp only [Act.put, List.setIfInBounds_toArray, List.set_cons_zero, List.set_cons_succ]
      refine wpAnyH_take (i := 8) (oi := ⟨_, _, _, _, _, _⟩) (v := .pointer (some ⟨g, 0, none⟩)) rfl (by kernel_rfl) (by kernel_rfl) (by kernel_rfl) (fun _ _ _ h => h) (Or.inl ⟨wanted_free rfl, fun w' hSw => ?_⟩) hHeld ?_
      · go_simp
      try simp only [Act.put, List.setIfInBounds_toArray, List.set_cons_zero, List.set_cons_succ]
      refine wpAnyH_ready (rs := [1, 5]) (by kernel_rfl) (by simp) (AllReadyH.cons (o := ⟨_, _, _, _, _, _⟩) rfl (fun K hK => ?_) (AllReadyH.cons (o := ⟨_, _, _, _, _, _⟩) rfl (fun K hK => ?_) AllReadyH.nil))
      · as_aux_lemma =>
        rewrite [if_pos (wanted_free rfl)]
        with_reducible refine wp_load1 38 85 (.tmp 15) (by with_unfolding_all rfl) w2.heap.size 1 (.slice aa na ca) (by with_unfolding_all rfl) (Sta.c (i := 0) HS46 rfl rfl) Tryd.underlying38 ?_
        refine hK.out _ _ trivial (fun hHeld => ?_)
        clear hK K
        try simp only [Act.put, List.setIfInBounds_toArray, List.set_cons_zero, List.set_cons_succ]
        refine wpAnyH_ready (rs := [5]) (by kernel_rfl) (by simp) (AllReadyH.cons (o := ⟨_, _, _, _, _, _⟩) rfl (fun K hK => ?_) AllReadyH.nil)
        rewrite [if_pos (wanted_free rfl)]
        go_simp
        go_wp2_with fail
        have n47_0 : RowV w46 g [.string t, .int .i64 (pa : Int)] := (Sta.r (i := 2) HS46 rfl :)
        refine (hC13 w46 pa n47_0 ht1 hla).mono ?_
        rintro r w47 ⟨rfl, hO47⟩
        exact ⟨rfl, ManT.no HF.out ((Sta.only HS46 hg).trans hO47)⟩
      · as_aux_lemma =>
        rewrite [if_pos (wanted_free rfl)]
        go_simp
        go_wp2_with fail
        have n48_0 : RowV w46 g [.string t, .int .i64 (pa : Int)] := (Sta.r (i := 2) HS46 rfl :)
        refine (hC13 w46 pa n48_0 ht1 hla).mono ?_
        rintro r w48 ⟨rfl, hO48⟩
        exact ⟨rfl, ManT.no HF.out ((Sta.only HS46 hg).trans hO48)⟩
    · as_aux_lemma =>
      have hlq := (bytesO_yes ht1).2.2
      have HF : Hid (R = none) := by show _ = _; rw [HRr.out]; exact restLs_no2 ht1 ht2
      go_wp2_with fail
      have HS49 := Sta.drew HS7
      refine wp_region_held_drew (S := fun w' => True) (by kernel_rfl) trivial (fun hHeld => ?_)
      generalize wl7.drew = w49 at *
      refine wpAnyH_take (i := 0) (oi := ⟨_, _, _, _, _, _⟩) (v := .pointer (some ⟨w2.heap.size, 1, none⟩)) rfl (by kernel_rfl) (by kernel_rfl) (by kernel_rfl) (fun _ _ _ h => h) (Or.inl ⟨wanted_free rfl, fun w' hSw => ?_⟩) hHeld ?_
      · go_simp
      try simp only [Act.put, List.setIfInBounds_toArray, List.set_cons_zero, List.set_cons_succ]
      refine wpAnyH_take (i := 2) (oi := ⟨_, _, _, _, _, _⟩) (v := .pointer (some ⟨g, 0, none⟩)) rfl (by kernel_rfl) (by kernel_rfl) (by kernel_rfl) (fun _ _ _ h => h) (Or.inl ⟨wanted_free rfl, fun w' hSw => ?_⟩) hHeld ?_
      · go_simp
      try simp only [Act.put, List.setIfInBounds_toArray, List.set_cons_zero, List.set_cons_succ]
      refine wpAnyH_take (i := 3) (oi := ⟨_, _, _, _, _, _⟩) (v := .pointer (some ⟨g, 0, none⟩)) rfl (by kernel_rfl) (by kernel_rfl) (by kernel_rfl) (fun _ _ _ h => h) (Or.inl ⟨wanted_free rfl, fun w' hSw => ?_⟩) hHeld ?_
      · go_simp
      try simp only [Act.put, List.setIfInBounds_toArray, List.set_cons_zero, List.set_cons_succ]
      refine wpAnyH_take (i := 4) (oi := ⟨_, _, _, _, _, _⟩) (v := .pointer (some ⟨g, 0, none⟩)) rfl (by kernel_rfl) (by kernel_rfl) (by kernel_rfl) (fun _ _ _ h => h) (Or.inl ⟨wanted_free rfl, fun w' hSw => ?_⟩) hHeld ?_
      · go_simp
      try simp only [Act.put, List.setIfInBounds_toArray, List.set_cons_zero, List.set_cons_succ]
      refine wpAnyH_take (i := 6) (oi := ⟨_, _, _, _, _, _⟩) (v := .pointer (some ⟨g, 0, none⟩)) rfl (by kernel_rfl) (by kernel_rfl) (by kernel_rfl) (fun _ _ _ h => h) (Or.inl ⟨wanted_free rfl, fun w' hSw => ?_⟩) hHeld ?_
      · go_simp
      try simp only [Act.put, List.setIfInBounds_toArray, List.set_cons_zero, List.set_cons_succ]
      refine wpAnyH_take (i := 7) (oi := ⟨_, _, _, _, _, _⟩) (v := .pointer (some ⟨g, 0, none⟩)) rfl (by kernel_rfl) (by kernel_rfl) (by kernel_rfl) (fun _ _ _ h => h) (Or.inl ⟨wanted_free rfl, fun w' hSw => ?_⟩) hHeld ?_
      · go_simp
      try simp only [Act.put, List.setIfInBounds_toArray, List.set_cons_zero, List.set_cons_succ]
      refine wpAnyH_take (i := 8) (oi := ⟨_, _, _, _, _, _⟩) (v := .pointer (some ⟨g, 0, none⟩)) rfl (by kernel_rfl) (by kernel_rfl) (by kernel_rfl) (fun _ _ _ h => h) (Or.inl ⟨wanted_free rfl, fun w' hSw => ?_⟩) hHeld ?_
      · go_simp
      try simp only [Act.put, List.setIfInBounds_toArray, List.set_cons_zero, List.set_cons_succ]
      refine wpAnyH_ready (rs := [1, 5]) (by kernel_rfl) (by simp) (AllReadyH.cons (o := ⟨_, _, _, _, _, _⟩) rfl (fun K hK => ?_) (AllReadyH.cons (o := ⟨_, _, _, _, _, _⟩) rfl (fun K hK => ?_) AllReadyH.nil))
      · as_aux_lemma =>
        rewrite [if_pos (wanted_free rfl)]
        with_reducible refine wp_load1 38 85 (.tmp 15) (by with_unfolding_all rfl) w2.heap.size 1 (.slice aa na ca) (by with_unfolding_all rfl) (Sta.c (i := 0) HS49 rfl rfl) Tryd.underlying38 ?_
        refine hK.out _ _ trivial (fun hHeld => ?_)
        clear hK K
        try simp only [Act.put, List.setIfInBounds_toArray, List.set_cons_zero, List.set_cons_succ]
        refine wpAnyH_ready (rs := [5]) (by kernel_rfl) (by simp) (AllReadyH.cons (o := ⟨_, _, _, _, _, _⟩) rfl (fun K hK => ?_) AllReadyH.nil)
        rewrite [if_pos (wanted_free rfl)]
        go_simp
        have n50_0 : RowV w49 g [.string t, .int .i64 (pa : Int)] := (Sta.r (i := 2) HS49 rfl :)
        (with_reducible refine (hC14 w49 pa x0 q1 n50_0 ht1).mono ?_)
        rintro r w50 ⟨rfl, hA50, hO50⟩
        have HS50 := Sta.put 2 HS49 rfl hA50 (by simp) hO50
        clear hA50 hO50
        go_wp2_with fail
        refine hK.out _ _ trivial (fun hHeld => ?_)
        clear hK K
        try simp only [Act.put, List.setIfInBounds_toArray, List.set_cons_zero, List.set_cons_succ]
        refine wpAnyH_ready (rs := [9]) (by kernel_rfl) (by simp) (AllReadyH.cons (o := ⟨_, _, _, _, _, _⟩) rfl (fun K hK => ?_) AllReadyH.nil)
        rewrite [if_pos (wanted_free rfl)]
        go_simp
        go_wp2_with fail
        have n51_0 : RowV w50 g [.string t, .int .i64 (q1 : Int)] := (Sta.r (i := 2) HS50 rfl :)
        refine (hC15 w50 q1 n51_0 ht2 hlq).mono ?_
        rintro r w51 ⟨rfl, hO51⟩
        exact ⟨rfl, ManT.no HF.out ((Sta.only HS50 hg).trans hO51)⟩
      · as_aux_lemma =>
        rewrite [if_pos (wanted_free rfl)]
        go_simp
        have n52_0 : RowV w49 g [.string t, .int .i64 (pa : Int)] := (Sta.r (i := 2) HS49 rfl :)
        (with_reducible refine (hC14 w49 pa x0 q1 n52_0 ht1).mono ?_)
        rintro r w52 ⟨rfl, hA52, hO52⟩
        have HS52 := Sta.put 2 HS49 rfl hA52 (by simp) hO52
        clear hA52 hO52
        go_wp2_with fail
        refine hK.out _ _ trivial (fun hHeld => ?_)
        clear hK K
        try simp only [Act.put, List.setIfInBounds_toArray, List.set_cons_zero, List.set_cons_succ]
        refine wpAnyH_ready (rs := [1, 9]) (by kernel_rfl) (by simp) (AllReadyH.cons (o := ⟨_, _, _, _, _, _⟩) rfl (fun K hK => ?_) (AllReadyH.cons (o := ⟨_, _, _, _, _, _⟩) rfl (fun K hK => ?_) AllReadyH.nil))
        · as_aux_lemma =>
          rewrite [if_pos (wanted_free rfl)]
          with_reducible refine wp_load1 38 85 (.tmp 15) (by with_unfolding_all rfl) w2.heap.size 1 (.slice aa na ca) (by with_unfolding_all rfl) (Sta.c (i := 0) HS52 rfl rfl) Tryd.underlying38 ?_
          refine hK.out _ _ trivial (fun hHeld => ?_)
          clear hK K
          try simp only [Act.put, List.setIfInBounds_toArray, List.set_cons_zero, List.set_cons_succ]
          refine wpAnyH_ready (rs := [9]) (by kernel_rfl) (by simp) (AllReadyH.cons (o := ⟨_, _, _, _, _, _⟩) rfl (fun K hK => ?_) AllReadyH.nil)
          rewrite [if_pos (wanted_free rfl)]
          go_simp
          go_wp2_with fail
          have n53_0 : RowV w52 g [.string t, .int .i64 (q1 : Int)] := (Sta.r (i := 2) HS52 rfl :)
          refine (hC15 w52 q1 n53_0 ht2 hlq).mono ?_
          rintro r w53 ⟨rfl, hO53⟩
          exact ⟨rfl, ManT.no HF.out ((Sta.only HS52 hg).trans hO53)⟩
        · as_aux_lemma =>
          rewrite [if_pos (wanted_free rfl)]
          go_simp
          go_wp2_with fail
          have n54_0 : RowV w52 g [.string t, .int .i64 (q1 : Int)] := (Sta.r (i := 2) HS52 rfl :)
          refine (hC15 w52 q1 n54_0 ht2 hlq).mono ?_
          rintro r w54 ⟨rfl, hO54⟩
          exact ⟨rfl, ManT.no HF.out ((Sta.only HS52 hg).trans hO54)⟩
    · as_aux_lemma =>
      have hlq := (bytesO_yes ht1).2.2
      have hlq2 := (numO_some ht2).2.1
      have HXw : Hid (LayV.w ⟨x0, x1⟩) := laysO_w hs' ht1 ht2
      have HRn : Hid (R = restLs t nm (la ++ [⟨x0, x1⟩]) j q2) := by show _ = _; rw [HRr.out]; exact restLs_step ht1 ht2
      go_wp2_with fail
      have HS55 := Sta.drew HS7
      refine wp_region_held_drew (S := fun w' => True) (by kernel_rfl) trivial (fun hHeld => ?_)
      generalize wl7.drew = w55 at *
      refine wpAnyH_take (i := 0) (oi := ⟨_, _, _, _, _, _⟩) (v := .pointer (some ⟨w2.heap.size, 1, none⟩)) rfl (by kernel_rfl) (by kernel_rfl) (by kernel_rfl) (fun _ _ _ h => h) (Or.inl ⟨wanted_free rfl, fun w' hSw => ?_⟩) hHeld ?_
      · go_simp
      try simp only [Act.put, List.setIfInBounds_toArray, List.set_cons_zero, List.set_cons_succ]
      refine wpAnyH_take (i := 2) (oi := ⟨_, _, _, _, _, _⟩) (v := .pointer (some ⟨g, 0, none⟩)) rfl (by kernel_rfl) (by kernel_rfl) (by kernel_rfl) (fun _ _ _ h => h) (Or.inl ⟨wanted_free rfl, fun w' hSw => ?_⟩) hHeld ?_
      · go_simp
      try simp only [Act.put, List.setIfInBounds_toArray, List.set_cons_zero, List.set_cons_succ]
      refine wpAnyH_take (i := 3) (oi := ⟨_, _, _, _, _, _⟩) (v := .pointer (some ⟨g, 0, none⟩)) rfl (by kernel_rfl) (by kernel_rfl) (by kernel_rfl) (fun _ _ _ h => h) (Or.inl ⟨wanted_free rfl, fun w' hSw => ?_⟩) hHeld ?_
      · go_simp
      try simp only [Act.put, List.setIfInBounds_toArray, List.set_cons_zero, List.set_cons_succ]
      refine wpAnyH_take (i := 4) (oi := ⟨_, _, _, _, _, _⟩) (v := .pointer (some ⟨g, 0, none⟩)) rfl (by kernel_rfl) (by kernel_rfl) (by kernel_rfl) (fun _ _ _ h => h) (Or.inl ⟨wanted_free rfl, fun w' hSw => ?_⟩) hHeld ?_
      · go_simp
      try simp only [Act.put, List.setIfInBounds_toArray, List.set_cons_zero, List.set_cons_succ]
      refine wpAnyH_take (i := 6) (oi := ⟨_, _, _, _, _, _⟩) (v := .pointer (some ⟨g, 0, none⟩)) rfl (by kernel_rfl) (by kernel_rfl) (by kernel_rfl) (fun _ _ _ h => h) (Or.inl ⟨wanted_free rfl, fun w' hSw => ?_⟩) hHeld ?_
      · go_simp
      try simp only [Act.put, List.setIfInBounds_toArray, List.set_cons_zero, List.set_cons_succ]
      refine wpAnyH_take (i := 7) (oi := ⟨_, _, _, _, _, _⟩) (v := .pointer (some ⟨g, 0, none⟩)) rfl (by kernel_rfl) (by kernel_rfl) (by kernel_rfl) (fun _ _ _ h => h) (Or.inl ⟨wanted_free rfl, fun w' hSw => ?_⟩) hHeld ?_
      · go_simp
      try simp only [Act.put, List.setIfInBounds_toArray, List.set_cons_zero, List.set_cons_succ]
      refine wpAnyH_take (i := 8) (oi := ⟨_, _, _, _, _, _⟩) (v := .pointer (some ⟨g, 0, none⟩)) rfl (by kernel_rfl) (by kernel_rfl) (by kernel_rfl) (fun _ _ _ h => h) (Or.inl ⟨wanted_free rfl, fun w' hSw => ?_⟩) hHeld ?_
      · go_simp
      try simp only [Act.put, List.setIfInBounds_toArray, List.set_cons_zero, List.set_cons_succ]
      refine wpAnyH_ready (rs := [1, 5]) (by kernel_rfl) (by simp) (AllReadyH.cons (o := ⟨_, _, _, _, _, _⟩) rfl (fun K hK => ?_) (AllReadyH.cons (o := ⟨_, _, _, _, _, _⟩) rfl (fun K hK => ?_) AllReadyH.nil))
      · as_aux_lemma =>
        rewrite [if_pos (wanted_free rfl)]
        with_reducible refine wp_load1 38 85 (.tmp 15) (by with_unfolding_all rfl) w2.heap.size 1 (.slice aa na ca) (by with_unfolding_all rfl) (Sta.c (i := 0) HS55 rfl rfl) Tryd.underlying38 ?_
        refine hK.out _ _ trivial (fun hHeld => ?_)
        clear hK K
        try simp only [Act.put, List.setIfInBounds_toArray, List.set_cons_zero, List.set_cons_succ]
        refine wpAnyH_ready (rs := [5]) (by kernel_rfl) (by simp) (AllReadyH.cons (o := ⟨_, _, _, _, _, _⟩) rfl (fun K hK => ?_) AllReadyH.nil)
        rewrite [if_pos (wanted_free rfl)]
        go_simp
        have n56_0 : RowV w55 g [.string t, .int .i64 (pa : Int)] := (Sta.r (i := 2) HS55 rfl :)
        (with_reducible refine (hC14 w55 pa x0 q1 n56_0 ht1).mono ?_)
        rintro r w56 ⟨rfl, hA56, hO56⟩
        have HS56 := Sta.put 2 HS55 rfl hA56 (by simp) hO56
        clear hA56 hO56
        go_wp2_with fail
        refine hK.out _ _ trivial (fun hHeld => ?_)
        clear hK K
        try simp only [Act.put, List.setIfInBounds_toArray, List.set_cons_zero, List.set_cons_succ]
        refine wpAnyH_ready (rs := [9]) (by kernel_rfl) (by simp) (AllReadyH.cons (o := ⟨_, _, _, _, _, _⟩) rfl (fun K hK => ?_) AllReadyH.nil)
        rewrite [if_pos (wanted_free rfl)]
        go_simp
        have n57_0 : RowV w56 g [.string t, .int .i64 (q1 : Int)] := (Sta.r (i := 2) HS56 rfl :)
        (with_reducible refine (hC16 w56 q1 x1 q2 n57_0 ht2 hlq).mono ?_)
        rintro r w57 ⟨rfl, hA57, hO57⟩
        have HS57 := Sta.put 2 HS56 rfl hA57 (by simp) hO57
        clear hA57 hO57
        go_wp2_with fail
        refine hK.out _ _ trivial (fun hHeld => ?_)
        clear hK K
        try simp only [Act.put, List.setIfInBounds_toArray, List.set_cons_zero, List.set_cons_succ]
        refine wpAnyH_take (i := 10) (oi := ⟨_, _, _, _, _, _⟩) (v := .agg #[.string x0, .int .i64 x1]) rfl (by kernel_rfl) (by kernel_rfl) (by kernel_rfl) (fun _ _ _ h => h) (Or.inl ⟨wanted_free rfl, fun w' hSw => ?_⟩) hHeld ?_
        · go_simp
        try simp only [Act.put, List.setIfInBounds_toArray, List.set_cons_zero, List.set_cons_succ]
        refine wpAnyH_ready (rs := [11]) (by kernel_rfl) (by simp) (AllReadyH.cons (o := ⟨_, _, _, _, _, _⟩) rfl (fun K hK => ?_) AllReadyH.nil)
        rewrite [if_pos (wanted_free rfl)]
        with_reducible refine wp_buildLay (.tmp 25) (by with_unfolding_all rfl) x0 x1 (by with_unfolding_all rfl) ?_
        intro w58 hA58 hB58
        have HS58 := Sta.new HS57 hA58 hB58 (by simp [layv])
        clear hA58 hB58
        refine hK.out _ _ trivial (fun hHeld => ?_)
        clear hK K
        try simp only [Act.put, List.setIfInBounds_toArray, List.set_cons_zero, List.set_cons_succ]
        refine wpAnyH_ready (rs := [12]) (by kernel_rfl) (by simp) (AllReadyH.cons (o := ⟨_, _, _, _, _, _⟩) rfl (fun K hK => ?_) AllReadyH.nil)
        rewrite [if_pos (wanted_free rfl)]
        with_reducible refine wp_appendLay (W := w58) (.tmp 16) (.tmp 26) (by with_unfolding_all rfl) w.heap.size (.slice aa na ca) la ⟨x0, x1⟩ (by with_unfolding_all rfl) (Sta.t (i := 0) HS58 rfl) w57.heap.size (by with_unfolding_all rfl) (Sta.r (i := 0) HS58 (by with_unfolding_all rfl)) (by have := HLa.out; omega) (Sta.size HS58) ?_
        intro v59 w59 hO59 hG59 hb59
        obtain ⟨a59, m59, c59, hm59, rfl⟩ := LayO.form hO59
        have HS59 := Sta.app 0 HS58 rfl (Nat.le_refl _) hO59 hG59 hb59
        have Hm59 := hidP hm59
        clear hO59 hG59 hb59 hm59
        refine hK.out _ _ trivial (fun hHeld => ?_)
        clear hK K
        try simp only [Act.put, List.setIfInBounds_toArray, List.set_cons_zero, List.set_cons_succ]
        refine wpAnyH_take (i := 13) (oi := ⟨_, _, _, _, _, _⟩) (v := .pointer (some ⟨w2.heap.size, 1, none⟩)) rfl (by kernel_rfl) (by kernel_rfl) (by kernel_rfl) (fun _ _ _ h => h) (Or.inl ⟨wanted_free rfl, fun w' hSw => ?_⟩) hHeld ?_
        · go_simp
        try simp only [Act.put, List.setIfInBounds_toArray, List.set_cons_zero, List.set_cons_succ]
        refine wpAnyH_ready (rs := [14]) (by kernel_rfl) (by simp) (AllReadyH.cons (o := ⟨_, _, _, _, _, _⟩) rfl (fun K hK => ?_) AllReadyH.nil)
        rewrite [if_pos (wanted_free rfl)]
        with_reducible refine wp_cellO 38 (.tmp 28) (.tmp 27) (by with_unfolding_all rfl) w2.heap.size 1 [.string nm, .slice aa na ca, .slice none 0 0] [.string nm, .slice a59 m59 c59, .slice none 0 0] (.slice a59 m59 c59) (by with_unfolding_all rfl) (by with_unfolding_all rfl) (by with_unfolding_all rfl) Tryd.s1_slimplLayer (Sta.r (i := 1) HS59 (by with_unfolding_all rfl)) (by simp) (by with_unfolding_all rfl) ?_
        intro w60 hA60 hO60
        have HS60 := Sta.put 1 HS59 rfl hA60 (by simp) hO60
        clear hA60 hO60
        refine hK.out _ _ trivial (fun hHeld => ?_)
        clear hK K
        try simp only [Act.put]
        refine wpAnyH_done (by kernel_rfl) ?_ _
        clear hHeld
        go_wp2_with fail
        go_roundw
        case rel => exact ⟨k + 1, q2, a59, m59, c59, (la ++ ([⟨x0, x1⟩] : List LayV)), by go_num, hlt7, hlq2, by show _ = _; rw [List.length_append, HLa.out]; rfl, fun x hx => by rcases List.mem_append.1 hx with hx | hx; exact HWa.out x hx; cases List.mem_singleton.1 hx; exact HXw.out, by show _ = _; rw [hj2]; exact HRn.out, Sta.drop 1 0 HS60⟩
        case measure => simp [intOf]; omega
      · as_aux_lemma =>
        rewrite [if_pos (wanted_free rfl)]
        go_simp
        have n61_0 : RowV w55 g [.string t, .int .i64 (pa : Int)] := (Sta.r (i := 2) HS55 rfl :)
        (with_reducible refine (hC14 w55 pa x0 q1 n61_0 ht1).mono ?_)
        rintro r w61 ⟨rfl, hA61, hO61⟩
        have HS61 := Sta.put 2 HS55 rfl hA61 (by simp) hO61
        clear hA61 hO61
        go_wp2_with fail
        refine hK.out _ _ trivial (fun hHeld => ?_)
        clear hK K
        try simp only [Act.put, List.setIfInBounds_toArray, List.set_cons_zero, List.set_cons_succ]
        refine wpAnyH_ready (rs := [1, 9]) (by kernel_rfl) (by simp) (AllReadyH.cons (o := ⟨_, _, _, _, _, _⟩) rfl (fun K hK => ?_) (AllReadyH.cons (o := ⟨_, _, _, _, _, _⟩) rfl (fun K hK => ?_) AllReadyH.nil))
        · as_aux_lemma =>
          rewrite [if_pos (wanted_free rfl)]
          with_reducible refine wp_load1 38 85 (.tmp 15) (by with_unfolding_all rfl) w2.heap.size 1 (.slice aa na ca) (by with_unfolding_all rfl) (Sta.c (i := 0) HS61 rfl rfl) Tryd.underlying38 ?_
          refine hK.out _ _ trivial (fun hHeld => ?_)
          clear hK K
          try simp only [Act.put, List.setIfInBounds_toArray, List.set_cons_zero, List.set_cons_succ]
          refine wpAnyH_ready (rs := [9]) (by kernel_rfl) (by simp) (AllReadyH.cons (o := ⟨_, _, _, _, _, _⟩) rfl (fun K hK => ?_) AllReadyH.nil)
          rewrite [if_pos (wanted_free rfl)]
          go_simp
          have n62_0 : RowV w61 g [.string t, .int .i64 (q1 : Int)] := (Sta.r (i := 2) HS61 rfl :)
          (with_reducible refine (hC16 w61 q1 x1 q2 n62_0 ht2 hlq).mono ?_)
          rintro r w62 ⟨rfl, hA62, hO62⟩
          have HS62 := Sta.put 2 HS61 rfl hA62 (by simp) hO62
          clear hA62 hO62
          go_wp2_with fail
          refine hK.out _ _ trivial (fun hHeld => ?_)
          clear hK K
          try simp only [Act.put, List.setIfInBounds_toArray, List.set_cons_zero, List.set_cons_succ]
          refine wpAnyH_take (i := 10) (oi := ⟨_, _, _, _, _, _⟩) (v := .agg #[.string x0, .int .i64 x1]) rfl (by kernel_rfl) (by kernel_rfl) (by kernel_rfl) (fun _ _ _ h => h) (Or.inl ⟨wanted_free rfl, fun w' hSw => ?_⟩) hHeld ?_
          · go_simp
          try simp only [Act.put, List.setIfInBounds_toArray, List.set_cons_zero, List.set_cons_succ]
          refine wpAnyH_ready (rs := [11]) (by kernel_rfl) (by simp) (AllReadyH.cons (o := ⟨_, _, _, _, _, _⟩) rfl (fun K hK => ?_) AllReadyH.nil)
          rewrite [if_pos (wanted_free rfl)]
          with_reducible refine wp_buildLay (.tmp 25) (by with_unfolding_all rfl) x0 x1 (by with_unfolding_all rfl) ?_
          intro w63 hA63 hB63
          have HS63 := Sta.new HS62 hA63 hB63 (by simp [layv])
          clear hA63 hB63
          refine hK.out _ _ trivial (fun hHeld => ?_)
          clear hK K
          try simp only [Act.put, List.setIfInBounds_toArray, List.set_cons_zero, List.set_cons_succ]
          refine wpAnyH_ready (rs := [12]) (by kernel_rfl) (by simp) (AllReadyH.cons (o := ⟨_, _, _, _, _, _⟩) rfl (fun K hK => ?_) AllReadyH.nil)
          rewrite [if_pos (wanted_free rfl)]
          with_reducible refine wp_appendLay (W := w63) (.tmp 16) (.tmp 26) (by with_unfolding_all rfl) w.heap.size (.slice aa na ca) la ⟨x0, x1⟩ (by with_unfolding_all rfl) (Sta.t (i := 0) HS63 rfl) w62.heap.size (by with_unfolding_all rfl) (Sta.r (i := 0) HS63 (by with_unfolding_all rfl)) (by have := HLa.out; omega) (Sta.size HS63) ?_
          intro v64 w64 hO64 hG64 hb64
          obtain ⟨a64, m64, c64, hm64, rfl⟩ := LayO.form hO64
          have HS64 := Sta.app 0 HS63 rfl (Nat.le_refl _) hO64 hG64 hb64
          have Hm64 := hidP hm64
          clear hO64 hG64 hb64 hm64
          refine hK.out _ _ trivial (fun hHeld => ?_)
          clear hK K
          try simp only [Act.put, List.setIfInBounds_toArray, List.set_cons_zero, List.set_cons_succ]
          refine wpAnyH_take (i := 13) (oi := ⟨_, _, _, _, _, _⟩) (v := .pointer (some ⟨w2.heap.size, 1, none⟩)) rfl (by kernel_rfl) (by kernel_rfl) (by kernel_rfl) (fun _ _ _ h => h) (Or.inl ⟨wanted_free rfl, fun w' hSw => ?_⟩) hHeld ?_
          · go_simp
          try simp only [Act.put, List.setIfInBounds_toArray, List.set_cons_zero, List.set_cons_succ]
          refine wpAnyH_ready (rs := [14]) (by kernel_rfl) (by simp) (AllReadyH.cons (o := ⟨_, _, _, _, _, _⟩) rfl (fun K hK => ?_) AllReadyH.nil)
          rewrite [if_pos (wanted_free rfl)]
          with_reducible refine wp_cellO 38 (.tmp 28) (.tmp 27) (by with_unfolding_all rfl) w2.heap.size 1 [.string nm, .slice aa na ca, .slice none 0 0] [.string nm, .slice a64 m64 c64, .slice none 0 0] (.slice a64 m64 c64) (by with_unfolding_all rfl) (by with_unfolding_all rfl) (by with_unfolding_all rfl) Tryd.s1_slimplLayer (Sta.r (i := 1) HS64 (by with_unfolding_all rfl)) (by simp) (by with_unfolding_all rfl) ?_
          intro w65 hA65 hO65
          have HS65 := Sta.put 1 HS64 rfl hA65 (by simp) hO65
          clear hA65 hO65
          refine hK.out _ _ trivial (fun hHeld => ?_)
          clear hK K
          try simp only [Act.put]
          refine wpAnyH_done (by kernel_rfl) ?_ _
          clear hHeld
          go_wp2_with fail
          go_roundw
          case rel => exact ⟨k + 1, q2, a64, m64, c64, (la ++ ([⟨x0, x1⟩] : List LayV)), by go_num, hlt7, hlq2, by show _ = _; rw [List.length_append, HLa.out]; rfl, fun x hx => by rcases List.mem_append.1 hx with hx | hx; exact HWa.out x hx; cases List.mem_singleton.1 hx; exact HXw.out, by show _ = _; rw [hj2]; exact HRn.out, Sta.drop 1 0 HS65⟩
          case measure => simp [intOf]; omega
        · as_aux_lemma =>
          rewrite [if_pos (wanted_free rfl)]
          go_simp
          have n66_0 : RowV w61 g [.string t, .int .i64 (q1 : Int)] := (Sta.r (i := 2) HS61 rfl :)
          (with_reducible refine (hC16 w61 q1 x1 q2 n66_0 ht2 hlq).mono ?_)
          rintro r w66 ⟨rfl, hA66, hO66⟩
          have HS66 := Sta.put 2 HS61 rfl hA66 (by simp) hO66
          clear hA66 hO66
          go_wp2_with fail
          refine hK.out _ _ trivial (fun hHeld => ?_)
          clear hK K
          try simp only [Act.put, List.setIfInBounds_toArray, List.set_cons_zero, List.set_cons_succ]
          refine wpAnyH_take (i := 10) (oi := ⟨_, _, _, _, _, _⟩) (v := .agg #[.string x0, .int .i64 x1]) rfl (by kernel_rfl) (by kernel_rfl) (by kernel_rfl) (fun _ _ _ h => h) (Or.inl ⟨wanted_free rfl, fun w' hSw => ?_⟩) hHeld ?_
          · go_simp
          try simp only [Act.put, List.setIfInBounds_toArray, List.set_cons_zero, List.set_cons_succ]
          refine wpAnyH_ready (rs := [1, 11]) (by kernel_rfl) (by simp) (AllReadyH.cons (o := ⟨_, _, _, _, _, _⟩) rfl (fun K hK => ?_) (AllReadyH.cons (o := ⟨_, _, _, _, _, _⟩) rfl (fun K hK => ?_) AllReadyH.nil))
          · as_aux_lemma =>
            rewrite [if_pos (wanted_free rfl)]
            with_reducible refine wp_load1 38 85 (.tmp 15) (by with_unfolding_all rfl) w2.heap.size 1 (.slice aa na ca) (by with_unfolding_all rfl) (Sta.c (i := 0) HS66 rfl rfl) Tryd.underlying38 ?_
            refine hK.out _ _ trivial (fun hHeld => ?_)
            clear hK K
            try simp only [Act.put, List.setIfInBounds_toArray, List.set_cons_zero, List.set_cons_succ]
            refine wpAnyH_ready (rs := [11]) (by kernel_rfl) (by simp) (AllReadyH.cons (o := ⟨_, _, _, _, _, _⟩) rfl (fun K hK => ?_) AllReadyH.nil)
            rewrite [if_pos (wanted_free rfl)]
            with_reducible refine wp_buildLay (.tmp 25) (by with_unfolding_all rfl) x0 x1 (by with_unfolding_all rfl) ?_
            intro w67 hA67 hB67
            have HS67 := Sta.new HS66 hA67 hB67 (by simp [layv])
            clear hA67 hB67
            refine hK.out _ _ trivial (fun hHeld => ?_)
            clear hK K
            try simp only [Act.put, List.setIfInBounds_toArray, List.set_cons_zero, List.set_cons_succ]
            refine wpAnyH_ready (rs := [12]) (by kernel_rfl) (by simp) (AllReadyH.cons (o := ⟨_, _, _, _, _, _⟩) rfl (fun K hK => ?_) AllReadyH.nil)
            rewrite [if_pos (wanted_free rfl)]
            with_reducible refine wp_appendLay (W := w67) (.tmp 16) (.tmp 26) (by with_unfolding_all rfl) w.heap.size (.slice aa na ca) la ⟨x0, x1⟩ (by with_unfolding_all rfl) (Sta.t (i := 0) HS67 rfl) w66.heap.size (by with_unfolding_all rfl) (Sta.r (i := 0) HS67 (by with_unfolding_all rfl)) (by have := HLa.out; omega) (Sta.size HS67) ?_
            intro v68 w68 hO68 hG68 hb68
            obtain ⟨a68, m68, c68, hm68, rfl⟩ := LayO.form hO68
            have HS68 := Sta.app 0 HS67 rfl (Nat.le_refl _) hO68 hG68 hb68
            have Hm68 := hidP hm68
            clear hO68 hG68 hb68 hm68
            refine hK.out _ _ trivial (fun hHeld => ?_)
            clear hK K
            try simp only [Act.put, List.setIfInBounds_toArray, List.set_cons_zero, List.set_cons_succ]
            refine wpAnyH_take (i := 13) (oi := ⟨_, _, _, _, _, _⟩) (v := .pointer (some ⟨w2.heap.size, 1, none⟩)) rfl (by kernel_rfl) (by kernel_rfl) (by kernel_rfl) (fun _ _ _ h => h) (Or.inl ⟨wanted_free rfl, fun w' hSw => ?_⟩) hHeld ?_
            · go_simp
            try simp only [Act.put, List.setIfInBounds_toArray, List.set_cons_zero, List.set_cons_succ]
            refine wpAnyH_ready (rs := [14]) (by kernel_rfl) (by simp) (AllReadyH.cons (o := ⟨_, _, _, _, _, _⟩) rfl (fun K hK => ?_) AllReadyH.nil)
            rewrite [if_pos (wanted_free rfl)]
            with_reducible refine wp_cellO 38 (.tmp 28) (.tmp 27) (by with_unfolding_all rfl) w2.heap.size 1 [.string nm, .slice aa na ca, .slice none 0 0] [.string nm, .slice a68 m68 c68, .slice none 0 0] (.slice a68 m68 c68) (by with_unfolding_all rfl) (by with_unfolding_all rfl) (by with_unfolding_all rfl) Tryd.s1_slimplLayer (Sta.r (i := 1) HS68 (by with_unfolding_all rfl)) (by simp) (by with_unfolding_all rfl) ?_
            intro w69 hA69 hO69
            have HS69 := Sta.put 1 HS68 rfl hA69 (by simp) hO69
            clear hA69 hO69
            refine hK.out _ _ trivial (fun hHeld => ?_)
            clear hK K
            try simp only [Act.put]
            refine wpAnyH_done (by kernel_rfl) ?_ _
            clear hHeld
            go_wp2_with fail
            go_roundw
            case rel => exact ⟨k + 1, q2, a68, m68, c68, (la ++ ([⟨x0, x1⟩] : List LayV)), by go_num, hlt7, hlq2, by show _ = _; rw [List.length_append, HLa.out]; rfl, fun x hx => by rcases List.mem_append.1 hx with hx | hx; exact HWa.out x hx; cases List.mem_singleton.1 hx; exact HXw.out, by show _ = _; rw [hj2]; exact HRn.out, Sta.drop 1 0 HS69⟩
            case measure => simp [intOf]; omega
          · as_aux_lemma =>
            rewrite [if_pos (wanted_free rfl)]
            with_reducible refine wp_buildLay (.tmp 25) (by with_unfolding_all rfl) x0 x1 (by with_unfolding_all rfl) ?_
            intro w70 hA70 hB70
            have HS70 := Sta.new HS66 hA70 hB70 (by simp [layv])
            clear hA70 hB70
            refine hK.out _ _ trivial (fun hHeld => ?_)
            clear hK K
            try simp only [Act.put, List.setIfInBounds_toArray, List.set_cons_zero, List.set_cons_succ]
            refine wpAnyH_ready (rs := [1]) (by kernel_rfl) (by simp) (AllReadyH.cons (o := ⟨_, _, _, _, _, _⟩) rfl (fun K hK => ?_) AllReadyH.nil)
            rewrite [if_pos (wanted_free rfl)]
            with_reducible refine wp_load1 38 85 (.tmp 15) (by with_unfolding_all rfl) w2.heap.size 1 (.slice aa na ca) (by with_unfolding_all rfl) (Sta.c (i := 1) HS70 rfl rfl) Tryd.underlying38 ?_
            refine hK.out _ _ trivial (fun hHeld => ?_)
            clear hK K
            try simp only [Act.put, List.setIfInBounds_toArray, List.set_cons_zero, List.set_cons_succ]
            refine wpAnyH_ready (rs := [12]) (by kernel_rfl) (by simp) (AllReadyH.cons (o := ⟨_, _, _, _, _, _⟩) rfl (fun K hK => ?_) AllReadyH.nil)
            rewrite [if_pos (wanted_free rfl)]
            with_reducible refine wp_appendLay (W := w70) (.tmp 16) (.tmp 26) (by with_unfolding_all rfl) w.heap.size (.slice aa na ca) la ⟨x0, x1⟩ (by with_unfolding_all rfl) (Sta.t (i := 0) HS70 rfl) w66.heap.size (by with_unfolding_all rfl) (Sta.r (i := 0) HS70 (by with_unfolding_all rfl)) (by have := HLa.out; omega) (Sta.size HS70) ?_
            intro v71 w71 hO71 hG71 hb71
            obtain ⟨a71, m71, c71, hm71, rfl⟩ := LayO.form hO71
            have HS71 := Sta.app 0 HS70 rfl (Nat.le_refl _) hO71 hG71 hb71
            have Hm71 := hidP hm71
            clear hO71 hG71 hb71 hm71
            refine hK.out _ _ trivial (fun hHeld => ?_)
            clear hK K
            try simp only [Act.put, List.setIfInBounds_toArray, List.set_cons_zero, List.set_cons_succ]
            refine wpAnyH_take (i := 13) (oi := ⟨_, _, _, _, _, _⟩) (v := .pointer (some ⟨w2.heap.size, 1, none⟩)) rfl (by kernel_rfl) (by kernel_rfl) (by kernel_rfl) (fun _ _ _ h => h) (Or.inl ⟨wanted_free rfl, fun w' hSw => ?_⟩) hHeld ?_
            · go_simp
            try simp only [Act.put, List.setIfInBounds_toArray, List.set_cons_zero, List.set_cons_succ]
            refine wpAnyH_ready (rs := [14]) (by kernel_rfl) (by simp) (AllReadyH.cons (o := ⟨_, _, _, _, _, _⟩) rfl (fun K hK => ?_) AllReadyH.nil)
            rewrite [if_pos (wanted_free rfl)]
            with_reducible refine wp_cellO 38 (.tmp 28) (.tmp 27) (by with_unfolding_all rfl) w2.heap.size 1 [.string nm, .slice aa na ca, .slice none 0 0] [.string nm, .slice a71 m71 c71, .slice none 0 0] (.slice a71 m71 c71) (by with_unfolding_all rfl) (by with_unfolding_all rfl) (by with_unfolding_all rfl) Tryd.s1_slimplLayer (Sta.r (i := 1) HS71 (by with_unfolding_all rfl)) (by simp) (by with_unfolding_all rfl) ?_
            intro w72 hA72 hO72
            have HS72 := Sta.put 1 HS71 rfl hA72 (by simp) hO72
            clear hA72 hO72
            refine hK.out _ _ trivial (fun hHeld => ?_)
            clear hK K
            try simp only [Act.put]
            refine wpAnyH_done (by kernel_rfl) ?_ _
            clear hHeld
            go_wp2_with fail
            go_roundw
            case rel => exact ⟨k + 1, q2, a71, m71, c71, (la ++ ([⟨x0, x1⟩] : List LayV)), by go_num, hlt7, hlq2, by show _ = _; rw [List.length_append, HLa.out]; rfl, fun x hx => by rcases List.mem_append.1 hx with hx | hx; exact HWa.out x hx; cases List.mem_singleton.1 hx; exact HXw.out, by show _ = _; rw [hj2]; exact HRn.out, Sta.drop 1 0 HS72⟩
            case measure => simp [intOf]; omega
end Go.Proofs.YtchfpiadfmnphaaDoor
namespace Go.Proofs.YtchfpiadfmnphaaDoor
open Go.RowKit
set_option linter.unusedVariables false

theorem mdI (g p : Nat) (t : ByteArray) (w : World) (hs : t.size ≤ maxLen) (hp : p ≤ t.size) (h : RowV w g (cuv t p)) :
    Calls Tryd.prog 53 #[.pointer (some ⟨g, 0, none⟩)] w (ManT t g (manO t p) w) := by
  cases h1 : textO t p with
  | none => exact mdN0 g p t _ w hs hp (by show _ = _; unfold manO; rw [h1]) h1 h
  | some y1 =>
  obtain ⟨nm, b1⟩ := y1
  have l1 := (textO_some h1).2.1
  cases h2 : countO t b1 10 with
  | none => exact mdN1 g p t _ nm b1 w hs hp (by show _ = _; unfold manO; rw [h1]; simp only; rw [h2]) h1 l1 h2 h
  | some y2 =>
  obtain ⟨k, b2⟩ := y2
  exact mdY g p t _ nm b1 k b2 w hs hp (by show _ = _; unfold manO; rw [h1]; simp only; rw [h2]) h1 l1 h2 (countO_le h2).2 (countO_le h2).1 h
def ManB (a1 a2 : Option Addr) (lo hi : Nat) : Prop := (∀ ad, a1 = some ad → lo ≤ ad.block ∧ ad.block < hi) ∧ (∀ ad, a2 = some ad → lo ≤ ad.block ∧ ad.block < hi) ∧ (∀ x y, a1 = some x → a2 = some y → x.block ≠ y.block)
theorem ManB.mono {a1 a2 : Option Addr} {a b c d : Nat} (h : ManB a1 a2 a b) (h1 : c ≤ a) (h2 : ∀ k, a ≤ k → k < b → k < d) : ManB a1 a2 c d := ⟨fun ad e => ⟨Nat.le_trans h1 (h.1 ad e).1, h2 _ (h.1 ad e).1 (h.1 ad e).2⟩, fun ad e => ⟨Nat.le_trans h1 (h.2.1 ad e).1, h2 _ (h.2.1 ad e).1 (h.2.1 ad e).2⟩, h.2.2⟩
theorem ManB.nil (a b : Nat) : ManB none none a b := ⟨fun _ e => (by cases e), fun _ e => (by cases e), fun _ _ e => (by cases e)⟩
theorem rmAll (t : ByteArray) (w : World) (hs : t.size ≤ maxLen) :
    Calls Tryd.prog 52 #[.string t, .string ⟨#[73]⟩, .func (.func 53) #[] #[]] w fun e w' => ∃ (nm : ByteArray) (ls : List LayV) (bs : List LabV) (a1 : Option Addr) (n1 c1 : Nat) (a2 : Option Addr) (n2 c2 : Nat) (c : Int), e = .returned (.tuple #[.agg #[.string nm, .slice a1 n1 c1, .slice a2 n2 c2], .int .i64 c]) ∧ MnAns t nm ls bs c ∧ (n1 = ls.length ∧ n2 = bs.length) ∧ ManB a1 a2 w.heap.size w'.heap.size ∧ Made w w' (fun w2 => VR w2 a1 (layL ls).flatten ∧ VR w2 a2 (labL bs).flatten) ∧ Below w.heap.size w w' := by
  have nil : ∀ w', Made w w' (fun w2 => VR w2 none (layL []).flatten ∧ VR w2 none (labL []).flatten) := fun w' w2 _ => ⟨fun h => absurd rfl h, fun h => absurd rfl h⟩
  by_cases hbig : 20000 < t.size
  · refine (rmBig t _ _ w hs hbig).mono ?_
    rintro r w' ⟨rfl, hB⟩
    exact ⟨⟨#[]⟩, [], [], none, 0, 0, none, 0, 0, 2, rfl, Or.inl ⟨hbig, rfl, rfl, rfl, rfl⟩, ⟨rfl, rfl⟩, ManB.nil _ _, nil w', hB⟩
  have hs2 : t.size ≤ 20000 := by omega
  have bad : (¬ ∃ nm ls bs, ManOkT t nm ls bs) → Calls Tryd.prog 52 #[.string t, .string ⟨#[73]⟩, .func (.func 53) #[] #[]] w (fun e w' => e = .returned (.tuple #[.agg #[.string ⟨#[]⟩, .slice none 0 0, .slice none 0 0], .int .i64 3]) ∧ Below w.heap.size w w') → Calls Tryd.prog 52 #[.string t, .string ⟨#[73]⟩, .func (.func 53) #[] #[]] w (fun e w' => ∃ (nm : ByteArray) (ls : List LayV) (bs : List LabV) (a1 : Option Addr) (n1 c1 : Nat) (a2 : Option Addr) (n2 c2 : Nat) (c : Int), e = .returned (.tuple #[.agg #[.string nm, .slice a1 n1 c1, .slice a2 n2 c2], .int .i64 c]) ∧ MnAns t nm ls bs c ∧ (n1 = ls.length ∧ n2 = bs.length) ∧ ManB a1 a2 w.heap.size w'.heap.size ∧ Made w w' (fun w2 => VR w2 a1 (layL ls).flatten ∧ VR w2 a2 (labL bs).flatten) ∧ Below w.heap.size w w') := fun hn hc => hc.mono (by
    rintro r w' ⟨rfl, hB⟩
    exact ⟨⟨#[]⟩, [], [], none, 0, 0, none, 0, 0, 3, rfl, Or.inr (Or.inr ⟨hs2, hn, rfl, rfl, rfl, rfl⟩), ⟨rfl, rfl⟩, ManB.nil _ _, nil w', hB⟩)
  by_cases hf : FirstB t 73
  case neg =>
    refine bad ?_ (rmPassNo t _ w hs2 (fun g w0 h0 => passNo g t 73 w0 hs hf h0))
    rintro ⟨_, _, _, k1, _⟩
    exact hf k1
  have hP : ∀ g w0, RowV w0 g (cuv t 0) → Calls Tryd.prog 77 #[.pointer (some ⟨g, 0, none⟩), .string ⟨#[73]⟩] w0 fun e w' => e = .returned (.tuple #[]) ∧ RowV w' g (cuv t 1) ∧ Only g w0 w' := fun g w0 h0 => passYes g t 73 w0 hs hf h0
  cases ho : manO t 1 with
  | none =>
    refine bad ?_ (rmReadNo t _ w hs2 hP (fun g w0 h0 => ?_))
    · rintro ⟨_, _, _, _, q, k1, _⟩
      rw [ho] at k1; cases k1
    · refine (mdI g 1 t w0 hs hf.1 h0).mono ?_
      rintro r w' (⟨nm, ls, bs, q, L, e1, _⟩ | ⟨_, e2, e3⟩)
      · rw [ho] at e1; cases e1
      · exact ⟨e2, e3⟩
  | some y =>
  obtain ⟨nm, ls, bs, q⟩ := y
  have hY : ∀ g w0, RowV w0 g (cuv t 1) → Calls Tryd.prog 53 #[.pointer (some ⟨g, 0, none⟩)] w0 fun r w' => ∃ L, r = .returned (.agg L.toArray) ∧ L.length = 3 ∧ L.all Value.oneCell' = true ∧ ManF L w0.heap.size w'.heap.size ∧ RowV w' g (cuv t q) ∧ Only g w0 w' ∧ Made w0 w' (ManQ nm ls bs L) := fun g w0 h0 => by
    refine (mdI g 1 t w0 hs hf.1 h0).mono ?_
    rintro r w' (⟨nm', ls', bs', q', L, e1, e2, e3, e4, e5, e6, e7, e8, e9, e10⟩ | ⟨e1, _⟩)
    · rw [ho] at e1
      injection e1 with e1
      injection e1 with f1 e1
      injection e1 with f2 e1
      injection e1 with f3 f4
      subst f1 f2 f3 f4
      exact ⟨L, e2, e3, e4, e5, e8, e9, e10⟩
    · rw [ho] at e1; cases e1
  by_cases hq : q = t.size
  · refine (rmYes t _ w hs2 hP (ManQ nm ls bs) ManF (fun L a b c d h h1 h2 => h.mono h1 h2) q hY hq).mono ?_
    rintro r w' ⟨L, rfl, h1, h2, ⟨nm', a1, n1, c1, a2, n2, c2, rfl, f1, f2, f3⟩, hM, hB⟩
    obtain ⟨b1, d1, b2, d2, e, _⟩ := hM.now
    injection e with e0 e
    injection e with e1 e
    injection e with e2 e
    injection e0 with e0
    injection e1 with g1 g2 g3
    injection e2 with g4 g5 g6
    subst e0 g2 g5
    refine ⟨nm', ls, bs, a1, _, c1, a2, _, c2, 0, rfl, Or.inr (Or.inl ⟨hs2, ⟨hf, q, ho, hq⟩, rfl⟩), ⟨rfl, rfl⟩, ⟨f1, f2, f3⟩, hM.imp fun w2 h2 => ?_, hB⟩
    obtain ⟨b1, d1, b2, d2, e, v1, v2⟩ := h2
    injection e with e0 e
    injection e with e1 e
    injection e with e2 e
    injection e1 with g1 g2 g3
    injection e2 with g4 g5 g6
    subst g1 g4
    exact ⟨v1, v2⟩
  · refine bad ?_ (rmEndNo t _ w hs2 hP (ManQ nm ls bs) ManF (fun L a b c d h h1 h2 => h.mono h1 h2) q hY (manO_le ho).1 hq)
    rintro ⟨_, _, _, _, q', k1, k2⟩
    rw [ho] at k1
    injection k1 with k1
    injection k1 with _ k1
    injection k1 with _ k1
    injection k1 with _ f3
    subst f3
    exact hq k2
set_option maxRecDepth 100000 in
set_option maxHeartbeats 4000000 in
theorem implManRd (t : ByteArray) (w : World) (hs : t.size ≤ maxLen) :
    Calls Tryd.prog 36 #[.string t] w fun r w' => ∃ (nm : ByteArray) (ls : List LayV) (bs : List LabV) (a1 : Option Addr) (n1 c1 : Nat) (a2 : Option Addr) (n2 c2 : Nat) (c : Int), r = .returned (.agg #[.string nm, .slice a1 n1 c1, .slice a2 n2 c2, .int .i64 c]) ∧ MnAns t nm ls bs c ∧ (n1 = ls.length ∧ n2 = bs.length) ∧ ManB a1 a2 w.heap.size w'.heap.size ∧ Made w w' (fun w2 => VR w2 a1 (layL ls).flatten ∧ VR w2 a2 (labL bs).flatten) ∧ Below w.heap.size w w' := by
  have hC1 : ∀ w0, Calls Tryd.prog 52 #[.string t, .string ⟨#[73]⟩, .func (.func 53) #[] #[]] w0 fun r w' => ∃ (nm : ByteArray) (ls : List LayV) (bs : List LabV) (a1 : Option Addr) (y1 : Nat) (c1 : Nat) (a2 : Option Addr) (y2 : Nat) (c2 : Nat) (c : Int), r = .returned (.tuple #[.agg #[.string nm, .slice a1 y1 c1, .slice a2 y2 c2], .int .i64 c]) ∧ MnAns t nm ls bs c ∧ (y1 = ls.length ∧ y2 = bs.length) ∧ ManB a1 a2 w0.heap.size w'.heap.size ∧ Made w0 w' (fun w2 => VR w2 a1 (layL ls).flatten ∧ VR w2 a2 (labL bs).flatten) ∧ Below w0.heap.size w0 w' := fun w0 => rmAll t w0 hs
  have HS0 : Hid (Sta [] w [] [] w) := Sta.start w
  clear hs
  go_enter Tryd.func36, Tryd.ntmps36
  go_wp2_with (first
    | ((with_reducible refine wpList_allocV (w := w) (by with_unfolding_all rfl) 60 (by with_unfolding_all rfl) [.string ⟨#[]⟩, .slice none 0 0, .slice none 0 0, .int .i64 0] Tryd.zT_implManifestOut ?_); intro w1 hA1 hB1 hS1; clear hS1; have HS1 := Sta.new HS0 hA1 hB1 (by simp); clear hA1 hB1)
    | (go_at_call 52; (with_reducible refine (hC1 w1).mono ?_); rintro r w2 ⟨nm, ls, bs, a1, y1, c1, a2, y2, c2, c, rfl, an, ln, bn, hP2, hB2⟩; have Han := hidP an; clear an; have Hln := hidP ln; clear ln; have Hbn := hidP bn; clear bn; have HS2 := Sta.made HS1 hB2 hP2; clear hB2 hP2)
    | ((with_reducible refine wpList_allocV (w := w2) (by with_unfolding_all rfl) 41 (by with_unfolding_all rfl) [.string ⟨#[]⟩, .slice none 0 0, .slice none 0 0] Tryd.zT_implManifest ?_); intro w3 hA3 hB3 hS3; clear hS3; have HS3 := Sta.new HS2 hA3 hB3 (by simp); clear hA3 hB3)
    | ((with_reducible refine wpList_storeS (w := w3) (by with_unfolding_all rfl) 41 (.tmp 3) (.tmp 8) (by with_unfolding_all rfl) w2.heap.size [.string ⟨#[]⟩, .slice none 0 0, .slice none 0 0] [.string nm, .slice a1 y1 c1, .slice a2 y2 c2] (by with_unfolding_all rfl) (by with_unfolding_all rfl) (Sta.r (i := 0) HS3 (by with_unfolding_all rfl)) 3 Tryd.sT_implManifest (by with_unfolding_all rfl) (by with_unfolding_all rfl) (by with_unfolding_all rfl) ?_); intro w4 hA4 hO4; have HS4 := Sta.put 0 HS3 rfl hA4 (by simp) hO4; clear hA4 hO4)
    | ((with_reducible refine wpList_loadV (w := w4) (by with_unfolding_all rfl) 41 (.tmp 3) (by with_unfolding_all rfl) w2.heap.size [.string nm, .slice a1 y1 c1, .slice a2 y2 c2] (by with_unfolding_all rfl) (Sta.r (i := 0) HS4 (by with_unfolding_all rfl)) Tryd.uT_implManifest 3 Tryd.sT_implManifest (by with_unfolding_all rfl) ?_))
    | ((with_reducible refine wpList_storeS (w := w4) (by with_unfolding_all rfl) 60 (.tmp 2) (.tmp 12) (by with_unfolding_all rfl) w.heap.size [.string ⟨#[]⟩, .slice none 0 0, .slice none 0 0, .int .i64 0] [.string nm, .slice a1 y1 c1, .slice a2 y2 c2, .int .i64 c] (by with_unfolding_all rfl) (by with_unfolding_all rfl) (Sta.r (i := 1) HS4 (by with_unfolding_all rfl)) 4 Tryd.sT_implManifestOut (by with_unfolding_all rfl) (by with_unfolding_all rfl) (by with_unfolding_all rfl) ?_); intro w5 hA5 hO5; have HS5 := Sta.put 1 HS4 rfl hA5 (by simp) hO5; clear hA5 hO5))
  exact bodyPost_ret (results_V (t := 60) rfl _ w.heap.size [.string nm, .slice a1 y1 c1, .slice a2 y2 c2, .int .i64 c] rfl (Sta.r (i := 1) HS5 (by with_unfolding_all rfl)) Tryd.uT_implManifestOut 4 Tryd.sT_implManifestOut rfl) rfl ⟨nm, ls, bs, a1, y1, c1, a2, y2, c2, c, rfl, Han.out, Hln.out, ManB.mono Hbn.out (Sta.size HS1) (fun k h1 h2 => Sta.lt (i := 0) HS5 rfl k ⟨h1, h2⟩), Sta.made_of (i := 0) HS5 rfl (fun k hk => Nat.le_trans (Sta.size HS1) hk.1), Sta.fin HS5⟩
end Go.Proofs.YtchfpiadfmnphaaDoor
namespace Go.Proofs.YtchfpiadfmnphaaDoor
open Go.RowKit
set_option linter.unusedVariables false

theorem Made.and {w0 w' : World} {P Q : World → Prop} (h : Made w0 w' P) (k : Made w0 w' Q) : Made w0 w' (fun w => P w ∧ Q w) := fun w2 hw => ⟨h w2 hw, k w2 hw⟩
set_option maxRecDepth 100000 in
set_option maxHeartbeats 2000000 in
theorem eqMan (nm : ByteArray) (a1 b1 : Option Addr) (c1 d1 y1 : Nat) (ls : List LayV) (a2 b2 : Option Addr) (c2 d2 y2 : Nat) (bs : List LabV) (w : World) (h1 : ls.length = y1) (h2 : LayAt w a1 ls) (h2b : LayAt w b1 ls) (h3 : y1 ≤ maxLen) (h5 : bs.length = y2) (h6 : LabAt w a2 bs) (h6b : LabAt w b2 bs) (h7 : y2 ≤ maxLen) :
    Calls Tryd.prog 38 #[.agg #[.string nm, .slice a1 y1 c1, .slice a2 y2 c2], .agg #[.string nm, .slice b1 y1 d1, .slice b2 y2 d2]] w fun r w' => r = .returned (.bool true) ∧ Below w.heap.size w w' := by
  have ht := txt_eq nm
  have hC1 : ∀ w0, (LayAt w0 a1 ls) → (LayAt w0 b1 ls) → Calls Tryd.prog 54 #[.slice a1 y1 c1, .slice b1 y1 d1] w0 fun r w' => r = .returned (.bool true) ∧ Below w0.heap.size w0 w' := fun w0 n0 n1 => eqLayS a1 b1 c1 d1 y1 ls w0 h1 n0 n1 h3
  have hC2 : ∀ w0, (LabAt w0 a2 bs) → (LabAt w0 b2 bs) → Calls Tryd.prog 55 #[.slice a2 y2 c2, .slice b2 y2 d2] w0 fun r w' => r = .returned (.bool true) ∧ Below w0.heap.size w0 w' := fun w0 n0 n1 => eqLabS a2 b2 c2 d2 y2 bs w0 h5 n0 n1 h7
  have HS0 : Hid (Sta [] w [] [⟨fun k => k < w.heap.size, fun w' => LayAt w' a1 ls ∧ LayAt w' b1 ls ∧ LabAt w' a2 bs ∧ LabAt w' b2 bs⟩] w) := Sta.arg (fun w' => LayAt w' a1 ls ∧ LayAt w' b1 ls ∧ LabAt w' a2 bs ∧ LabAt w' b2 bs) (fun w' hb => ⟨h2.below hb, h2b.below hb, h6.below hb, h6b.below hb⟩)
  clear h1 h2 h2b h5 h6 h6b
  go_enter Tryd.func38, Tryd.ntmps38
  go_wp2_with (first
    | ((with_reducible refine wpList_boxV (w := w) (by with_unfolding_all rfl) 41 (.tmp 0) (by with_unfolding_all rfl) [.string nm, .slice a1 y1 c1, .slice a2 y2 c2] (by with_unfolding_all rfl) ?_); intro w1 hA1 hB1 hS1; clear hS1; have HS1 := Sta.new HS0 hA1 hB1 (by simp); clear hA1 hB1)
    | ((with_reducible refine wpList_boxV (w := w1) (by with_unfolding_all rfl) 41 (.tmp 1) (by with_unfolding_all rfl) [.string nm, .slice b1 y1 d1, .slice b2 y2 d2] (by with_unfolding_all rfl) ?_); intro w2 hA2 hB2 hS2; clear hS2; have HS2 := Sta.new HS1 hA2 hB2 (by simp); clear hA2 hB2; have cHS2_1_0 : w2.cell? ⟨w.heap.size, 0, none⟩ = some (.string nm) := Sta.c (i := 1) HS2 rfl rfl; have cHS2_0_0 : w2.cell? ⟨w1.heap.size, 0, none⟩ = some (.string nm) := Sta.c (i := 0) HS2 rfl rfl; have cHS2_1_1 : w2.cell? ⟨w.heap.size, 1, none⟩ = some (.slice a1 y1 c1) := Sta.c (i := 1) HS2 rfl rfl; have cHS2_0_1 : w2.cell? ⟨w1.heap.size, 1, none⟩ = some (.slice b1 y1 d1) := Sta.c (i := 0) HS2 rfl rfl)
    | (go_at_call 54; have n3_0 : LayAt w2 a1 ls := (Sta.t (i := 0) HS2 rfl :).1; have n3_1 : LayAt w2 b1 ls := (Sta.t (i := 0) HS2 rfl :).2.1; (with_reducible refine (hC1 w2 n3_0 n3_1).mono ?_); rintro r w3 ⟨rfl, hB3⟩; have HS3 := Sta.call HS2 hB3; clear hB3; clear cHS2_1_0 cHS2_0_0 cHS2_1_1 cHS2_0_1; have cHS3_1_2 : w3.cell? ⟨w.heap.size, 2, none⟩ = some (.slice a2 y2 c2) := Sta.c (i := 1) HS3 rfl rfl; have cHS3_0_2 : w3.cell? ⟨w1.heap.size, 2, none⟩ = some (.slice b2 y2 d2) := Sta.c (i := 0) HS3 rfl rfl)
    | (go_at_call 55; have n4_0 : LabAt w3 a2 bs := (Sta.t (i := 0) HS3 rfl :).2.2.1; have n4_1 : LabAt w3 b2 bs := (Sta.t (i := 0) HS3 rfl :).2.2.2; (with_reducible refine (hC2 w3 n4_0 n4_1).mono ?_); rintro r w4 ⟨rfl, hB4⟩; have HS4 := Sta.call HS3 hB4; clear hB4; clear cHS3_1_2 cHS3_0_2))
  go_ret
  exact ⟨rfl, Sta.fin HS4⟩
end Go.Proofs.YtchfpiadfmnphaaDoor
namespace Go.Proofs.YtchfpiadfmnphaaDoor
open Go.RowKit
set_option linter.unusedVariables false

/- Blocks of the rows of a manifest. -/
def ManD (a1 a2 : Option Addr) (k : Nat) : Prop := (∃ ad, a1 = some ad ∧ k = ad.block) ∨ (∃ ad, a2 = some ad ∧ k = ad.block)
theorem VR.farM {T : Nat → Prop} {w w' : World} {a : Option Addr} {L : List Value} (h : VR w a L) (hm : Mrk T w w') (hd : ∀ ad, a = some ad → ¬ T ad.block) : VR w' a L := fun hl => by
  obtain ⟨g, e, hr⟩ := h hl
  exact ⟨g, e, row_blk hr (hm.blk g (hr.lt hl) (hd _ e))⟩
theorem ManB.dom {a1 a2 : Option Addr} {lo hi : Nat} (h : ManB a1 a2 lo hi) : ∀ b, ManD a1 a2 b → lo ≤ b ∧ b < hi := fun b hb => by
  rcases hb with ⟨ad, e, rfl⟩ | ⟨ad, e, rfl⟩
  · exact h.1 ad e
  · exact h.2.1 ad e
theorem layL_flat (l : List LayV) : (layL l).flatten.length = 2 * l.length := by rw [flatS_len _ (layL_all l), layL_len, Nat.mul_comm]
theorem labL_flat (l : List LabV) : (labL l).flatten.length = 2 * l.length := by rw [flatS_len _ (labL_all l), labL_len, Nat.mul_comm]
set_option maxRecDepth 100000 in
set_option maxHeartbeats 2000000 in
theorem markMan_any (nm : ByteArray) (a1 : Option Addr) (c1 y1 : Nat) (a2 : Option Addr) (c2 y2 : Nat) (L1 L2 : List Value) (k0 : Nat) (w : World) (hL1 : L1.length = 2 * y1) (hL2 : L2.length = 2 * y2) (h1 : VR w a1 L1) (h2 : VR w a2 L2) (hap : ∀ x y, a1 = some x → a2 = some y → x.block ≠ y.block) (hb1 : ∀ ad, a1 = some ad → ad.block < w.heap.size) (hb2 : ∀ ad, a2 = some ad → ad.block < w.heap.size) (hy1 : y1 ≤ 1100000) (hy2 : y2 ≤ 1100000) (h0 : 1 ≤ k0) (hk : k0 ≤ 800000000) :
    Calls Tryd.prog 39 #[.agg #[.string nm, .slice a1 y1 c1, .slice a2 y2 c2], .int .i64 (k0 : Int)] w fun r w' => ∃ z : Nat, r = .returned (.int .i64 (z : Int)) ∧ (z = k0 + 2 * y1 + 2 * y2) ∧ (VR w' a1 (mkLayC k0 (2 * y1)) ∧ VR w' a2 (mkLabC (k0 + 2 * y1) (2 * y2))) ∧ Mrk (ManD a1 a2) w w' := by
  have hC1 : ∀ w0, VR w0 a1 L1 → Calls Tryd.prog 56 #[.slice a1 y1 c1, .int .i64 (k0 : Int)] w0 fun r w' => ∃ z : Nat, r = .returned (.int .i64 (z : Int)) ∧ (z = k0 + 2 * y1) ∧ VR w' a1 (mkLayC k0 (2 * y1)) ∧ MkW a1 w0 w' ∧ w0.heap.size ≤ w'.heap.size := fun w0 n0 => (markLayS_any a1 c1 y1 k0 L1 w0 hL1 n0 hy1 h0 (by omega)).mono fun r w' h => ⟨_, h.1, rfl, h.2⟩
  have hC2 : ∀ w0 (z1 : Nat), VR w0 a2 L2 → z1 = k0 + 2 * y1 → Calls Tryd.prog 57 #[.slice a2 y2 c2, .int .i64 (z1 : Int)] w0 fun r w' => ∃ z : Nat, r = .returned (.int .i64 (z : Int)) ∧ (z = k0 + 2 * y1 + 2 * y2) ∧ VR w' a2 (mkLabC (k0 + 2 * y1) (2 * y2)) ∧ MkW a2 w0 w' ∧ w0.heap.size ≤ w'.heap.size := fun w0 z1 n0 e => by subst e; exact (markLabS_any a2 c2 y2 (k0 + 2 * y1) L2 w0 hL2 n0 hy2 (by omega) (by omega)).mono fun r w' h => ⟨_, h.1, rfl, h.2⟩
  have H1 := hidP h1
  have H2 := hidP h2
  have HAp := hidP hap
  have HB1 := hidP hb1
  have HB2 := hidP hb2
  clear h1 h2 hap hb1 hb2 hL1 hL2
  go_enter Tryd.func39, Tryd.ntmps39
  go_wp2_with (first
    | ((with_reducible refine wpList_boxV (w := w) (by with_unfolding_all rfl) 41 (.tmp 0) (by with_unfolding_all rfl) [.string nm, .slice a1 y1 c1, .slice a2 y2 c2] (by with_unfolding_all rfl) ?_); intro w1 hA1 hB1 hS1; have z1 : w.heap.size < w1.heap.size := (by omega); clear hS1; have cA := hA1.cell (k := 1) rfl)
    | (go_at_call 56; (with_reducible refine (hC1 w1 (H1.out.below hB1)).mono ?_); rintro r w2 ⟨z, rfl, hz, hv2, hm2, hs2⟩; have HZ := hidP hz; clear hz; have M2 := hm2.mrk hs2 (fun ad e => Nat.lt_trans (HB1.out ad e) z1); have R2 := row_blk hA1 (hm2.far w.heap.size z1 (fun ad e => Nat.ne_of_gt (HB1.out ad e))); have cB := R2.cell (k := 2) rfl; have V2 := (H2.out.below hB1).farM M2 (fun ad e ⟨bd, e2, e3⟩ => HAp.out bd ad e2 e e3.symm); clear cA)
    | (go_at_call 57; (with_reducible refine (hC2 w2 z V2 HZ.out).mono ?_); rintro r w3 ⟨y, rfl, hz3, hv3, hm3, hs3⟩; have HY := hidP hz3; clear hz3; have M3 := hm3.mrk hs3 (fun ad e => Nat.lt_of_lt_of_le (Nat.lt_trans (HB2.out ad e) z1) hs2); have V3 := hv2.farM M3 (fun ad e ⟨bd, e2, e3⟩ => HAp.out ad bd e e2 e3); clear cB))
  go_ret
  exact ⟨y, rfl, HY.out, ⟨V3, hv3⟩, ((Mrk.of hB1).trans (M2.mono fun k hk => Or.inl hk)).trans (M3.mono fun k hk => Or.inr hk)⟩
set_option maxRecDepth 100000 in
set_option maxHeartbeats 2000000 in
theorem heldMan_any (nm : ByteArray) (a1 : Option Addr) (c1 y1 : Nat) (a2 : Option Addr) (c2 y2 : Nat) (k0 : Nat) (w : World) (h1 : VR w a1 (mkLayC k0 (2 * y1))) (h2 : VR w a2 (mkLabC (k0 + 2 * y1) (2 * y2))) (hy1 : y1 ≤ 1100000) (hy2 : y2 ≤ 1100000) (h0 : 1 ≤ k0) (hk : k0 ≤ 800000000) :
    Calls Tryd.prog 40 #[.agg #[.string nm, .slice a1 y1 c1, .slice a2 y2 c2], .int .i64 (k0 : Int)] w fun r w' => ∃ z : Nat, r = .returned (.int .i64 (z : Int)) ∧ (z = k0 + 2 * y1 + 2 * y2) ∧ Below w.heap.size w w' := by
  have hC1 : ∀ w0, (VR w0 a1 (mkLayC k0 (2 * y1))) → Calls Tryd.prog 58 #[.slice a1 y1 c1, .int .i64 (k0 : Int)] w0 fun r w' => ∃ (z1 : Nat), r = .returned (.int .i64 (z1 : Int)) ∧ (z1 = k0 + 2 * y1) ∧ Below w0.heap.size w0 w' := fun w0 n0 => (heldLayS_any a1 c1 y1 k0 w0 n0 hy1 h0 (by omega)).mono fun r w' h => ⟨_, h.1, rfl, h.2⟩
  have hC2 : ∀ w0 (z1 : Nat), (VR w0 a2 (mkLabC (k0 + 2 * y1) (2 * y2))) → (z1 = k0 + 2 * y1) → Calls Tryd.prog 59 #[.slice a2 y2 c2, .int .i64 (z1 : Int)] w0 fun r w' => ∃ (z2 : Nat), r = .returned (.int .i64 (z2 : Int)) ∧ (z2 = k0 + 2 * y1 + 2 * y2) ∧ Below w0.heap.size w0 w' := fun w0 z1 n0 n1 => by subst n1; exact (heldLabS_any a2 c2 y2 (k0 + 2 * y1) w0 n0 hy2 (by omega) (by omega)).mono fun r w' h => ⟨_, h.1, rfl, h.2⟩
  have HS0 : Hid (Sta [] w [] [⟨fun k => k < w.heap.size, fun w' => VR w' a1 (mkLayC k0 (2 * y1)) ∧ VR w' a2 (mkLabC (k0 + 2 * y1) (2 * y2))⟩] w) := Sta.arg (fun w' => VR w' a1 (mkLayC k0 (2 * y1)) ∧ VR w' a2 (mkLabC (k0 + 2 * y1) (2 * y2))) (fun w' hb => ⟨h1.below hb, h2.below hb⟩)
  clear h1 h2
  go_enter Tryd.func40, Tryd.ntmps40
  go_wp2_with (first
    | ((with_reducible refine wpList_boxV (w := w) (by with_unfolding_all rfl) 41 (.tmp 0) (by with_unfolding_all rfl) [.string nm, .slice a1 y1 c1, .slice a2 y2 c2] (by with_unfolding_all rfl) ?_); intro w1 hA1 hB1 hS1; clear hS1; have HS1 := Sta.new HS0 hA1 hB1 (by simp); clear hA1 hB1; have cHS1_0_1 : w1.cell? ⟨w.heap.size, 1, none⟩ = some (.slice a1 y1 c1) := Sta.c (i := 0) HS1 rfl rfl)
    | (go_at_call 58; have n2_0 : VR w1 a1 (mkLayC k0 (2 * y1)) := (Sta.t (i := 0) HS1 rfl :).1; (with_reducible refine (hC1 w1 n2_0).mono ?_); rintro r w2 ⟨z1, rfl, z1f, hB2⟩; have Hz1f := hidP z1f; clear z1f; have HS2 := Sta.call HS1 hB2; clear hB2; have q1 : ¬ ((z1 : Int) < 0) := (by omega); clear cHS1_0_1; have cHS2_0_2 : w2.cell? ⟨w.heap.size, 2, none⟩ = some (.slice a2 y2 c2) := Sta.c (i := 0) HS2 rfl rfl)
    | (go_at_call 59; have n3_0 : VR w2 a2 (mkLabC (k0 + 2 * y1) (2 * y2)) := (Sta.t (i := 0) HS2 rfl :).2; (with_reducible refine (hC2 w2 z1 n3_0 Hz1f.out).mono ?_); rintro r w3 ⟨z2, rfl, z2f, hB3⟩; have Hz2f := hidP z2f; clear z2f; have HS3 := Sta.call HS2 hB3; clear hB3; have q2 : ¬ ((z2 : Int) < 0) := (by omega); clear cHS2_0_2))
  go_ret
  exact ⟨_, rfl, Hz2f.out, Sta.fin HS3⟩
end Go.Proofs.YtchfpiadfmnphaaDoor
