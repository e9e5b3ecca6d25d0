/- Thirty-two bytes, read by the specification's reader. What the specification's reader of manifests has told, at each step. -/
import Derived.Test.YtchfpiadfmnphaaDoorJn22
import Derived.Test.YtchfpiadfmnphaaDoorJn12
import Derived.Test.YtchfpiadfmnphaaDoorJn6
import Derived.Test.YtchfpiadfmnphaaDoorSpT
namespace Go.Proofs.YtchfpiadfmnphaaDoor
open Go.RowKit
set_option linter.unusedVariables false

def BytR (t : ByteArray) (p : Nat) (bad : Bool) (x : ByteArray) (p' : Nat) (bad' : Bool) : Prop := p' ≤ t.size ∧ ((bad = false ∧ bytesO t p 32 = some (x, p') ∧ bad' = false) ∨ ((bad = true ∨ bytesO t p 32 = none) ∧ bad' = true ∧ x = ⟨#[]⟩))
theorem spByt (g p : Nat) (t : ByteArray) (w : World) (hs : t.size ≤ maxLen) (hp : p ≤ t.size) (bad : Bool) (h : RowV w g (srv t p bad)) :
    Calls Tryd.prog 72 #[.pointer (some ⟨g, 0, none⟩), .int .i64 32] w fun e w' => ∃ x p' bad', e = .returned (.string x) ∧ BytR t p bad x p' bad' ∧ RowV w' g (srv t p' bad') ∧ Only g w w' := by
  by_cases hb : bad = true ∨ t.size < p + 32
  · refine (spBytesBad g p 32 t w hs hp (by omega) bad hb h).mono ?_
    rintro e w' ⟨rfl, h1, h2⟩
    refine ⟨⟨#[]⟩, p, true, rfl, ⟨hp, Or.inr ⟨hb.imp id (fun hh => ?_), rfl, rfl⟩⟩, h1, h2⟩
    unfold bytesO
    rw [if_neg (by omega)]
  · have hbf : bad = false := by
      cases bad with
      | false => rfl
      | true => exact absurd (Or.inl rfl) hb
    subst hbf
    have hq : p + 32 ≤ t.size := by
      by_cases h3 : t.size < p + 32
      · exact absurd (Or.inr h3) hb
      · omega
    refine (spBytesYes g p 32 (p + 32) t w hs rfl hq h).mono ?_
    rintro e w' ⟨rfl, h1, h2⟩
    exact ⟨_, p + 32, false, rfl, ⟨hq, Or.inl ⟨rfl, by unfold bytesO; rw [if_pos hq], rfl⟩⟩, h1, h2⟩
end Go.Proofs.YtchfpiadfmnphaaDoor
namespace Go.Proofs.YtchfpiadfmnphaaDoor
open Go.RowKit
set_option linter.unusedVariables false

def ManOkT (t nm : ByteArray) (ls : List LayV) (bs : List LabV) : Prop := FirstB t 73 ∧ ∃ q, manO t 1 = some (nm, ls, bs, q) ∧ q = t.size
def OiM (t : ByteArray) (O : Option MfRes) : Prop := ∀ nm ls bs, ManOkT t nm ls bs ↔ ∃ q, O = some (nm, ls, bs, q) ∧ q = t.size
def StM (t : ByteArray) (d : Bool) (O : Option MfRes) (X : Prop) : Prop := (d = false ∧ OiM t O ∧ X) ∨ (d = true ∧ OiM t none)
theorem mq_first {t : ByteArray} {p : Nat} {d : Bool} (h : FstR t ⟨#[73]⟩ p d) : StM t d (manO t 1) (p = 1) := by
  rcases h.2 with ⟨y, e1, e2, e3, e4⟩ | ⟨e1, e2⟩
  · have : y = 73 := by simpa using (congrArg (fun b : ByteArray => b.data.toList) e1).symm
    subst this
    exact Or.inl ⟨e4, fun nm ls bs => ⟨fun ⟨_, q, k1, k2⟩ => ⟨q, k1, k2⟩, fun ⟨q, k1, k2⟩ => ⟨e2, q, k1, k2⟩⟩, e3⟩
  · exact Or.inr ⟨e2, fun nm ls bs => ⟨fun ⟨k0, _⟩ => absurd ⟨73, rfl, k0⟩ e1, fun ⟨q, k1, _⟩ => by cases k1⟩⟩
noncomputable def mo1 (t nm : ByteArray) (p : Nat) : Option MfRes := match countO t p 10 with
  | none => none
  | some (k, b) => restLs t nm [] k b
theorem mq_text {t nm : ByteArray} {p p2 : Nat} {d d2 : Bool} (hs : t.size ≤ maxLen) (h : StM t d (manO t 1) (p = 1)) (h2 : TxtR t p d nm p2 d2) : StM t d2 (mo1 t nm p2) (nm.size ≤ maxLen) := by
  rcases h with ⟨rfl, e3, rfl⟩ | ⟨rfl, e2⟩
  · unfold manO at e3
    rcases h2.2 with ⟨_, k1, k2⟩ | ⟨k1, k2, _⟩
    · rw [k1] at e3
      exact Or.inl ⟨k2, e3, Nat.le_trans (textO_some k1).2.2.1 hs⟩
    · rcases k1 with k1 | k1
      · cases k1
      · rw [k1] at e3
        exact Or.inr ⟨k2, e3⟩
  · rcases h2.2 with ⟨k1, _⟩ | ⟨_, k2, _⟩
    · cases k1
    · exact Or.inr ⟨k2, e2⟩
theorem mq_many {t nm : ByteArray} {p k p2 : Nat} {d d2 : Bool} (h : StM t d (mo1 t nm p) (nm.size ≤ maxLen)) (h2 : ManR t p d 10 k p2 d2) : StM t d2 (restLs t nm [] k p2) (nm.size ≤ maxLen ∧ ∀ y ∈ ([] : List LayV), y.w) := by
  rcases h with ⟨rfl, e3, e4⟩ | ⟨rfl, e2⟩
  · unfold mo1 at e3
    rcases h2.2.2 with ⟨_, k1, k2⟩ | ⟨k1, k2⟩
    · rw [k1] at e3
      exact Or.inl ⟨k2, e3, e4, fun y hy => by cases hy⟩
    · rcases k1 with k1 | k1
      · cases k1
      · rw [k1] at e3
        exact Or.inr ⟨k2, e3⟩
  · rcases h2.2.2 with ⟨k1, _⟩ | ⟨_, k2⟩
    · cases k1
    · exact Or.inr ⟨k2, e2⟩
theorem badN {t : ByteArray} {p q : Nat} {e : Bool} {n : Int} (h : NumR t p true n q e) : e = true := by
  rcases h.2 with ⟨k, _⟩ | ⟨_, k⟩
  · cases k
  · exact k
theorem badB {t : ByteArray} {p q : Nat} {e : Bool} {n : ByteArray} (h : BytR t p true n q e) : e = true := by
  rcases h.2 with ⟨k, _⟩ | ⟨_, k, _⟩
  · cases k
  · exact k
theorem badT {t : ByteArray} {p q : Nat} {e : Bool} {n : ByteArray} (h : TxtR t p true n q e) : e = true := by
  rcases h.2 with ⟨k, _⟩ | ⟨_, k, _⟩
  · cases k
  · exact k
theorem mq_lay {t nm : ByteArray} {l : List LayV} {m p p1 p2 : Nat} {d d1 d2 : Bool} {a : ByteArray} {c : Int} (hs : t.size ≤ maxLen) (h : StM t d (restLs t nm l (m + 1) p) (nm.size ≤ maxLen ∧ ∀ y ∈ l, y.w)) (h1 : BytR t p d a p1 d1) (h2 : NumR t p1 d1 c p2 d2) : StM t d2 (restLs t nm (l ++ [⟨a, c⟩]) m p2) (nm.size ≤ maxLen ∧ ∀ y ∈ l ++ [⟨a, c⟩], y.w) := by
  rcases h with ⟨rfl, e2, e4, e3⟩ | ⟨rfl, e2⟩
  · rcases h1.2 with ⟨_, k1, rfl⟩ | ⟨k1, rfl, _⟩
    · rcases h2.2 with ⟨_, k2, rfl⟩ | ⟨k2, rfl⟩
      · refine Or.inl ⟨rfl, by rw [restLs_step k1 k2] at e2; exact e2, e4, fun y hy => ?_⟩
        rcases List.mem_append.1 hy with hy | hy
        · exact e3 y hy
        · obtain rfl := List.mem_singleton.1 hy
          exact laysO_w hs k1 k2
      · rcases k2 with k2 | k2
        · cases k2
        · exact Or.inr ⟨rfl, by rw [restLs_no2 k1 k2] at e2; exact e2⟩
    · rcases k1 with k1 | k1
      · cases k1
      · exact Or.inr ⟨badN h2, by rw [restLs_no1 k1] at e2; exact e2⟩
  · obtain rfl := badB h1
    exact Or.inr ⟨badN h2, e2⟩
theorem mq_mid {t nm : ByteArray} {ls : List LayV} {p k p2 : Nat} {d d2 : Bool} (h : StM t d (restLs t nm ls 0 p) (nm.size ≤ maxLen ∧ ∀ y ∈ ls, y.w)) (h2 : ManR t p d 10 k p2 d2) : StM t d2 (restBs t nm ls [] k p2) (nm.size ≤ maxLen ∧ (∀ y ∈ ls, y.w) ∧ ∀ y ∈ ([] : List LabV), y.w) := by
  rcases h with ⟨rfl, e3, e4, e5⟩ | ⟨rfl, e2⟩
  · rw [restLs_end] at e3
    unfold restC at e3
    rcases h2.2.2 with ⟨_, k1, k2⟩ | ⟨k1, k2⟩
    · rw [k1] at e3
      exact Or.inl ⟨k2, e3, e4, e5, fun y hy => by cases hy⟩
    · rcases k1 with k1 | k1
      · cases k1
      · rw [k1] at e3
        exact Or.inr ⟨k2, e3⟩
  · rcases h2.2.2 with ⟨k1, _⟩ | ⟨_, k2⟩
    · cases k1
    · exact Or.inr ⟨k2, e2⟩
theorem mq_lab {t nm : ByteArray} {ls : List LayV} {l : List LabV} {m p p1 p2 : Nat} {d d1 d2 : Bool} {a c : ByteArray} (hs : t.size ≤ maxLen) (h : StM t d (restBs t nm ls l (m + 1) p) (nm.size ≤ maxLen ∧ (∀ y ∈ ls, y.w) ∧ ∀ y ∈ l, y.w)) (h1 : TxtR t p d a p1 d1) (h2 : TxtR t p1 d1 c p2 d2) : StM t d2 (restBs t nm ls (l ++ [⟨a, c⟩]) m p2) (nm.size ≤ maxLen ∧ (∀ y ∈ ls, y.w) ∧ ∀ y ∈ l ++ [⟨a, c⟩], y.w) := by
  rcases h with ⟨rfl, e2, e4, e5, e3⟩ | ⟨rfl, e2⟩
  · rcases h1.2 with ⟨_, k1, rfl⟩ | ⟨k1, rfl, _⟩
    · rcases h2.2 with ⟨_, k2, rfl⟩ | ⟨k2, rfl, _⟩
      · refine Or.inl ⟨rfl, by rw [restBs_step k1 k2] at e2; exact e2, e4, e5, fun y hy => ?_⟩
        rcases List.mem_append.1 hy with hy | hy
        · exact e3 y hy
        · obtain rfl := List.mem_singleton.1 hy
          exact labsO_w hs k1 k2
      · rcases k2 with k2 | k2
        · cases k2
        · exact Or.inr ⟨rfl, by rw [restBs_no2 k1 k2] at e2; exact e2⟩
    · rcases k1 with k1 | k1
      · cases k1
      · exact Or.inr ⟨badT h2, by rw [restBs_no1 k1] at e2; exact e2⟩
  · obtain rfl := badT h1
    exact Or.inr ⟨badT h2, e2⟩
theorem mq_end {t nm : ByteArray} {ls : List LayV} {l : List LabV} {p : Nat} {d : Bool} (h : StM t d (restBs t nm ls l 0 p) (nm.size ≤ maxLen ∧ (∀ y ∈ ls, y.w) ∧ ∀ y ∈ l, y.w)) : (doneB t p d = false → ¬ ∃ nm ls bs, ManOkT t nm ls bs) ∧ (doneB t p d = true → (nm.size ≤ maxLen ∧ (∀ y ∈ ls, y.w) ∧ ∀ y ∈ l, y.w) ∧ (boolP (ManOk nm ls l) = true → ManOkT t nm ls l) ∧ (boolP (ManOk nm ls l) = false → ¬ ∃ nm ls bs, ManOkT t nm ls bs)) := by
  unfold doneB
  rcases h with ⟨rfl, e2, e3⟩ | ⟨rfl, e2⟩
  · constructor
    · intro hd
      have hp : ¬ p = t.size := by simpa using hd
      rintro ⟨nm', ls', l', hh⟩
      obtain ⟨q, k1, k2⟩ := (e2 nm' ls' l').1 hh
      cases hb : boolP (ManOk nm ls l) with
      | true =>
        rw [restBs_yes hb] at k1
        injection k1 with k1
        injection k1 with _ k1
        injection k1 with _ k1
        injection k1 with _ k4
        exact hp (k4.trans k2)
      | false => rw [restBs_no hb] at k1; cases k1
    · intro hd
      have hp : p = t.size := by simpa using hd
      refine ⟨e3, fun hb => (e2 nm ls l).2 ⟨p, restBs_yes hb, hp⟩, fun hb => ?_⟩
      rintro ⟨nm', ls', l', hh⟩
      obtain ⟨q, k1, _⟩ := (e2 nm' ls' l').1 hh
      rw [restBs_no hb] at k1
      cases k1
  · refine ⟨fun _ => ?_, fun hd => by cases hd⟩
    rintro ⟨nm', ls', l', hh⟩
    obtain ⟨q, k1, _⟩ := (e2 nm' ls' l').1 hh
    cases k1
/- What ManifestRead answers. -/
def MnAns (t nm : ByteArray) (ls : List LayV) (bs : List LabV) (c : Int) : Prop := (20000 < t.size ∧ nm = ⟨#[]⟩ ∧ ls = [] ∧ bs = [] ∧ c = 2) ∨ (t.size ≤ 20000 ∧ ManOkT t nm ls bs ∧ c = 0) ∨ (t.size ≤ 20000 ∧ (¬ ∃ nm ls bs, ManOkT t nm ls bs) ∧ nm = ⟨#[]⟩ ∧ ls = [] ∧ bs = [] ∧ c = 3)
theorem manOkT_one {t nm nm' : ByteArray} {ls ls' : List LayV} {bs bs' : List LabV} (h : ManOkT t nm ls bs) (k : ManOkT t nm' ls' bs') : nm = nm' ∧ ls = ls' ∧ bs = bs' := by
  obtain ⟨_, q, a1, _⟩ := h
  obtain ⟨_, q', a2, _⟩ := k
  rw [a1] at a2
  injection a2 with a2
  injection a2 with e1 a2
  injection a2 with e2 a2
  injection a2 with e3 e4
  exact ⟨e1, e2, e3⟩
theorem mnAns_one {t nm nm' : ByteArray} {ls ls' : List LayV} {bs bs' : List LabV} {c c' : Int} (h : MnAns t nm ls bs c) (h' : MnAns t nm' ls' bs' c') : nm = nm' ∧ ls = ls' ∧ bs = bs' ∧ c = c' := by
  rcases h with ⟨h0, rfl, rfl, rfl, rfl⟩ | ⟨h0, h1, rfl⟩ | ⟨h0, h1, rfl, rfl, rfl, rfl⟩
  · rcases h' with ⟨_, rfl, rfl, rfl, rfl⟩ | ⟨k0, _⟩ | ⟨k0, _⟩
    · exact ⟨rfl, rfl, rfl, rfl⟩
    · omega
    · omega
  · rcases h' with ⟨k0, _⟩ | ⟨k0, k1, rfl⟩ | ⟨k0, k1, _⟩
    · omega
    · obtain ⟨e1, e2, e3⟩ := manOkT_one h1 k1
      exact ⟨e1, e2, e3, rfl⟩
    · exact absurd ⟨_, _, _, h1⟩ k1
  · rcases h' with ⟨k0, _⟩ | ⟨k0, k1, rfl⟩ | ⟨k0, k1, rfl, rfl, rfl, rfl⟩
    · omega
    · exact absurd ⟨_, _, _, k1⟩ h1
    · exact ⟨rfl, rfl, rfl, rfl⟩
theorem laysO_le {t : ByteArray} : ∀ (m p : Nat) {l : List LayV} {q : Nat}, laysO t m p = some (l, q) → p ≤ t.size → q ≤ t.size
  | 0, p, l, q, h, hp => by
    unfold laysO at h
    injection h with h
    injection h with _ e
    omega
  | m + 1, p, l, q, h, hp => by
    rw [laysO] at h
    cases h1 : bytesO t p 32 with
    | none => rw [h1] at h; cases h
    | some y1 =>
    rw [h1] at h
    simp only at h
    cases h2 : numO t y1.2 with
    | none => rw [h2] at h; cases h
    | some y2 =>
    rw [h2] at h
    simp only at h
    cases h4 : laysO t m y2.2 with
    | none => rw [h4] at h; cases h
    | some y4 =>
    rw [h4] at h
    simp only at h
    injection h with h
    injection h with _ e
    subst e
    exact laysO_le m y2.2 h4 (numO_some (n := y2.1) (b := y2.2) h2).2.1
theorem labsO_le {t : ByteArray} : ∀ (m p : Nat) {l : List LabV} {q : Nat}, labsO t m p = some (l, q) → p ≤ t.size → q ≤ t.size
  | 0, p, l, q, h, hp => by
    unfold labsO at h
    injection h with h
    injection h with _ e
    omega
  | m + 1, p, l, q, h, hp => by
    rw [labsO] at h
    cases h1 : textO t p with
    | none => rw [h1] at h; cases h
    | some y1 =>
    rw [h1] at h
    simp only at h
    cases h2 : textO t y1.2 with
    | none => rw [h2] at h; cases h
    | some y2 =>
    rw [h2] at h
    simp only at h
    cases h4 : labsO t m y2.2 with
    | none => rw [h4] at h; cases h
    | some y4 =>
    rw [h4] at h
    simp only at h
    injection h with h
    injection h with _ e
    subst e
    exact labsO_le m y2.2 h4 (textO_some (x := y2.1) (b := y2.2) h2).2.1
theorem manO_le {t nm : ByteArray} {ls : List LayV} {bs : List LabV} {q : Nat} (h : manO t 1 = some (nm, ls, bs, q)) : q ≤ t.size ∧ nm.size ≤ t.size := by
  unfold manO at h
  cases h1 : textO t 1 with
  | none => rw [h1] at h; cases h
  | some y1 =>
  rw [h1] at h
  simp only at h
  cases h2 : countO t y1.2 10 with
  | none => rw [h2] at h; cases h
  | some y2 =>
  rw [h2] at h
  simp only at h
  unfold restLs at h
  cases h3 : laysO t y2.1 y2.2 with
  | none => rw [h3] at h; cases h
  | some y3 =>
  rw [h3] at h
  simp only at h
  unfold restC at h
  cases h4 : countO t y3.2 10 with
  | none => rw [h4] at h; cases h
  | some y4 =>
  rw [h4] at h
  simp only at h
  unfold restBs at h
  cases h5 : labsO t y4.1 y4.2 with
  | none => rw [h5] at h; cases h
  | some y5 =>
  rw [h5] at h
  simp only at h
  split at h
  · injection h with h
    injection h with e0 h
    injection h with _ h
    injection h with _ e
    subst e e0
    exact ⟨labsO_le _ _ h5 (countO_le (k := y4.1) (b := y4.2) h4).2, (textO_some (x := y1.1) (b := y1.2) h1).2.2.1⟩
  · cases h
end Go.Proofs.YtchfpiadfmnphaaDoor
