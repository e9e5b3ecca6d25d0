/- Targets, on the specification's side: a row of three cells each. -/
import Derived.Test.YtdfglpbappeoaabDoorMetG
import Derived.Test.YtdfglpbappeoaabDoorName
import Derived.Laws.Cover1
namespace Go.Proofs.YtdfglpbappeoaabDoor
open Go.RowKit
set_option linter.unusedVariables false

def decOkAt (c : Int) (j : Nat) : Decidable (OkAt c j) := by unfold OkAt; infer_instance
def decNameP (s : ByteArray) : Decidable (NameP s) := by
  have hd : ∀ c j, Decidable (OkAt c j) := decOkAt
  unfold NameP
  infer_instance
def nameB (s : ByteArray) : Bool := @decide (NameP s) (decNameP s)
theorem nameB_yes {s : ByteArray} (h : NameP s) : nameB s = true := @decide_eq_true _ (decNameP s) h
theorem nameB_no {s : ByteArray} (h : ¬ NameP s) : nameB s = false := @decide_eq_false _ (decNameP s) h
theorem specNameB (s : ByteArray) (w : World) (hs : s.size ≤ maxLen) : Calls Tryd.prog 133 #[.string s] w fun e w' => e = .returned (.bool (nameB s)) ∧ w' = w := by
  refine (specName s w hs).mono ?_
  rintro e w' ⟨⟨b, rfl, hb⟩, rfl⟩
  refine ⟨?_, rfl⟩
  have : b = nameB s := by
    cases b with
    | true => exact (nameB_yes (hb.1 rfl)).symm
    | false => exact (nameB_no (fun h => by have := hb.2 h; cases this)).symm
  rw [this]
structure TarV where
  nm : ByteArray
  im : ByteArray
  sz : Int
def TarV.w (x : TarV) : Prop := x.nm.size ≤ maxLen ∧ x.im.size ≤ maxLen ∧ I64 x.sz
def TgsAt (w : World) (a : Option Addr) (l : List TarV) : Prop := ∀ i (h : i < l.length), ∃ b o, a = some ⟨b, o, none⟩ ∧ w.cell? ⟨b, o + i * 3, none⟩ = some (.string l[i].nm) ∧ w.cell? ⟨b, o + i * 3 + 1, none⟩ = some (.string l[i].im) ∧ w.cell? ⟨b, o + i * 3 + 2, none⟩ = some (.int .i64 l[i].sz)
theorem TgsAt.below {w w' : World} {a : Option Addr} {l : List TarV} (h : TgsAt w a l) (hb : Below w.heap.size w w') : TgsAt w' a l := fun i hi => by
  obtain ⟨b, o, h1, h2, h3, h4⟩ := h i hi
  exact ⟨b, o, h1, (hb.cell (p := ⟨b, o + i * 3, none⟩) (cellLt h2)).trans h2, (hb.cell (p := ⟨b, o + i * 3 + 1, none⟩) (cellLt h3)).trans h3, (hb.cell (p := ⟨b, o + i * 3 + 2, none⟩) (cellLt h4)).trans h4⟩
def nmLt (x y : ByteArray) : Bool := Op.bytesLess x.toList y.toList
def TarV.ok (x : TarV) : Bool := nameB x.nm && decide (x.im.size = 32 ∧ 0 ≤ x.sz ∧ x.sz ≤ 1000000)
def TarOk (l : List TarV) (k : Nat) : Prop := ∃ h : k < l.length, l[k].ok = true ∧ (∀ k1 (h1 : k1 < l.length), k = k1 + 1 → nmLt l[k1].nm l[k].nm = true)
def tarsOk : List TarV → Bool
  | [] => true
  | x :: [] => x.ok
  | x :: y :: l => x.ok && (nmLt x.nm y.nm && tarsOk (y :: l))
theorem tarsOk_iff : ∀ l : List TarV, tarsOk l = true ↔ ∀ k, k < l.length → TarOk l k
  | [] => ⟨fun _ k hk => absurd hk (Nat.not_lt_zero _), fun _ => rfl⟩
  | x :: [] => by
    constructor
    · intro h k hk
      obtain rfl : k = 0 := by simpa using hk
      exact ⟨hk, h, fun k1 h1 e => by omega⟩
    · intro h
      obtain ⟨_, h1, _⟩ := h 0 (by simp)
      exact h1
  | x :: y :: l => by
    unfold tarsOk
    rw [Bool.and_eq_true, Bool.and_eq_true, tarsOk_iff (y :: l)]
    constructor
    · rintro ⟨h1, h2, h3⟩ k hk
      match k with
      | 0 => exact ⟨hk, h1, fun k1 _ e => by omega⟩
      | k + 1 =>
        obtain ⟨g, g1, g2⟩ := h3 k (by simpa using hk)
        refine ⟨hk, g1, fun k1 hk1 e => ?_⟩
        match k1, hk1, e with
        | 0, _, e =>
          obtain rfl : k = 0 := by omega
          exact h2
        | k1 + 1, hk1, e => exact g2 k1 (by simpa using hk1) (by omega)
    · intro h
      obtain ⟨_, h1, _⟩ := h 0 (by simp)
      refine ⟨h1, ?_, fun k hk => ?_⟩
      · obtain ⟨_, _, h2⟩ := h 1 (by simp)
        exact h2 0 (by simp) rfl
      · obtain ⟨_, g1, g2⟩ := h (k + 1) (by simpa using hk)
        exact ⟨hk, g1, fun k1 hk1 e => g2 (k1 + 1) (by simpa using hk1) (by omega)⟩
def targetsB (v e : Int) (l : List TarV) : Bool := verB v && (timB e && (decide (l.length ≤ 20) && tarsOk l))
structure KpTg (w : World) (g : Nat) (v e : Int) (a : Option Addr) (n c : Nat) (l : List TarV) (w' : World) : Prop where
  below : Below w.heap.size w w'
  row : RowV w' g (rtv v e a n c)
  tg : TgsAt w' a l
theorem KpTg.start {w w' : World} {g : Nat} {v e : Int} {a : Option Addr} {n c : Nat} {l : List TarV} (h : Hid (TgsAt w a l)) (h1 : Below w.heap.size w w') (h2 : RowV w' g (rtv v e a n c)) : Hid (KpTg w g v e a n c l w') := ⟨h1, h2, h.out.below h1⟩
theorem KpTg.call {w w' w2 : World} {g : Nat} {v e : Int} {a : Option Addr} {n c : Nat} {l : List TarV} (h : Hid (KpTg w g v e a n c l w')) (hb : Below w'.heap.size w' w2) : Hid (KpTg w g v e a n c l w2) :=
  ⟨h.out.below.trans (hb.mono h.out.below.size), h.out.row.below hb (h.out.row.lt (rtv_ne _ _ _ _ _)), h.out.tg.below hb⟩
theorem KpTg.drewN {w w' : World} {g : Nat} {v e : Int} {a : Option Addr} {n c : Nat} {l : List TarV} (h : Hid (KpTg w g v e a n c l w')) (m : Nat) : Hid (KpTg w g v e a n c l (w'.drewN m)) := ⟨belowN h.out.below _, h.out.row.drewN m, h.out.tg⟩
theorem KpTg.drew {w w' : World} {g : Nat} {v e : Int} {a : Option Addr} {n c : Nat} {l : List TarV} (h : Hid (KpTg w g v e a n c l w')) : Hid (KpTg w g v e a n c l w'.drew) := ⟨h.out.below.drew, h.out.row.drew, h.out.tg⟩
def tgv (x y : ByteArray) (z : Int) : List Value := [.string x, .string y, .int .i64 z]
theorem tgv_one (x y : ByteArray) (z : Int) : ∀ v ∈ tgv x y z, v.oneCell' = true := by
  intro v hv
  simp only [tgv, List.mem_cons, List.not_mem_nil, or_false] at hv
  rcases hv with rfl | rfl | rfl <;> rfl
theorem Tryd.infoTg : (Tryd.prog.info? 162).map (fun i => i.zero) = some (some (.agg (tgv ⟨#[]⟩ ⟨#[]⟩ 0).toArray)) := by kernel_rfl
theorem Tryd.sizeTg : (Tryd.prog.info? 162).map (·.size) = some 3 := by kernel_rfl
theorem RowV.tg {w : World} {g : Nat} {x y : ByteArray} {z : Int} (h : RowV w g (tgv x y z)) : w.cell? ⟨g, 0, none⟩ = some (.string x) ∧ w.cell? ⟨g, 1, none⟩ = some (.string y) ∧ w.cell? ⟨g, 2, none⟩ = some (.int .i64 z) := ⟨h.cell (k := 0) rfl, h.cell (k := 1) rfl, h.cell (k := 2) rfl⟩
end Go.Proofs.YtdfglpbappeoaabDoor
