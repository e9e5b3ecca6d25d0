/- Roles of secrets: the keys, and what stands while they are gathered. -/
import Derived.Test.YtmahpmjkejnkfaaRoP
import Derived.Test.YtmahpmjkejnkfaaRlE
import Derived.Test.YtmahpmjkejnkfaaOrd
namespace Go.Proofs.Ytmahpmjkejnkfaa
open Go.RowKit
set_option linter.unusedVariables false

def roKs (l : List Int) : List Int := putAll (l.map pubM)
def roB (z : Int) (l : List Int) : Bool := decide (l.length ≤ 400) && (l.all secB && roleB z (roKs l))
def roZ (z : Int) (l : List Int) : Int := if roB z l then z else 0
def roL (z : Int) (l : List Int) : List Int := if roB z l then roKs l else []
theorem ro_no {z : Int} {l : List Int} (h : roB z l = false) : roZ z l = 0 ∧ roL z l = [] := by unfold roZ roL; rw [h]; exact ⟨rfl, rfl⟩
theorem ro_yes {z : Int} {l : List Int} (h : roB z l = true) : roZ z l = z ∧ roL z l = roKs l := by unfold roZ roL; rw [h]; exact ⟨rfl, rfl⟩
theorem roB_long {z : Int} {l : List Int} (h : ¬ l.length ≤ 400) : roB z l = false := by unfold roB; rw [decide_eq_false h]; rfl
theorem roB_sec {z : Int} {l : List Int} (h : l.all secB = false) : roB z l = false := by unfold roB; rw [h]; simp
theorem roB_is {z : Int} {l : List Int} (h : l.length ≤ 400) (h2 : l.all secB = true) : roB z l = roleB z (roKs l) := by unfold roB; rw [decide_eq_true h, h2]; rfl
theorem roKs_len (l : List Int) : (roKs l).length ≤ l.length := by
  have := putAll_len (l.map pubM) []
  unfold roKs putAll
  simp only [List.length_map, List.length_nil] at this
  omega
theorem pubM_i64 (x : Int) : I64 (pubM x) := by
  unfold pubM
  split
  · have h1 : powM 4 x 2147483579 < 2147483579 := powM_lt
    have h2 : 0 ≤ powM 4 x 2147483579 := powM_ge
    exact i64_of (by omega) (by omega)
  · exact i64_of (by omega) (by omega)
theorem roKs_i64 (l : List Int) : ∀ x ∈ roKs l, I64 x := fun x hx => by
  unfold roKs putAll at hx
  rcases ((putAll_gen (l.map pubM) [] List.Pairwise.nil).2 x).1 hx with h | h
  · cases h
  · obtain ⟨y, _, rfl⟩ := List.mem_map.1 h
    exact pubM_i64 y
theorem roKs_next {l : List Int} {k : Nat} (hk : k < l.length) : roKs (l.take (k + 1)) = putL (roKs (l.take k)) (pubM l[k]) := by
  unfold roKs
  have h := putAll_next (xs := l.map pubM) (k := k) (by simpa using hk)
  rw [List.getElem_map] at h
  rw [List.map_take, List.map_take, h]
theorem secs_no {l : List Int} {k : Nat} (hk : k < l.length) (h : ¬ IsSec l[k]) : l.all secB = false := by
  rw [List.all_eq_false]
  exact ⟨l[k], List.getElem_mem hk, by rw [secB_no h]; decide⟩
theorem secs_yes {l : List Int} (h : ∀ k (hk : k < l.length), IsSec l[k]) : l.all secB = true := by
  rw [List.all_eq_true]
  intro x hx
  obtain ⟨k, hk, rfl⟩ := List.mem_iff_getElem.1 hx
  exact secB_yes (h k hk)
def rlw (z : Int) (v : Value) : List Value := [.int .i64 z, v]
theorem rlw_ne (z : Int) (v : Value) : rlw z v ≠ [] := by simp [rlw]
structure KpRo (w : World) (G2 G5 : Nat) (z : Int) (a : Option Addr) (n c : Nat) (m : List Int) (w' : World) : Prop where
  bel : Below w.heap.size w w'
  r2 : RowV w' G2 (rlv 0 none 0 0)
  r5 : RowV w' G5 (rlw z (.slice a n c))
  ai : AI w' a m
  ln : m.length = n
  lc : n ≤ c
  nl : a = none → c = 0
  sp : ∀ y, a = some y → y.spot = none
  ne : ∀ y, a = some y → y.block ≠ G5 ∧ y.block ≠ G2
  c2 : w.heap.size ≤ G2
  c5 : G2 < G5
section
variable {w w' w2 w3 : World} {G2 G5 : Nat} {z : Int} {a a' : Option Addr} {n c n' c' : Nat} {m m' : List Int}
theorem KpRo.start (h1 : Below w.heap.size w w') (h2 : RowV w' G2 (rlv 0 none 0 0)) (h5 : RowV w' G5 (rlv z none 0 0)) (c2 : w.heap.size ≤ G2) (c5 : G2 < G5) : Hid (KpRo w G2 G5 z none 0 0 [] w') :=
  ⟨h1, h2, h5, fun i hi => absurd hi (Nat.not_lt_zero _), rfl, Nat.le_refl _, fun _ => rfl, fun y e => (by cases e), fun y e => (by cases e), c2, c5⟩
theorem KpRo.call (h : Hid (KpRo w G2 G5 z a n c m w')) (hb : Below w'.heap.size w' w2) : Hid (KpRo w G2 G5 z a n c m w2) :=
  ⟨h.out.bel.trans (hb.mono h.out.bel.size), h.out.r2.below hb (h.out.r2.lt (rlv_ne _ _ _ _)), h.out.r5.below hb (h.out.r5.lt (rlw_ne _ _)), h.out.ai.below hb, h.out.ln, h.out.lc, h.out.nl, h.out.sp, h.out.ne, h.out.c2, h.out.c5⟩
theorem KpRo.drew (h : Hid (KpRo w G2 G5 z a n c m w')) : Hid (KpRo w G2 G5 z a n c m w'.drew) := ⟨h.out.bel.drew, h.out.r2.drew, h.out.r5.drew, h.out.ai, h.out.ln, h.out.lc, h.out.nl, h.out.sp, h.out.ne, h.out.c2, h.out.c5⟩
theorem KpRo.cell (h : Hid (KpRo w G2 G5 z a n c m w')) : w'.cell? ⟨G5, 0, none⟩ = some (.int .i64 z) ∧ w'.cell? ⟨G5, 1, none⟩ = some (.slice a n c) := ⟨h.out.r5.cell (k := 0) rfl, h.out.r5.cell (k := 1) rfl⟩
theorem KpRo.r5H (h : Hid (KpRo w G2 G5 z a n c m w')) : RowV w' G5 (rlw z (.slice a n c)) := h.out.r5
theorem KpRo.r2H (h : Hid (KpRo w G2 G5 z a n c m w')) : RowV w' G2 (rlv 0 none 0 0) := h.out.r2
theorem AI.off {a : Option Addr} {l : List Int} {G : Nat} (h : AI w a l) (ho : Only G w w') (hn : ∀ y, a = some y → y.block ≠ G) : AI w' a l := fun k hk => by
  obtain ⟨b, o, e, hc⟩ := h k hk
  exact ⟨b, o, e, ((ho.far ⟨b, o + k, none⟩ (hn ⟨b, o, none⟩ e) (cellLt hc)).1).trans hc⟩
theorem KpRo.put (h : Hid (KpRo w G2 G5 z a n c m w')) (hb : Below w'.heap.size w' w2) (hi : AI w2 a' m') (ln : m'.length = n') (lc : n' ≤ c') (nl : a' = none → c' = 0) (sp : ∀ y, a' = some y → y.spot = none) (hw : a' = a ∨ ∀ y, a' = some y → w'.heap.size ≤ y.block) (h5 : RowV w3 G5 (rlw z (.slice a' n' c'))) (h3 : Only G5 w2 w3) : Hid (KpRo w G2 G5 z a' n' c' m' w3) := by
  have a2 := h.out.c2
  have a5 := h.out.c5
  have l5 := h.out.r5.lt (rlw_ne _ _)
  have hne : ∀ y, a' = some y → y.block ≠ G5 ∧ y.block ≠ G2 := fun y e => by
    rcases hw with hw | hw
    · exact h.out.ne y (hw ▸ e)
    · have := hw y e
      omega
  exact ⟨(h.out.bel.trans (hb.mono h.out.bel.size)).trans (h3.bel (by omega)), h3.row (h.out.r2.below hb (by omega)) (rlv_ne _ _ _ _) (by omega), h5, hi.off h3 (fun y e => (hne y e).1), ln, lc, nl, sp, hne, a2, a5⟩
theorem KpRo.done (h : Hid (KpRo w G2 G5 z a n c m w')) (ho : Only G2 w' w2) : Below w.heap.size w w2 ∧ AI w2 a m := ⟨h.out.bel.trans (ho.bel h.out.c2), h.out.ai.off ho (fun y e => (h.out.ne y e).2)⟩
theorem sec_ro {b o k : Nat} {l : List Int} {x : Int} (h : Hid (AI w (some ⟨b, o, none⟩) l)) (hs : Hid (KpRo w G2 G5 z a n c m w')) (hx : Hid (∃ hk : k < l.length, l[k] = x)) : w'.cell? ⟨b, o + k, none⟩ = some (.int .i64 x) := by
  obtain ⟨hk, rfl⟩ := hx.out
  obtain ⟨b', o', e, hc⟩ := (h.out.below hs.out.bel) k hk
  injection e with e
  injection e with e1 e2
  subst e1 e2
  exact hc
end
theorem roRet {z : Int} {l : List Int} (h : roB z l = false) : Ending.returned (.agg (rlv 0 none 0 0).toArray) = .returned (.agg #[.int .i64 (roZ z l), .slice none (roL z l).length 0]) := by rw [(ro_no h).1, (ro_no h).2]; rfl
theorem roAi {z : Int} {l : List Int} {w : World} (h : roB z l = false) : AI w none (roL z l) := by rw [(ro_no h).2]; exact fun i hi => absurd hi (Nat.not_lt_zero _)
end Go.Proofs.Ytmahpmjkejnkfaa
