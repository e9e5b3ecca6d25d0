/- What stands while a call goes on: the rows of its own variables, and things that lie in blocks of which nothing is written. -/
import Derived.Test.YtaalegjhhpfhbaaOnl
namespace Go.Proofs.Ytaalegjhhpfhbaa
open Go.RowKit
set_option linter.unusedVariables false

/- All but the blocks T, of those that were there, is as it was. -/
structure Mrk (T : Nat → Prop) (w w' : World) : Prop where
  blk : ∀ k, k < w.heap.size → ¬ T k → w'.heap[k]? = w.heap[k]?
  below : ∀ B, B ≤ w.heap.size → (∀ b, T b → B ≤ b) → Below B w w'
  size : w.heap.size ≤ w'.heap.size
theorem Mrk.far {T : Nat → Prop} {w w' : World} (h : Mrk T w w') : ∀ x : Addr, x.block < w.heap.size → ¬ T x.block → w'.cell? x = w.cell? x ∧ w'.frozen? x = w.frozen? x := fun x hx hn => same_far (h.blk x.block hx hn)
theorem Mrk.of {T : Nat → Prop} {w w' : World} (hb : Below w.heap.size w w') : Mrk T w w' := ⟨fun k hk _ => hb.block k hk, fun B hB _ => hb.mono hB, hb.size⟩
theorem Mrk.trans {T : Nat → Prop} {w w1 w2 : World} (h : Mrk T w w1) (k : Mrk T w1 w2) : Mrk T w w2 :=
  ⟨fun j hj ht => (k.blk j (Nat.lt_of_lt_of_le hj h.size) ht).trans (h.blk j hj ht), fun B hB ht => (h.below B hB ht).trans (k.below B (Nat.le_trans hB h.size) ht), Nat.le_trans h.size k.size⟩
theorem Mrk.mono {T T' : Nat → Prop} {w w' : World} (h : Mrk T w w') (ht : ∀ b, T b → T' b) : Mrk T' w w' := ⟨fun j hj hn => h.blk j hj (fun k => hn (ht _ k)), fun B hB hk => h.below B hB (fun b hb => hk b (ht b hb)), h.size⟩
theorem RowV.midS {w : World} {g : Nat} {l : List Value} (h : RowV w g l) {p : Nat} {l2 l' : List Value} (hp : p + l2.length ≤ l.length) (hl : l' = l.take p ++ (l2 ++ l.drop (p + l2.length))) : RowV (w.setCells g p l2) g l' := by
  have hths : ∀ j, j < l2.length → (w.cell? ⟨g, p + j, none⟩).isSome = true := fun j hj => by
    have := (h.ths (p + j) (by omega)).1
    rwa [Nat.zero_add] at this
  have hlen : l'.length = l.length := by
    rw [hl, List.length_append, List.length_append, List.length_take, List.length_drop]
    omega
  refine ⟨fun j v hv => ?_, by rw [hlen]; exact World.there_setCells h.ths _ _ _⟩
  rw [Nat.zero_add]
  rw [hl] at hv
  by_cases h1 : j < p
  · rw [List.getElem?_append_left (by rw [List.length_take]; omega), List.getElem?_take, if_pos h1] at hv
    rw [World.cell?_setCells_out g _ _ _ _ (fun _ _ => Or.inl h1)]
    exact h.cell hv
  · rw [List.getElem?_append_right (by rw [List.length_take]; omega), List.length_take, Nat.min_eq_left (by omega)] at hv
    by_cases h2 : j < p + l2.length
    · rw [List.getElem?_append_left (by omega)] at hv
      have := World.cell?_setCells_in g l2 p w hths (j - p) (by omega)
      rw [show p + (j - p) = j by omega] at this
      rw [this, ← hv, List.getElem?_eq_getElem (by omega)]
    · rw [List.getElem?_append_right (by omega), List.getElem?_drop, show p + l2.length + (j - p - l2.length) = j by omega] at hv
      rw [World.cell?_setCells_out g _ _ _ _ (fun _ _ => Or.inr (by show p + l2.length ≤ j; omega))]
      exact h.cell hv
theorem Only.mrk {g : Nat} {w w' : World} (h : Only g w w') : Mrk (fun k => k = g) w w' := ⟨fun k hk hn => h.blk k hn hk, fun B _ hb => h.below.mono (hb g rfl), h.size⟩
theorem Mrk.drew {T : Nat → Prop} {w w' : World} (h : Mrk T w w') : Mrk T w w'.drew := ⟨h.blk, fun B hB hb => (h.below B hB hb).drew, h.size⟩
theorem Mrk.refl (T : Nat → Prop) (w : World) : Mrk T w w := ⟨fun _ _ _ => rfl, fun _ _ _ => Below.refl _ _, Nat.le_refl _⟩
theorem Mrk.row {T : Nat → Prop} {w w' : World} {g : Nat} {l : List Value} (hm : Mrk T w w') (h : RowV w g l) (hl : l ≠ []) (hn : ¬ T g) : RowV w' g l := h.same fun k => hm.far ⟨g, k, none⟩ (h.lt hl) hn
/- Something that lies in blocks of its own. -/
structure Thing where
  dom : Nat → Prop
  P : World → Prop
structure Thing.here (t : Thing) (w : World) : Prop where
  lt : ∀ k, t.dom k → k < w.heap.size
  st : ∀ w', Mrk (fun k => ¬ t.dom k) w w' → t.P w'
theorem Thing.here.now {t : Thing} {w : World} (h : t.here w) : t.P w := h.st w (Mrk.refl _ _)
theorem Thing.here.chg {t : Thing} {w w2 : World} {D : Nat → Prop} (h : t.here w) (hm : Mrk D w w2) (hd : ∀ k, D k → ¬ t.dom k) : t.here w2 :=
  ⟨fun k hk => Nat.lt_of_lt_of_le (h.lt k hk) hm.size, fun w' hw => h.st w' ((hm.mono hd).trans hw)⟩
/- P holds, and all that it speaks of lies in what has been made since w0. -/
def Made (w0 w' : World) (P : World → Prop) : Prop := ∀ w2, Mrk (fun k => ¬ (w0.heap.size ≤ k ∧ k < w'.heap.size)) w' w2 → P w2
theorem Made.now {w0 w' : World} {P : World → Prop} (h : Made w0 w' P) : P w' := h w' (Mrk.refl _ _)
theorem Made.wide {w0 w1 w2 w3 : World} {P : World → Prop} (h : Made w1 w2 P) (h1 : w0.heap.size ≤ w1.heap.size) (hb : Below w2.heap.size w2 w3) : Made w0 w3 P := fun w4 hw => h w4 ((Mrk.of hb).trans (hw.mono fun k hk hn => hk ⟨by omega, by have := hb.size; omega⟩))
theorem Made.imp {w0 w' : World} {P Q : World → Prop} (h : Made w0 w' P) (hq : ∀ w, P w → Q w) : Made w0 w' Q := fun w2 hw => hq _ (h w2 hw)
/- All that was there but the blocks G is as it was. -/
structure Kpt (G : List Nat) (w0 w : World) : Prop where
  bel : Below 0 w0 w
  blk : ∀ k, k < w0.heap.size → k ∉ G → w.heap[k]? = w0.heap[k]?
theorem Kpt.size {G : List Nat} {w0 w : World} (h : Kpt G w0 w) : w0.heap.size ≤ w.heap.size := h.bel.size
theorem Kpt.refl (G : List Nat) (w : World) : Kpt G w w := ⟨Below.refl _ _, fun _ _ _ => rfl⟩
theorem Kpt.step {G : List Nat} {w0 w w2 : World} (h : Kpt G w0 w) (hb : Below 0 w w2) (hk : ∀ k, k < w0.heap.size → k ∉ G → w2.heap[k]? = w.heap[k]?) : Kpt G w0 w2 := ⟨h.bel.trans hb, fun k h1 h2 => (hk k h1 h2).trans (h.blk k h1 h2)⟩
structure Sta (G : List Nat) (w0 : World) (R : List (Nat × List Value)) (T : List Thing) (w : World) : Prop where
  bel : Kpt G w0 w
  row : ∀ x ∈ R, (w0.heap.size ≤ x.1 ∨ x.1 ∈ G) ∧ x.2 ≠ [] ∧ RowV w x.1 x.2
  thg : ∀ t ∈ T, t.here w
  dif : R.Pairwise (fun x y => x.1 ≠ y.1)
  dis : T.Pairwise (fun s t => ∀ k, s.dom k → ¬ t.dom k)
  off : ∀ x ∈ R, ∀ t ∈ T, ¬ t.dom x.1
section
variable {G : List Nat} {w0 w w2 : World} {R : List (Nat × List Value)} {T : List Thing}
theorem Sta.start (w : World) : Hid (Sta [] w [] [] w) := ⟨Kpt.refl _ _, fun x hx => (by cases hx), fun t ht => (by cases ht), .nil, .nil, fun x hx => (by cases hx)⟩
/- What came in. -/
theorem Sta.arg (P : World → Prop) (h : ∀ w', Below w.heap.size w w' → P w') : Hid (Sta [] w [] [⟨fun k => k < w.heap.size, P⟩] w) := by
  refine ⟨Kpt.refl _ _, fun x hx => (by cases hx), fun t ht => ?_, .nil, List.pairwise_singleton .., fun x hx => (by cases hx)⟩
  cases List.mem_singleton.1 ht
  exact ⟨fun k hk => hk, fun w' hw => h w' (hw.below _ (Nat.le_refl _) fun b hb => Nat.le_of_not_lt hb)⟩
/- A caller's variable at g, that is written; and what came in besides. -/
theorem Sta.recv {g : Nat} {l : List Value} (hr : RowV w g l) (hn : l ≠ []) (P : World → Prop) (h : ∀ w', Mrk (fun k => k = g ∨ w.heap.size ≤ k) w w' → P w') : Hid (Sta [g] w [(g, l)] [⟨fun k => k < w.heap.size ∧ k ≠ g, P⟩] w) := by
  refine ⟨Kpt.refl _ _, fun x hx => ?_, fun t ht => ?_, List.pairwise_singleton .., List.pairwise_singleton .., fun x hx t ht => ?_⟩
  · cases List.mem_singleton.1 hx
    exact ⟨Or.inr (List.mem_singleton.2 rfl), hn, hr⟩
  · cases List.mem_singleton.1 ht
    exact ⟨fun k hk => hk.1, fun w' hw => h w' (hw.mono fun k hk => by
      by_cases e : k = g
      · exact Or.inl e
      · exact Or.inr (Nat.le_of_not_lt fun hlt => hk ⟨hlt, e⟩))⟩
  · cases List.mem_singleton.1 hx
    cases List.mem_singleton.1 ht
    exact fun hk => hk.2 rfl
theorem Sta.call (h : Hid (Sta G w0 R T w)) (hb : Below w.heap.size w w2) : Hid (Sta G w0 R T w2) :=
  ⟨h.out.bel.step (hb.mono (Nat.zero_le _)) fun k hk _ => hb.block k (Nat.lt_of_lt_of_le hk h.out.bel.size), fun x hx => ⟨(h.out.row x hx).1, (h.out.row x hx).2.1, (h.out.row x hx).2.2.below hb ((h.out.row x hx).2.2.lt (h.out.row x hx).2.1)⟩, fun t ht => (h.out.thg t ht).chg (Mrk.of (T := fun _ => False) hb) (fun _ h => h.elim), h.out.dif, h.out.dis, h.out.off⟩
theorem Sta.drew (h : Hid (Sta G w0 R T w)) : Hid (Sta G w0 R T w.drew) :=
  ⟨⟨h.out.bel.bel.drew, h.out.bel.blk⟩, fun x hx => ⟨(h.out.row x hx).1, (h.out.row x hx).2.1, (h.out.row x hx).2.2.drew⟩, fun t ht => (h.out.thg t ht).chg (Mrk.refl (fun _ => False) _).drew (fun _ h => h.elim), h.out.dif, h.out.dis, h.out.off⟩
theorem Sta.made {P : World → Prop} (h : Hid (Sta G w0 R T w)) (hb : Below w.heap.size w w2) (hP : Made w w2 P) : Hid (Sta G w0 R (⟨fun k => w.heap.size ≤ k ∧ k < w2.heap.size, P⟩ :: T) w2) := by
  have h2 := (Sta.call h hb).out
  refine ⟨h2.bel, h2.row, fun t ht => ?_, h2.dif, List.pairwise_cons.2 ⟨fun t ht k hk hd => ?_, h2.dis⟩, fun x hx t ht hd => ?_⟩
  · rcases List.mem_cons.1 ht with rfl | ht
    · exact ⟨fun k hk => hk.2, hP⟩
    · exact h2.thg t ht
  · have := (h.out.thg t ht).lt k hd
    have := hk.1
    omega
  · rcases List.mem_cons.1 ht with rfl | ht
    · have := (h.out.row x hx).2.2.lt (h.out.row x hx).2.1
      have : w.heap.size ≤ x.1 := hd.1
      omega
    · exact h2.off x hx t ht hd
theorem Sta.new {l : List Value} (h : Hid (Sta G w0 R T w)) (hr : RowV w2 w.heap.size l) (hb : Below w.heap.size w w2) (hn : l ≠ []) : Hid (Sta G w0 ((w.heap.size, l) :: R) T w2) := by
  have h2 := (Sta.call h hb).out
  refine ⟨h2.bel, fun x hx => ?_, h2.thg, List.pairwise_cons.2 ⟨fun x hx e => ?_, h2.dif⟩, h2.dis, fun x hx t ht hd => ?_⟩
  · rcases List.mem_cons.1 hx with rfl | hx
    · exact ⟨Or.inl h.out.bel.size, hn, hr⟩
    · exact h2.row x hx
  · have := (h.out.row x hx).2.2.lt (h.out.row x hx).2.1
    have : w.heap.size = x.1 := e
    omega
  · rcases List.mem_cons.1 hx with rfl | hx
    · have := (h.out.thg t ht).lt _ hd
      exact absurd this (Nat.lt_irrefl _)
    · exact h2.off x hx t ht hd
theorem Sta.put {g : Nat} {l l' : List Value} (i : Nat) (h : Hid (Sta G w0 R T w)) (hi : R[i]? = some (g, l)) (hr : RowV w2 g l') (hn : l' ≠ []) (ho : Only g w w2) : Hid (Sta G w0 (R.set i (g, l')) T w2) := by
  obtain ⟨hlt, he⟩ := List.getElem?_eq_some_iff.1 hi
  have hmem : (g, l) ∈ R := he ▸ List.getElem_mem hlt
  have hne : ∀ j (hj : j < R.length), j ≠ i → R[j].1 ≠ g := fun j hj hji e => by
    rcases Nat.lt_or_gt_of_ne hji with h1 | h1
    · have := List.pairwise_iff_getElem.1 h.out.dif j i hj hlt h1
      rw [he] at this
      exact this e
    · have := List.pairwise_iff_getElem.1 h.out.dif i j hlt hj h1
      rw [he] at this
      exact this e.symm
  have hset : ∀ x ∈ R.set i (g, l'), x = (g, l') ∨ (x ∈ R ∧ x.1 ≠ g) := fun x hx => by
    obtain ⟨j, hj, rfl⟩ := List.mem_iff_getElem.1 hx
    rw [List.getElem_set]
    by_cases e : i = j
    · rw [if_pos e]; exact Or.inl rfl
    · rw [if_neg e]
      rw [List.length_set] at hj
      exact Or.inr ⟨List.getElem_mem hj, hne j hj (fun h => e h.symm)⟩
  refine ⟨h.out.bel.step (ho.below.mono (Nat.zero_le _)) fun k hk hl => ho.blk k (fun e => ?_) (Nat.lt_of_lt_of_le hk h.out.bel.size), fun x hx => ?_, fun t ht => (h.out.thg t ht).chg ho.mrk fun k hk => ?_, ?_, h.out.dis, fun x hx t ht => ?_⟩
  · subst e
    rcases (h.out.row _ hmem).1 with h1 | h1
    · exact absurd hk (Nat.not_lt_of_le h1)
    · exact hl h1
  · rcases hset x hx with rfl | ⟨hx, hxg⟩
    · exact ⟨(h.out.row _ hmem).1, hn, hr⟩
    · exact ⟨(h.out.row x hx).1, (h.out.row x hx).2.1, ho.row (h.out.row x hx).2.2 (h.out.row x hx).2.1 hxg⟩
  · subst hk
    exact h.out.off _ hmem t ht
  · rw [List.pairwise_iff_getElem]
    intro a b ha hb hab
    rw [List.length_set] at ha hb
    have h1 := List.pairwise_iff_getElem.1 h.out.dif a b ha hb hab
    rw [List.getElem_set, List.getElem_set]
    by_cases e1 : i = a
    · subst e1
      rw [if_pos rfl, if_neg (by omega)]
      rw [he] at h1
      exact h1
    · rw [if_neg e1]
      by_cases e2 : i = b
      · subst e2
        rw [if_pos rfl]
        rw [he] at h1
        exact h1
      · rw [if_neg e2]
        exact h1
  · rcases hset x hx with rfl | ⟨hx, _⟩
    · exact h.out.off _ hmem t ht
    · exact h.out.off x hx t ht
/- A thing is written, none other. -/
theorem Sta.mark {D : Nat → Prop} {P' : World → Prop} {t : Thing} (i : Nat) (h : Hid (Sta G w0 R T w)) (hi : T[i]? = some t) (hm : Mrk D w w2) (hD : ∀ k, D k → t.dom k) (hg : ∀ k, t.dom k → w0.heap.size ≤ k) (hP : ∀ w3, Mrk (fun k => ¬ t.dom k) w2 w3 → P' w3) : Hid (Sta G w0 R (T.set i ⟨t.dom, P'⟩) w2) := by
  obtain ⟨hlt, he⟩ := List.getElem?_eq_some_iff.1 hi
  have hmem : t ∈ T := he ▸ List.getElem_mem hlt
  have hset : ∀ s ∈ T.set i ⟨t.dom, P'⟩, s = ⟨t.dom, P'⟩ ∨ (s ∈ T ∧ ∀ k, t.dom k → ¬ s.dom k) := fun s hs => by
    obtain ⟨j, hj, rfl⟩ := List.mem_iff_getElem.1 hs
    rw [List.getElem_set]
    rw [List.length_set] at hj
    by_cases e : i = j
    · rw [if_pos e]; exact Or.inl rfl
    · rw [if_neg e]
      refine Or.inr ⟨List.getElem_mem hj, fun k hk hd => ?_⟩
      rcases Nat.lt_or_gt_of_ne e with h1 | h1
      · have := List.pairwise_iff_getElem.1 h.out.dis i j hlt hj h1 k
        rw [he] at this
        exact this hk hd
      · have := List.pairwise_iff_getElem.1 h.out.dis j i hj hlt h1 k
        rw [he] at this
        exact this hd hk
  have hbw : Below w0.heap.size w w2 := hm.below _ h.out.bel.size fun b hb => hg b (hD b hb)
  refine ⟨h.out.bel.step (hbw.mono (Nat.zero_le _)) fun k hk _ => hbw.block k hk, fun x hx => ⟨(h.out.row x hx).1, (h.out.row x hx).2.1, hm.row (h.out.row x hx).2.2 (h.out.row x hx).2.1 fun hd => h.out.off x hx t hmem (hD _ hd)⟩, fun s hs => ?_, h.out.dif, ?_, fun x hx s hs => ?_⟩
  · rcases hset s hs with rfl | ⟨hs, hd⟩
    · exact ⟨fun k hk => Nat.lt_of_lt_of_le ((h.out.thg t hmem).lt k hk) hm.size, hP⟩
    · exact (h.out.thg s hs).chg hm fun k hk => hd k (hD k hk)
  · rw [List.pairwise_iff_getElem]
    intro a b ha hb hab
    rw [List.length_set] at ha hb
    have h1 := List.pairwise_iff_getElem.1 h.out.dis a b ha hb hab
    rw [List.getElem_set, List.getElem_set]
    by_cases e1 : i = a
    · subst e1
      rw [if_pos rfl, if_neg (by omega)]
      rw [he] at h1
      exact h1
    · rw [if_neg e1]
      by_cases e2 : i = b
      · subst e2
        rw [if_pos rfl]
        rw [he] at h1
        exact h1
      · rw [if_neg e2]
        exact h1
  · rcases hset s hs with rfl | ⟨hs, _⟩
    · exact h.out.off x hx t hmem
    · exact h.out.off x hx s hs
theorem Sta.c {i k g : Nat} {l : List Value} {v : Value} (h : Hid (Sta G w0 R T w)) (hi : R[i]? = some (g, l)) (hk : l[k]? = some v) : w.cell? ⟨g, k, none⟩ = some v := by
  obtain ⟨hlt, he⟩ := List.getElem?_eq_some_iff.1 hi
  exact (h.out.row (g, l) (he ▸ List.getElem_mem hlt)).2.2.cell hk
theorem Sta.r {i g : Nat} {l : List Value} (h : Hid (Sta G w0 R T w)) (hi : R[i]? = some (g, l)) : RowV w g l := by
  obtain ⟨hlt, he⟩ := List.getElem?_eq_some_iff.1 hi
  exact (h.out.row (g, l) (he ▸ List.getElem_mem hlt)).2.2
theorem Sta.t {i : Nat} {t : Thing} (h : Hid (Sta G w0 R T w)) (hi : T[i]? = some t) : t.P w := by
  obtain ⟨hlt, he⟩ := List.getElem?_eq_some_iff.1 hi
  exact (h.out.thg t (he ▸ List.getElem_mem hlt)).now
theorem Sta.lt {i : Nat} {t : Thing} (h : Hid (Sta G w0 R T w)) (hi : T[i]? = some t) (k : Nat) (hk : t.dom k) : k < w.heap.size := by
  obtain ⟨hlt, he⟩ := List.getElem?_eq_some_iff.1 hi
  exact (h.out.thg t (he ▸ List.getElem_mem hlt)).lt k hk
theorem Sta.apart {i j : Nat} {s t : Thing} (h : Hid (Sta G w0 R T w)) (hi : T[i]? = some s) (hj : T[j]? = some t) (hij : i < j) (k : Nat) (hs : s.dom k) : ¬ t.dom k := by
  obtain ⟨h1, e1⟩ := List.getElem?_eq_some_iff.1 hi
  obtain ⟨h2, e2⟩ := List.getElem?_eq_some_iff.1 hj
  have := List.pairwise_iff_getElem.1 h.out.dis i j h1 h2 hij k
  rw [e1, e2] at this
  exact this hs
theorem Sta.made_of {i : Nat} {t : Thing} (h : Hid (Sta G w0 R T w)) (hi : T[i]? = some t) (hg : ∀ k, t.dom k → w0.heap.size ≤ k) : Made w0 w t.P := by
  obtain ⟨hlt, he⟩ := List.getElem?_eq_some_iff.1 hi
  have h1 := h.out.thg t (he ▸ List.getElem_mem hlt)
  exact fun w2 hw => h1.st w2 (hw.mono fun k hk hd => hk ⟨hg k hd, h1.lt k hd⟩)
theorem Sta.fin (h : Hid (Sta [] w0 R T w)) : Below w0.heap.size w0 w := ⟨h.out.bel.bel.os, h.out.bel.bel.tape, h.out.bel.bel.output, h.out.bel.bel.size, fun k hk => h.out.bel.blk k hk (by simp)⟩
theorem Sta.only {g : Nat} (h : Hid (Sta [g] w0 R T w)) (hg : g < w0.heap.size) : Only g w0 w :=
  ⟨⟨h.out.bel.bel.os, h.out.bel.bel.tape, h.out.bel.bel.output, h.out.bel.bel.size, fun k hk => h.out.bel.blk k (by omega) (by simp; omega)⟩, fun k hk hl => h.out.bel.blk k hl (by simp; exact hk), h.out.bel.size⟩
theorem Sta.size (h : Hid (Sta G w0 R T w)) : w0.heap.size ≤ w.heap.size := h.out.bel.size
end
theorem wpList_storeS {P : Program} {ops : Array Oper} {rest : List Oper} {o : Oper} {a : Act} {w : World} {Q : Exit → Act → World → Prop} (hg : o.guard = none) (t : TypeId) (x y : Operand) (ho : o.op = .store t x y) (g : Nat) (l l' : List Value)
    (hx : a.eval x = .pointer (some ⟨g, 0, none⟩)) (hy : a.eval y = .agg l'.toArray) (hl : RowV w g l) (n : Nat) (hi : (P.info? t).map (·.size) = some n) (hn : l.length = n) (hn' : l'.length = n) (h1 : l'.all Value.oneCell' = true)
    (h : ∀ w', RowV w' g l' → Only g w w' → wpList P ops Q rest (a.put o.dst undef) w') : wpList P ops Q (o :: rest) a w :=
  wpList_storeH hg t x y ho g l l' hx hy hl n hi hn hn' (List.all_eq_true.1 h1) fun w' hA hB hF hS => h w' hA (Only.set hB hF hS)
theorem wpList_subS {P : Program} {ops : Array Oper} {rest : List Oper} {o : Oper} {a : Act} {w : World} {Q : Exit → Act → World → Prop} (hg : o.guard = none) (t : TypeId) (x y : Operand) (ho : o.op = .store t x y) (g p n : Nat) (l l2 l' : List Value)
    (hx : a.eval x = .pointer (some ⟨g, p, none⟩)) (hy : a.eval y = .agg l2.toArray) (hi : (P.info? t).map (·.size) = some n) (hn : l2.length = n) (h1 : l2.all Value.oneCell' = true) (hl : RowV w g l) (hp : p + n ≤ l.length) (hl' : l' = l.take p ++ (l2 ++ l.drop (p + n)))
    (h : ∀ w', RowV w' g l' → Only g w w' → wpList P ops Q rest (a.put o.dst undef) w') : wpList P ops Q (o :: rest) a w := by
  subst hn
  refine wpList_storeAt hg t x y ho g p l2.length l2 hx hy (fun j hj => ?_) hi rfl (List.all_eq_true.1 h1) ?_
  · have := hl.ths (p + j) (by omega)
    rw [Nat.zero_add] at this
    exact this
  · exact h _ (hl.midS hp hl') (Only.set (fun B hB => below_set hB) (fun k hk => setCells_blk g _ _ _ k hk) (setCells_size g _ p w))
theorem wpList_cellS {P : Program} {ops : Array Oper} {rest : List Oper} {o : Oper} {a : Act} {w : World} {Q : Exit → Act → World → Prop} (hg : o.guard = none) (t : TypeId) (x y : Operand) (ho : o.op = .store t x y) (g k : Nat) (l l' : List Value) (v : Value)
    (hx : a.eval x = .pointer (some ⟨g, k, none⟩)) (hy : a.eval y = v) (hp : plainV v = true) (hi : (P.info? t).map (·.size) = some 1) (hl : RowV w g l) (hk : k < l.length) (hl' : l' = l.set k v)
    (h : ∀ w', RowV w' g l' → Only g w w' → wpList P ops Q rest (a.put o.dst undef) w') : wpList P ops Q (o :: rest) a w :=
  wpList_plain hg fun K hK => wp_cellO t x y ho g k l l' v hx hy hp hi hl hk hl' (fun w' h1 h2 => hK _ _ (h w' h1 h2))
theorem wpList_ldS {P : Program} {ops : Array Oper} {rest : List Oper} {o : Oper} {a : Act} {w : World} {Q : Exit → Act → World → Prop} (hg : o.guard = none) (t : TypeId) (x : Operand) (ho : o.op = .load t x) (g p : Nat) (l l2 : List Value)
    (hx : a.eval x = .pointer (some ⟨g, p, none⟩)) (hl : RowV w g l) (hu : ∃ d, P.underlying t = some d ∧ d.isRow = true) (n : Nat) (hi : (P.info? t).map (·.size) = some n) (hn : l2.length = n) (hs : (l.drop p).take n = l2)
    (h : wpList P ops Q rest (a.put o.dst (.agg l2.toArray)) w) : wpList P ops Q (o :: rest) a w := by
  obtain ⟨d, hd, hr⟩ := hu
  refine wpList_load_mid hg t x ho g p hx l2 d (fun j v hv => ?_) hd hr (by rw [hn]; exact hi) h
  rw [← hs, List.getElem?_take] at hv
  by_cases hj : j < n
  · rw [if_pos hj, List.getElem?_drop] at hv
    exact hl.cell hv
  · rw [if_neg hj] at hv
    cases hv
end Go.Proofs.Ytaalegjhhpfhbaa
