/- What stands: things told anew, rows and things let go; rows of structs that lie flat. -/
import Derived.Test.YtaalegjhhpfhbaaSta
import Derived.Test.YtaalegjhhpfhbaaElm
namespace Go.Proofs.Ytaalegjhhpfhbaa
open Go.RowKit
set_option linter.unusedVariables false

section
variable {G : List Nat} {w0 w w2 : World} {R R' : List (Nat × List Value)} {T T' : List Thing}
theorem Sta.sub (h : Hid (Sta G w0 R T w)) (hR : R'.Sublist R) (hT : T'.Sublist T) : Hid (Sta G w0 R' T' w) :=
  ⟨h.out.bel, fun x hx => h.out.row x (hR.subset hx), fun t ht => h.out.thg t (hT.subset ht), h.out.dif.sublist hR, h.out.dis.sublist hT, fun x hx t ht => h.out.off x (hR.subset hx) t (hT.subset ht)⟩
theorem Sta.drop (a b : Nat) (h : Hid (Sta G w0 R T w)) : Hid (Sta G w0 (R.drop a) (T.drop b) w) := Sta.sub h (List.drop_sublist _ _) (List.drop_sublist _ _)
theorem Sta.imp {t : Thing} (i : Nat) (P' : World → Prop) (h : Hid (Sta G w0 R T w)) (hi : T[i]? = some t) (hp : ∀ w, t.P w → P' w) : Hid (Sta G w0 R (T.set i ⟨t.dom, P'⟩) w) := by
  obtain ⟨hlt, he⟩ := List.getElem?_eq_some_iff.1 hi
  have hmem : t ∈ T := he ▸ List.getElem_mem hlt
  have hset : ∀ s ∈ T.set i ⟨t.dom, P'⟩, s = ⟨t.dom, P'⟩ ∨ s ∈ T := fun s hs => by
    obtain ⟨j, hj, rfl⟩ := List.mem_iff_getElem.1 hs
    rw [List.getElem_set]
    rw [List.length_set] at hj
    by_cases e : i = j
    · rw [if_pos e]; exact Or.inl rfl
    · rw [if_neg e]; exact Or.inr (List.getElem_mem hj)
  refine ⟨h.out.bel, h.out.row, fun s hs => ?_, h.out.dif, ?_, fun x hx s hs => ?_⟩
  · rcases hset s hs with rfl | hs
    · exact ⟨(h.out.thg t hmem).lt, fun w' hw => hp _ ((h.out.thg t hmem).st w' hw)⟩
    · exact h.out.thg s hs
  · rw [List.pairwise_iff_getElem]
    intro a b ha hb hab
    rw [List.length_set] at ha hb
    have h1 := List.pairwise_iff_getElem.1 h.out.dis a b ha hb hab
    rw [List.getElem_set, List.getElem_set]
    by_cases e1 : i = a
    · subst e1
      rw [if_pos rfl, if_neg (by omega)]
      rw [he] at h1
      exact h1
    · rw [if_neg e1]
      by_cases e2 : i = b
      · subst e2
        rw [if_pos rfl]
        rw [he] at h1
        exact h1
      · rw [if_neg e2]
        exact h1
  · rcases hset s hs with rfl | hs
    · exact h.out.off x hx t hmem
    · exact h.out.off x hx s hs
/- A row of the call's own, that grows: none so far; an append. -/
theorem Sta.own0 (base e s : Nat) (h : Hid (Sta G w0 R T w)) : Hid (Sta G w0 R (⟨fun k => (Value.slice none 0 0).ownBlock = some k, fun w' => w'.ownsRow base e s (.slice none 0 0) 0 []⟩ :: T) w) := by
  refine ⟨h.out.bel, h.out.row, fun t ht => ?_, h.out.dif, List.pairwise_cons.2 ⟨fun t _ k hk => (by cases hk), h.out.dis⟩, fun x hx t ht => ?_⟩
  · rcases List.mem_cons.1 ht with rfl | ht
    · exact ⟨fun k hk => (by cases hk), fun w' _ => World.ownsRow_nil w' base e s⟩
    · exact h.out.thg t ht
  · rcases List.mem_cons.1 ht with rfl | ht
    · exact fun hk => by cases hk
    · exact h.out.off x hx t ht
theorem grown_mrk {v : Value} (hg : w.grownBy w2 v.ownBlock) : Mrk (fun k => v.ownBlock = some k) w w2 :=
  ⟨fun k hk hn => hg.block k hk (fun e => hn e.symm), fun B hB hb => ⟨hg.os, hg.tape, hg.output, hg.size, fun k hk => hg.block k (Nat.lt_of_lt_of_le hk hB) (fun e => by have := hb k e.symm; omega)⟩, hg.size⟩
theorem Sta.app {base e s n n' : Nat} {v v' : Value} {xs xs' : List Value} (i : Nat) (h : Hid (Sta G w0 R T w)) (hi : T[i]? = some ⟨fun k => v.ownBlock = some k, fun w' => w'.ownsRow base e s v n xs⟩) (hb0 : w0.heap.size ≤ base) (ho : w2.ownsRow base e s v' n' xs') (hg : w.grownBy w2 v.ownBlock) (hb : v'.ownBlock = v.ownBlock ∨ v'.ownBlock = some w.heap.size) : Hid (Sta G w0 R (T.set i ⟨fun k => v'.ownBlock = some k, fun w' => w'.ownsRow base e s v' n' xs'⟩) w2) := by
  obtain ⟨hlt, he⟩ := List.getElem?_eq_some_iff.1 hi
  have hmem : (⟨fun k => v.ownBlock = some k, fun w' => w'.ownsRow base e s v n xs⟩ : Thing) ∈ T := he ▸ List.getElem_mem hlt
  have hm := grown_mrk hg
  have hown : ∀ k, v.ownBlock = some k → base ≤ k ∧ k < w.heap.size := fun k hk => own_ge (h.out.thg _ hmem).now hk
  have hset : ∀ t ∈ T.set i ⟨fun k => v'.ownBlock = some k, fun w' => w'.ownsRow base e s v' n' xs'⟩, t = ⟨fun k => v'.ownBlock = some k, fun w' => w'.ownsRow base e s v' n' xs'⟩ ∨ (t ∈ T ∧ ∀ k, v.ownBlock = some k → ¬ t.dom k) := fun t ht => by
    obtain ⟨j, hj, rfl⟩ := List.mem_iff_getElem.1 ht
    rw [List.getElem_set]
    rw [List.length_set] at hj
    by_cases e : i = j
    · rw [if_pos e]; exact Or.inl rfl
    · rw [if_neg e]
      refine Or.inr ⟨List.getElem_mem hj, fun k hk hd => ?_⟩
      rcases Nat.lt_or_gt_of_ne e with h1 | h1
      · have := List.pairwise_iff_getElem.1 h.out.dis i j hlt hj h1 k
        rw [he] at this
        exact this hk hd
      · have := List.pairwise_iff_getElem.1 h.out.dis j i hj hlt h1 k hd
        rw [he] at this
        exact this hk
  have hnew : ∀ t ∈ T, (∀ k, v.ownBlock = some k → ¬ t.dom k) → ∀ k, v'.ownBlock = some k → ¬ t.dom k := fun t ht hd k hk hkd => by
    rcases hb with hb | hb
    · exact hd k (hb ▸ hk) hkd
    · rw [hb] at hk
      injection hk with hk
      have := (h.out.thg t ht).lt k hkd
      omega
  refine ⟨h.out.bel.step ⟨hg.os, hg.tape, hg.output, hg.size, fun k hk => absurd hk (Nat.not_lt_zero _)⟩ fun k hk _ => hg.block k (Nat.lt_of_lt_of_le hk h.out.bel.size) (fun e => by have := hown k e.symm; omega), fun x hx => ⟨(h.out.row x hx).1, (h.out.row x hx).2.1, hm.row (h.out.row x hx).2.2 (h.out.row x hx).2.1 (h.out.off x hx _ hmem)⟩, fun t ht => ?_, h.out.dif, ?_, fun x hx t ht => ?_⟩
  · rcases hset t ht with rfl | ⟨ht, hd⟩
    · exact ⟨fun k hk => (own_ge ho hk).2, fun w' hw => own_same ho fun k hk hl => hw.blk k hl (fun hn => hn hk)⟩
    · exact (h.out.thg t ht).chg hm fun k hk => hd k hk
  · rw [List.pairwise_iff_getElem]
    intro a b ha hb2 hab
    rw [List.length_set] at ha hb2
    have h1 := List.pairwise_iff_getElem.1 h.out.dis a b ha hb2 hab
    rw [List.getElem_set, List.getElem_set]
    by_cases e1 : i = a
    · subst e1
      rw [if_pos rfl, if_neg (by omega)]
      rw [he] at h1
      exact fun k hk => hnew _ (List.getElem_mem hb2) h1 k hk
    · rw [if_neg e1]
      by_cases e2 : i = b
      · subst e2
        rw [if_pos rfl]
        rw [he] at h1
        exact fun k hk hd => hnew _ (List.getElem_mem ha) (fun k hk hd => h1 k hd hk) k hd hk
      · rw [if_neg e2]
        exact h1
  · rcases hset t ht with rfl | ⟨ht, _⟩
    · intro hk
      have h1 := h.out.off x hx _ hmem
      rcases hb with hb | hb
      · exact h1 (hb ▸ hk)
      · have hk2 : v'.ownBlock = some x.1 := hk
        rw [hb] at hk2
        injection hk2 with hk2
        have := (h.out.row x hx).2.2.lt (h.out.row x hx).2.1
        omega
    · exact h.out.off x hx t ht
end
theorem flatS_len {s : Nat} : ∀ L : List (List Value), (∀ l ∈ L, l.length = s) → L.flatten.length = L.length * s
  | [], _ => by simp
  | x :: L, h => by
    rw [List.flatten_cons, List.length_append, flatS_len L (fun l hl => h l (List.mem_cons_of_mem _ hl)), h x (List.mem_cons_self ..), List.length_cons, Nat.add_mul, Nat.one_mul, Nat.add_comm]
theorem flatS_get {s : Nat} : ∀ (L : List (List Value)), (∀ l ∈ L, l.length = s) → ∀ (i j : Nat) (hi : i < L.length), j < s → L.flatten[i * s + j]? = L[i][j]?
  | [], _, i, j, hi, _ => absurd hi (Nat.not_lt_zero _)
  | x :: L, h, 0, j, hi, hj => by
    rw [List.flatten_cons, Nat.zero_mul, Nat.zero_add, List.getElem?_append_left (by rw [h x (List.mem_cons_self ..)]; exact hj)]
    rfl
  | x :: L, h, i + 1, j, hi, hj => by
    have hx := h x (List.mem_cons_self ..)
    rw [List.flatten_cons, List.getElem?_append_right (by rw [hx, Nat.add_mul, Nat.one_mul]; omega), hx, show (i + 1) * s + j - s = i * s + j by rw [Nat.add_mul, Nat.one_mul]; omega]
    rw [flatS_get L (fun l hl => h l (List.mem_cons_of_mem _ hl)) i j (by simpa using hi) hj]
    rfl
theorem BldV.flat {w : World} {g s n : Nat} {L : List (List Value)} (h : BldV w g s n L n) (hn : L.length = n) (hs : ∀ l ∈ L, l.length = s) (h0 : 0 < s) : RowV w g L.flatten := by
  have hl := flatS_len L hs
  refine ⟨fun j v hv => ?_, by rw [hl, hn]; exact h.ths⟩
  have hj : j < L.flatten.length := by
    rcases Nat.lt_or_ge j L.flatten.length with h1 | h1
    · exact h1
    · rw [List.getElem?_eq_none h1] at hv; cases hv
  have hi : j / s < L.length := by rw [hl] at hj; exact Nat.div_lt_of_lt_mul (by rw [Nat.mul_comm]; exact hj)
  have hm : j % s < s := Nat.mod_lt _ h0
  have e : j / s * s + j % s = j := by rw [Nat.mul_comm]; exact Nat.div_add_mod j s
  have hr := h.rng (j / s) hi (by omega) (j % s) v (by rw [← flatS_get L hs _ _ hi hm, e]; exact hv)
  rw [Nat.zero_add]
  rw [e] at hr
  exact hr
/- What holds while nothing is written between b and n. -/
def Kee (b n : Nat) (w : World) (P : World → Prop) : Prop := ∀ w2, Mrk (fun k => ¬ (b ≤ k ∧ k < n)) w w2 → P w2
theorem Kee.of {w0 w : World} {P : World → Prop} (h : Made w0 w P) : Kee w0.heap.size w.heap.size w P := h
theorem Kee.step {b n G : Nat} {w w' : World} {P : World → Prop} (h : Kee b n w P) (m : Only G w w') (hG : G < b) : Kee b n w' P := fun w2 hw => h w2 ((m.mrk.mono fun k e hc => by subst e; omega).trans hw)
theorem Kee.drew {b n : Nat} {w : World} {P : World → Prop} (h : Kee b n w P) : Kee b n w.drew P := fun w2 hw => h w2 ((Mrk.refl _ _).drew.trans hw)
theorem Kee.made {b n : Nat} {w0 w : World} {P : World → Prop} (h : Kee b n w P) (hb : w0.heap.size ≤ b) (hn : n ≤ w.heap.size) : Made w0 w P := fun w2 hw => h w2 (hw.mono fun k hk hc => hk ⟨by omega, by omega⟩)
theorem rowv_made {w0 w : World} {g : Nat} {L : List Value} (h : RowV w g L) (h1 : w0.heap.size ≤ g) (h2 : g < w.heap.size) : Made w0 w (fun w2 => RowV w2 g L) := fun w2 hw => h.same fun k => hw.far ⟨g, k, none⟩ h2 (fun hn => hn ⟨h1, h2⟩)
end Go.Proofs.Ytaalegjhhpfhbaa
