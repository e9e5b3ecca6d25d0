/- What stands: things told anew, rows and things let go; rows of structs that lie flat. -/
import Derived.Test.YtchfpiadfmnphaaSta
import Derived.Test.YtchfpiadfmnphaaElm
namespace Go.Proofs.Ytchfpiadfmnphaa
open Go.RowKit
set_option linter.unusedVariables false

section
variable {G : List Nat} {w0 w w2 : World} {R R' : List (Nat × List Value)} {T T' : List Thing}
theorem Sta.sub (h : Hid (Sta G w0 R T w)) (hR : R'.Sublist R) (hT : T'.Sublist T) : Hid (Sta G w0 R' T' w) :=
  ⟨h.out.bel, fun x hx => h.out.row x (hR.subset hx), fun t ht => h.out.thg t (hT.subset ht), h.out.dif.sublist hR, h.out.dis.sublist hT, fun x hx t ht => h.out.off x (hR.subset hx) t (hT.subset ht)⟩
theorem Sta.drop (a b : Nat) (h : Hid (Sta G w0 R T w)) : Hid (Sta G w0 (R.drop a) (T.drop b) w) := Sta.sub h (List.drop_sublist _ _) (List.drop_sublist _ _)
theorem Sta.imp {t : Thing} (i : Nat) (P' : World → Prop) (h : Hid (Sta G w0 R T w)) (hi : T[i]? = some t) (hp : ∀ w, t.P w → P' w) : Hid (Sta G w0 R (T.set i ⟨t.dom, P'⟩) w) := by
  obtain ⟨hlt, he⟩ := List.getElem?_eq_some_iff.1 hi
  have hmem : t ∈ T := he ▸ List.getElem_mem hlt
  have hset : ∀ s ∈ T.set i ⟨t.dom, P'⟩, s = ⟨t.dom, P'⟩ ∨ s ∈ T := fun s hs => by
    obtain ⟨j, hj, rfl⟩ := List.mem_iff_getElem.1 hs
    rw [List.getElem_set]
    rw [List.length_set] at hj
    by_cases e : i = j
    · rw [if_pos e]; exact Or.inl rfl
    · rw [if_neg e]; exact Or.inr (List.getElem_mem hj)
  refine ⟨h.out.bel, h.out.row, fun s hs => ?_, h.out.dif, ?_, fun x hx s hs => ?_⟩
  · rcases hset s hs with rfl | hs
    · exact ⟨(h.out.thg t hmem).lt, fun w' hw => hp _ ((h.out.thg t hmem).st w' hw)⟩
    · exact h.out.thg s hs
  · rw [List.pairwise_iff_getElem]
    intro a b ha hb hab
    rw [List.length_set] at ha hb
    have h1 := List.pairwise_iff_getElem.1 h.out.dis a b ha hb hab
    rw [List.getElem_set, List.getElem_set]
    by_cases e1 : i = a
    · subst e1
      rw [if_pos rfl, if_neg (by omega)]
      rw [he] at h1
      exact h1
    · rw [if_neg e1]
      by_cases e2 : i = b
      · subst e2
        rw [if_pos rfl]
        rw [he] at h1
        exact h1
      · rw [if_neg e2]
        exact h1
  · rcases hset s hs with rfl | hs
    · exact h.out.off x hx t hmem
    · exact h.out.off x hx s hs
end
theorem flat_len {s : Nat} : ∀ L : List (List Value), (∀ l ∈ L, l.length = s) → L.flatten.length = L.length * s
  | [], _ => by simp
  | x :: L, h => by
    rw [List.flatten_cons, List.length_append, flat_len L (fun l hl => h l (List.mem_cons_of_mem _ hl)), h x (List.mem_cons_self ..), List.length_cons, Nat.add_mul, Nat.one_mul, Nat.add_comm]
theorem flat_get {s : Nat} : ∀ (L : List (List Value)), (∀ l ∈ L, l.length = s) → ∀ (i j : Nat) (hi : i < L.length), j < s → L.flatten[i * s + j]? = L[i][j]?
  | [], _, i, j, hi, _ => absurd hi (Nat.not_lt_zero _)
  | x :: L, h, 0, j, hi, hj => by
    rw [List.flatten_cons, Nat.zero_mul, Nat.zero_add, List.getElem?_append_left (by rw [h x (List.mem_cons_self ..)]; exact hj)]
    rfl
  | x :: L, h, i + 1, j, hi, hj => by
    have hx := h x (List.mem_cons_self ..)
    rw [List.flatten_cons, List.getElem?_append_right (by rw [hx, Nat.add_mul, Nat.one_mul]; omega), hx, show (i + 1) * s + j - s = i * s + j by rw [Nat.add_mul, Nat.one_mul]; omega]
    rw [flat_get L (fun l hl => h l (List.mem_cons_of_mem _ hl)) i j (by simpa using hi) hj]
    rfl
theorem BldV.flat {w : World} {g s n : Nat} {L : List (List Value)} (h : BldV w g s n L n) (hn : L.length = n) (hs : ∀ l ∈ L, l.length = s) (h0 : 0 < s) : RowV w g L.flatten := by
  have hl := flat_len L hs
  refine ⟨fun j v hv => ?_, by rw [hl, hn]; exact h.ths⟩
  have hj : j < L.flatten.length := by
    rcases Nat.lt_or_ge j L.flatten.length with h1 | h1
    · exact h1
    · rw [List.getElem?_eq_none h1] at hv; cases hv
  have hi : j / s < L.length := by rw [hl] at hj; exact Nat.div_lt_of_lt_mul (by rw [Nat.mul_comm]; exact hj)
  have hm : j % s < s := Nat.mod_lt _ h0
  have e : j / s * s + j % s = j := by rw [Nat.mul_comm]; exact Nat.div_add_mod j s
  have hr := h.rng (j / s) hi (by omega) (j % s) v (by rw [← flat_get L hs _ _ hi hm, e]; exact hv)
  rw [Nat.zero_add]
  rw [e] at hr
  exact hr
theorem rowv_made {w0 w : World} {g : Nat} {L : List Value} (h : RowV w g L) (h1 : w0.heap.size ≤ g) (h2 : g < w.heap.size) : Made w0 w (fun w2 => RowV w2 g L) := fun w2 hw => h.same fun k => hw.far ⟨g, k, none⟩ h2 (fun hn => hn ⟨h1, h2⟩)
end Go.Proofs.Ytchfpiadfmnphaa
