/- Two unlike pairs with one hash are found. -/
import Derived.Test.YtdfglpbappeoaabDoorLwW
namespace Go.Proofs.YtdfglpbappeoaabDoor
open Go.RowKit
set_option linter.unusedVariables false

set_option maxRecDepth 100000 in
theorem clash_at {L : List Pair} (h : Mer.Clash nodeD L) : ∃ (i0 k0 : Nat) (x y : Pair), k0 < i0 ∧ i0 < L.length ∧ L[i0]? = some x ∧ L[k0]? = some y ∧ x ≠ y ∧ nodeD x.1 x.2 = nodeD y.1 y.2 := by
  obtain ⟨x, hx, y, hy, hne, he⟩ := h
  obtain ⟨i, hi, rfl⟩ := List.mem_iff_getElem.1 hx
  obtain ⟨j, hj, rfl⟩ := List.mem_iff_getElem.1 hy
  rcases Nat.lt_trichotomy i j with h1 | h1 | h1
  · exact ⟨j, i, _, _, h1, hj, List.getElem?_eq_getElem hj, List.getElem?_eq_getElem hi, fun e => hne e.symm, he.symm⟩
  · subst h1; exact absurd rfl hne
  · exact ⟨i, j, _, _, h1, hi, List.getElem?_eq_getElem hi, List.getElem?_eq_getElem hj, hne, he⟩
structure KpZ (w : World) (g : Nat) (L : List Pair) (w' : World) : Prop where
  below : Below w.heap.size w w'
  pa : PA w' g 0 L
set_option maxRecDepth 100000 in
theorem KpZ.call {w w' w2 : World} {g : Nat} {L : List Pair} (h : Hid (KpZ w g L w')) (hb : Below w'.heap.size w' w2) : Hid (KpZ w g L w2) := ⟨h.out.below.trans (hb.mono h.out.below.size), h.out.pa.below hb⟩
theorem KpZ.drew {w w' : World} {g : Nat} {L : List Pair} (h : Hid (KpZ w g L w')) : Hid (KpZ w g L w'.drew) := ⟨h.out.below.drew, h.out.pa⟩
theorem KpZ.drewN {w w' : World} {g : Nat} {L : List Pair} (h : Hid (KpZ w g L w')) (n : Nat) : Hid (KpZ w g L (w'.drewN n)) := ⟨belowN h.out.below n, h.out.pa⟩
set_option maxRecDepth 100000 in
theorem KpZ.at {w w' : World} {g i : Nat} {L : List Pair} {x : Pair} (h : Hid (KpZ w g L w')) (hx : L[i]? = some x) : w'.cell? ⟨g, i * 2, none⟩ = some (.string x.1) ∧ w'.cell? ⟨g, i * 2 + 1, none⟩ = some (.string x.2) := by
  obtain ⟨hi, rfl⟩ := List.getElem?_eq_some_iff.1 hx
  have := prC_get L i hi
  have h1 := h.out.pa (i * 2) _ this.1
  have h2 := h.out.pa (i * 2 + 1) _ this.2
  rw [Nat.zero_add] at h1 h2
  exact ⟨h1, h2⟩
set_option maxRecDepth 100000 in
theorem KpZ.five {w w' : World} {g i k : Nat} {L : List Pair} {a b a' b' : ByteArray} (h : Hid (KpZ w g L w')) (hx : Hid (L[i]? = some (a, b))) (hy : Hid (L[k]? = some (a', b'))) : w'.cell? ⟨g, i * 2, none⟩ = some (.string a) ∧ w'.cell? ⟨g, i * 2 + 1, none⟩ = some (.string b) ∧ w'.cell? ⟨g, k * 2, none⟩ = some (.string a') ∧ w'.cell? ⟨g, k * 2 + 1, none⟩ = some (.string b') ∧ Hid (KpZ w g L w') :=
  ⟨(KpZ.at h hx.out).1, (KpZ.at h hx.out).2, (KpZ.at h hy.out).1, (KpZ.at h hy.out).2, h⟩
set_option maxRecDepth 100000 in
set_option maxHeartbeats 4000000 in
theorem lwClash_any (g c n : Nat) (L : List Pair) (w : World) (hL : L.length = n) (hA : PA w g 0 L) (h32 : ∀ x ∈ L, x.1.size = 32 ∧ x.2.size = 32) (hnb : n ≤ 2000) (hcl : Mer.Clash nodeD L) :
    Calls Tryd.prog 20 #[.slice (some ⟨g, 0, none⟩) n c] w fun e w' => e = .returned (.bool true) ∧ Below w.heap.size w w' := by
  obtain ⟨i0, k0, x0, y0, hk0, hi0, hx0, hy0, hne0, he0⟩ := clash_at hcl
  have hN0 : ∀ (p r : ByteArray) w0, p.size = 32 → r.size = 32 → Calls Tryd.prog 62 #[.string p, .string r] w0 fun e w' => e = .returned (.string (nodeD p r)) ∧ Below w0.heap.size w0 w' := fun p r w0 e1 e2 => by
    have := specNodeH p r w0 (by rw [e1]; decide) (by rw [e2]; decide)
    rw [show nodeA p r = nodeD p r from if_pos ⟨e1, e2⟩] at this
    exact this
  rw [hL] at hi0
  have HZ : Hid (KpZ w g L w) := ⟨Below.refl _ _, hA⟩
  have HL : Hid (L.length = n) := hL
  have H32 : Hid (∀ x ∈ L, x.1.size = 32 ∧ x.2.size = 32) := h32
  have HC : Hid (∀ (i k : Nat) (x y : Pair), L[i]? = some x → L[k]? = some y → i = i0 → k = k0 → x ≠ y ∧ nodeD x.1 x.2 = nodeD y.1 y.2) := fun i k x y h1 h2 h3 h4 => by
    subst h3 h4
    rw [hx0] at h1
    rw [hy0] at h2
    obtain rfl := Option.some.inj h1
    obtain rfl := Option.some.inj h2
    exact ⟨hne0, he0⟩
  clear hL hA h32 hcl hx0 hy0 hne0 he0
  go_enter Tryd.func20, Tryd.ntmps20
  go_wp2_with fail
  go_loopw [3] (fun vi wr => ∃ i : Nat, vi = .int .i64 (i : Int) ∧ i ≤ i0 ∧ Hid (KpZ w g L wr)) (fun vi _ => n - (intOf vi).toNat)
  case atStart => exact ⟨0, rfl, Nat.zero_le _, HZ⟩
  case round =>
    clear HZ
    obtain ⟨i, rfl, hi, HZ⟩ := hrel
    have li : (i : Int) < (n : Int) := by omega
    go_wp2_with fail
    go_loopw [4] (fun vk wx => ∃ k : Nat, vk = .int .i64 (k : Int) ∧ k ≤ i ∧ (i < i0 ∨ k ≤ k0) ∧ Hid (KpZ w g L wx)) (fun vk _ => i - (intOf vk).toNat)
    case atStart => exact ⟨0, rfl, Nat.zero_le _, Or.inr (Nat.zero_le _), HZ⟩
    case round =>
      clear HZ
      obtain ⟨k, rfl, hk, hor, HZ⟩ := hrel
      by_cases hlt : k < i
      case neg =>
        have lk : ¬ (k : Int) < (i : Int) := by omega
        go_wp2
        go_roundw
        case rel => exact ⟨i + 1, by go_num, by omega, HZ⟩
        case measure => simp [intOf]; omega
      have lk : (k : Int) < (i : Int) := by omega
      obtain ⟨x, hx⟩ : ∃ x, L[i]? = some x := ⟨L[i]'(by have := HL.out; omega), List.getElem?_eq_getElem _⟩
      obtain ⟨y, hy⟩ : ∃ y, L[k]? = some y := ⟨L[k]'(by have := HL.out; omega), List.getElem?_eq_getElem _⟩
      have HCk := HC.out i k x y hx hy
      obtain ⟨p0, p1⟩ := KpZ.at HZ hx
      obtain ⟨q0, q1⟩ := KpZ.at HZ hy
      have HX : Hid (L[i]? = some x) := hx
      have HY : Hid (L[k]? = some y) := hy
      have sx := H32.out x (List.mem_of_getElem? hx)
      have sy := H32.out y (List.mem_of_getElem? hy)
      clear hx hy
      obtain ⟨a, b⟩ := x
      obtain ⟨a', b'⟩ := y
      dsimp only at p0 p1 q0 q1 sx sy HCk
      have i0' : (0 : Int) ≤ (i : Int) := by omega
      have k0' : (0 : Int) ≤ (k : Int) := by omega
      have kn' : (k : Int) < (n : Int) := by omega
      have ta := txt_eq a
      have tb := txt_eq b
      by_cases hab : a = a' ∧ b = b'
      · as_aux_lemma =>
        obtain ⟨rfl, rfl⟩ := hab
        have hor2 : i < i0 ∨ k + 1 ≤ k0 := by
          rcases hor with h | h
          · exact Or.inl h
          · by_cases h1 : i < i0
            · exact Or.inl h1
            · by_cases h2 : k = k0
              · exact absurd rfl (HCk (by omega) h2).1
              · exact Or.inr (by omega)
        clear HCk HC hor
        go_wp2_with fail
        go_quiet (fail)
        go_wp2
        exact ⟨⟨k + 1, by go_num, by omega, hor2, KpZ.drewN HZ _⟩, by simp [intOf]; omega⟩
      by_cases ha : a = a'
      · obtain rfl := ha
        have hb : ¬ b = b' := fun e => hab ⟨rfl, e⟩
        have tn := txt_ne hb
        clear hab
        have hN1 : ∀ w0, Calls Tryd.prog 62 #[.string a, .string b] w0 fun e w' => e = .returned (.string (nodeD a b)) ∧ Below w0.heap.size w0 w' := fun w0 => hN0 a b w0 sx.1 sx.2
        have hN2 : ∀ w0, Calls Tryd.prog 62 #[.string a, .string b'] w0 fun e w' => e = .returned (.string (nodeD a b')) ∧ Below w0.heap.size w0 w' := fun w0 => hN0 a b' w0 sy.1 sy.2
        clear hN0
        generalize nodeD a b = D1 at *
        generalize nodeD a b' = D2 at *
        by_cases hD : D1 = D2
        · as_aux_lemma =>
          have HE : Hid (D1 = D2) := hD
          subst hD
          have td := txt_eq D1
          clear HCk HC hor
          have HS := KpZ.drew HZ
          clear HZ p0 p1 q0 q1
          go_wp2_with fail
          go_region_held3 (fun w' => w'.cell? ⟨g, i * 2, none⟩ = some (.string a) ∧ w'.cell? ⟨g, i * 2 + 1, none⟩ = some (.string b) ∧ w'.cell? ⟨g, k * 2, none⟩ = some (.string a) ∧ w'.cell? ⟨g, k * 2 + 1, none⟩ = some (.string b') ∧ Hid (KpZ w g L w'))
            (first | exact KpZ.five HS HX HY | exact KpZ.five (KpZ.call HS h8) HX HY | exact KpZ.five (KpZ.call (KpZ.call HS h8) h9) HX HY)
            (first
              | (go_at_call 62; with_reducible refine (hN1 _).mono ?_; rintro e w8 ⟨rfl, h8⟩)
              | (go_at_call 62; with_reducible refine (hN2 _).mono ?_; rintro e w9 ⟨rfl, h9⟩))
          all_goals
            have BZ := KpZ.call (KpZ.call HS h8) h9
            clear HS h8 h9 hN1 hN2
            go_wp2
            go_ret
            exact ⟨rfl, BZ.out.below⟩
        · as_aux_lemma =>
          have hor2 : i < i0 ∨ k + 1 ≤ k0 := by
            rcases hor with h | h
            · exact Or.inl h
            · by_cases h1 : i < i0
              · exact Or.inl h1
              · by_cases h2 : k = k0
                · exact absurd (HCk (by omega) h2).2 hD
                · exact Or.inr (by omega)
          have td := txt_ne hD
          clear HCk HC hor
          have HS := KpZ.drew HZ
          clear HZ p0 p1 q0 q1
          go_wp2_with fail
          go_region_held3 (fun w' => w'.cell? ⟨g, i * 2, none⟩ = some (.string a) ∧ w'.cell? ⟨g, i * 2 + 1, none⟩ = some (.string b) ∧ w'.cell? ⟨g, k * 2, none⟩ = some (.string a) ∧ w'.cell? ⟨g, k * 2 + 1, none⟩ = some (.string b') ∧ Hid (KpZ w g L w'))
            (first | exact KpZ.five HS HX HY | exact KpZ.five (KpZ.call HS h8) HX HY | exact KpZ.five (KpZ.call (KpZ.call HS h8) h9) HX HY)
            (first
              | (go_at_call 62; with_reducible refine (hN1 _).mono ?_; rintro e w8 ⟨rfl, h8⟩)
              | (go_at_call 62; with_reducible refine (hN2 _).mono ?_; rintro e w9 ⟨rfl, h9⟩))
          all_goals
            have BZ := KpZ.call (KpZ.call HS h8) h9
            clear HS h8 h9 hN1 hN2
            go_wp2
            exact ⟨⟨k + 1, by go_num, by omega, hor2, BZ⟩, by simp [intOf]; omega⟩
      · have tn := txt_ne ha
        clear hab
        have hN1 : ∀ w0, Calls Tryd.prog 62 #[.string a, .string b] w0 fun e w' => e = .returned (.string (nodeD a b)) ∧ Below w0.heap.size w0 w' := fun w0 => hN0 a b w0 sx.1 sx.2
        have hN2 : ∀ w0, Calls Tryd.prog 62 #[.string a', .string b'] w0 fun e w' => e = .returned (.string (nodeD a' b')) ∧ Below w0.heap.size w0 w' := fun w0 => hN0 a' b' w0 sy.1 sy.2
        clear hN0
        generalize nodeD a b = D1 at *
        generalize nodeD a' b' = D2 at *
        by_cases hD : D1 = D2
        · as_aux_lemma =>
          have HE : Hid (D1 = D2) := hD
          subst hD
          have td := txt_eq D1
          clear HCk HC hor
          have HS := KpZ.drew HZ
          clear HZ p0 p1 q0 q1
          go_wp2_with fail
          go_region_held3 (fun w' => w'.cell? ⟨g, i * 2, none⟩ = some (.string a) ∧ w'.cell? ⟨g, i * 2 + 1, none⟩ = some (.string b) ∧ w'.cell? ⟨g, k * 2, none⟩ = some (.string a') ∧ w'.cell? ⟨g, k * 2 + 1, none⟩ = some (.string b') ∧ Hid (KpZ w g L w'))
            (first | exact KpZ.five HS HX HY | exact KpZ.five (KpZ.call HS h8) HX HY | exact KpZ.five (KpZ.call (KpZ.call HS h8) h9) HX HY)
            (first
              | (go_at_call 62; with_reducible refine (hN1 _).mono ?_; rintro e w8 ⟨rfl, h8⟩)
              | (go_at_call 62; with_reducible refine (hN2 _).mono ?_; rintro e w9 ⟨rfl, h9⟩))
          all_goals
            have BZ := KpZ.call (KpZ.call HS h8) h9
            clear HS h8 h9 hN1 hN2
            go_wp2
            go_ret
            exact ⟨rfl, BZ.out.below⟩
        · as_aux_lemma =>
          have hor2 : i < i0 ∨ k + 1 ≤ k0 := by
            rcases hor with h | h
            · exact Or.inl h
            · by_cases h1 : i < i0
              · exact Or.inl h1
              · by_cases h2 : k = k0
                · exact absurd (HCk (by omega) h2).2 hD
                · exact Or.inr (by omega)
          have td := txt_ne hD
          clear HCk HC hor
          have HS := KpZ.drew HZ
          clear HZ p0 p1 q0 q1
          go_wp2_with fail
          go_region_held3 (fun w' => w'.cell? ⟨g, i * 2, none⟩ = some (.string a) ∧ w'.cell? ⟨g, i * 2 + 1, none⟩ = some (.string b) ∧ w'.cell? ⟨g, k * 2, none⟩ = some (.string a') ∧ w'.cell? ⟨g, k * 2 + 1, none⟩ = some (.string b') ∧ Hid (KpZ w g L w'))
            (first | exact KpZ.five HS HX HY | exact KpZ.five (KpZ.call HS h8) HX HY | exact KpZ.five (KpZ.call (KpZ.call HS h8) h9) HX HY)
            (first
              | (go_at_call 62; with_reducible refine (hN1 _).mono ?_; rintro e w8 ⟨rfl, h8⟩)
              | (go_at_call 62; with_reducible refine (hN2 _).mono ?_; rintro e w9 ⟨rfl, h9⟩))
          all_goals
            have BZ := KpZ.call (KpZ.call HS h8) h9
            clear HS h8 h9 hN1 hN2
            go_wp2
            exact ⟨⟨k + 1, by go_num, by omega, hor2, BZ⟩, by simp [intOf]; omega⟩
end Go.Proofs.YtdfglpbappeoaabDoor
