/- What an image is made of: its layers, each by its digest and of its size. An image's layers out of the map. -/
import Derived.Test.YtchfpiadfmnphaaDoorJn21
import Derived.Test.YtchfpiadfmnphaaDoorStrO
import Derived.Test.YtchfpiadfmnphaaDoorJn7
namespace Go.Proofs.YtchfpiadfmnphaaDoor
open Go.RowKit
set_option linter.unusedVariables false

def layStep (l : List ByteArray) (a : List ByteArray × Int) (x : LayV) : List ByteArray × Int :=
  if a.2 = 0 then (match findO l x.bl with
    | none => ([], 9)
    | some y => if (y.size : Int) = x.sz then (a.1 ++ [y], 0) else ([], 5)) else a
def layG (l : List ByteArray) (ls : List LayV) : List ByteArray × Int := ls.foldl (layStep l) ([], 0)
theorem layStay (l : List ByteArray) : ∀ (ls : List LayV) (a : List ByteArray × Int), ¬ a.2 = 0 → ls.foldl (layStep l) a = a
  | [], a, _ => rfl
  | x :: ls, a, h => by rw [List.foldl_cons, show layStep l a x = a from if_neg h]; exact layStay l ls a h
theorem layG_step {l : List ByteArray} {ls : List LayV} {k : Nat} {x : LayV} (hk : k < ls.length) (hx : ls[k] = x) : layG l (ls.take (k + 1)) = layStep l (layG l (ls.take k)) x := by
  unfold layG
  rw [← hx, ← List.take_append_getElem hk, List.foldl_append]
  rfl
theorem layG_end {l : List ByteArray} {ls : List LayV} {k : Nat} {c : Int} {Z : List ByteArray} (h : layG l (ls.take k) = (Z, c)) (hc : ¬ c = 0) : layG l ls = (Z, c) := by
  have e : layG l ls = (ls.drop k).foldl (layStep l) (layG l (ls.take k)) := by
    unfold layG
    rw [← List.foldl_append, List.take_append_drop]
  rw [e, h, layStay l _ _ hc]
theorem layG_none {l : List ByteArray} {ls : List LayV} {k : Nat} {x0 : ByteArray} {x1 : Int} {ys : List ByteArray} (hk : k < ls.length) (h0 : ls[k].bl = x0) (h1 : ls[k].sz = x1) (h : layG l (ls.take k) = (ys, 0)) (hf : findO l x0 = none) : layG l ls = ([], 9) := by
  refine layG_end (k := k + 1) (c := 9) ?_ (by decide)
  rw [layG_step hk rfl, h]
  unfold layStep
  rw [if_pos rfl, h0, hf]
theorem layG_size {l : List ByteArray} {ls : List LayV} {k : Nat} {x0 y : ByteArray} {x1 : Int} {ys : List ByteArray} (hk : k < ls.length) (h0 : ls[k].bl = x0) (h1 : ls[k].sz = x1) (h : layG l (ls.take k) = (ys, 0)) (hf : findO l x0 = some y) (hs : ¬ (y.size : Int) = x1) : layG l ls = ([], 5) := by
  refine layG_end (k := k + 1) (c := 5) ?_ (by decide)
  rw [layG_step hk rfl, h]
  unfold layStep
  rw [if_pos rfl, h0, hf, h1]
  exact if_neg hs
theorem layG_next {l : List ByteArray} {ls : List LayV} {k : Nat} {x0 y : ByteArray} {x1 : Int} {ys : List ByteArray} (hk : k < ls.length) (h0 : ls[k].bl = x0) (h1 : ls[k].sz = x1) (h : layG l (ls.take k) = (ys, 0)) (hf : findO l x0 = some y) (hs : (y.size : Int) = x1) : layG l (ls.take (k + 1)) = (ys ++ [y], 0) := by
  rw [layG_step hk rfl, h]
  unfold layStep
  rw [if_pos rfl, h0, hf, h1]
  exact if_pos hs
theorem layG_all {l : List ByteArray} {ls : List LayV} {n : Nat} {ys : List ByteArray} (h : layG l (ls.take n) = (ys, 0)) (hn : ls.length = n) : layG l ls = (ys, 0) := by
  rw [List.take_of_length_le (Nat.le_of_eq hn)] at h; exact h
/- What Materialize answers. -/
def ImAns (l : List ByteArray) (t nm : ByteArray) (ls : List LayV) (bs : List LabV) (ys : List ByteArray) (c : Int) : Prop :=
  (¬ getC l t = 0 ∧ c = getC l t ∧ nm = ⟨#[]⟩ ∧ ls = [] ∧ bs = [] ∧ ys = []) ∨
  (getC l t = 0 ∧ ∃ nm' ls' bs' c', MnAns (getY l t) nm' ls' bs' c' ∧ ((¬ c' = 0 ∧ c = c' ∧ nm = ⟨#[]⟩ ∧ ls = [] ∧ bs = [] ∧ ys = []) ∨ (c' = 0 ∧ ¬ (layG l ls').2 = 0 ∧ c = (layG l ls').2 ∧ nm = ⟨#[]⟩ ∧ ls = [] ∧ bs = [] ∧ ys = []) ∨ (c' = 0 ∧ (layG l ls').2 = 0 ∧ c = 0 ∧ nm = nm' ∧ ls = ls' ∧ bs = bs' ∧ ys = (layG l ls').1)))
theorem imAns_one {l : List ByteArray} {t nm nm2 : ByteArray} {ls ls2 : List LayV} {bs bs2 : List LabV} {ys ys2 : List ByteArray} {c c2 : Int} (h : ImAns l t nm ls bs ys c) (k : ImAns l t nm2 ls2 bs2 ys2 c2) : nm = nm2 ∧ ls = ls2 ∧ bs = bs2 ∧ ys = ys2 ∧ c = c2 := by
  rcases h with ⟨a, rfl, rfl, rfl, rfl, rfl⟩ | ⟨a, n1, l1, b1, c1, m1, h⟩
  · rcases k with ⟨b, rfl, rfl, rfl, rfl, rfl⟩ | ⟨b, _⟩
    · exact ⟨rfl, rfl, rfl, rfl, rfl⟩
    · exact absurd b a
  · rcases k with ⟨b, _⟩ | ⟨b, n2, l2, b2, c2', m2, k⟩
    · exact absurd a b
    · obtain ⟨rfl, rfl, rfl, rfl⟩ := mnAns_one m1 m2
      rcases h with ⟨e1, rfl, rfl, rfl, rfl, rfl⟩ | ⟨e1, e2, rfl, rfl, rfl, rfl, rfl⟩ | ⟨e1, e2, rfl, rfl, rfl, rfl, rfl⟩ <;>
      rcases k with ⟨f1, rfl, rfl, rfl, rfl, rfl⟩ | ⟨f1, f2, rfl, rfl, rfl, rfl, rfl⟩ | ⟨f1, f2, rfl, rfl, rfl, rfl, rfl⟩ <;>
      first | exact ⟨rfl, rfl, rfl, rfl, rfl⟩ | exact absurd f1 e1 | exact absurd e1 f1 | exact absurd e2 f2 | exact absurd f2 e2
theorem manO_ok {t nm : ByteArray} {ls : List LayV} {bs : List LabV} {p q : Nat} (h : manO t p = some (nm, ls, bs, q)) : ManOk nm ls bs := by
  unfold manO at h
  split at h
  · cases h
  · split at h
    · cases h
    · unfold restLs at h
      split at h
      · cases h
      · unfold restC at h
        split at h
        · cases h
        · unfold restBs at h
          split at h
          · cases h
          · split at h
            · rename_i hb
              simp only [Option.some.injEq, Prod.mk.injEq] at h
              obtain ⟨rfl, rfl, rfl, rfl⟩ := h
              exact boolP_of hb
            · cases h
theorem i64_small {z : Int} (h : 0 ≤ z) (k : z ≤ 3000) : I64 z := by
  unfold I64
  simp [Lit.wf, IntKind.min, IntKind.max, IntKind.signed, IntKind.bits]
  omega
theorem mnAns_ok {t nm : ByteArray} {ls : List LayV} {bs : List LabV} {c : Int} (h : MnAns t nm ls bs c) : ls.length ≤ 10 ∧ bs.length ≤ 10 ∧ ∀ x ∈ ls, x.w := by
  rcases h with ⟨_, _, rfl, rfl, _⟩ | ⟨_, ⟨_, q, h, _⟩, _⟩ | ⟨_, _, _, rfl, rfl, _⟩
  · exact ⟨Nat.zero_le _, Nat.zero_le _, fun x hx => by cases hx⟩
  · have hk := manO_ok h
    refine ⟨hk.2.1.1, hk.2.2.1, fun x hx => ?_⟩
    obtain ⟨i, hi, rfl⟩ := List.mem_iff_getElem.1 hx
    obtain ⟨h1, h2, h3⟩ := hk.2.1.2 i hi
    exact ⟨by rw [h1]; decide, i64_small h2 h3⟩
  · exact ⟨Nat.zero_le _, Nat.zero_le _, fun x hx => by cases hx⟩
theorem getY_size {l : List ByteArray} {t : ByteArray} (h : getC l t = 0) : (getY l t).size ≤ 3000 ∧ StOk l ∧ findO l t = some (getY l t) := by
  rcases get_cases l t with ⟨g, hc, hy⟩ | ⟨g, hs, hc, hy⟩ | ⟨g, hs, hf, hc, hy⟩ | ⟨X, g, hs, hf, hc, hy⟩
  · rw [hc] at h; cases h
  · rw [hc] at h; cases h
  · rw [hc] at h; cases h
  · rw [hy]
    obtain ⟨h1, h2⟩ := findO_le hf
    obtain ⟨i, hi, rfl⟩ := List.mem_iff_getElem.1 h1
    exact ⟨hs.2.1 i hi hi, hs, hf⟩
theorem layStep_len (l : List ByteArray) : ∀ (ls : List LayV) (a : List ByteArray × Int), (ls.foldl (layStep l) a).1.length ≤ a.1.length + ls.length
  | [], a => Nat.le_refl _
  | x :: ls, a => by
    rw [List.foldl_cons]
    refine Nat.le_trans (layStep_len l ls _) ?_
    have h : (layStep l a x).1.length ≤ a.1.length + 1 := by
      unfold layStep
      split
      · split
        · exact Nat.zero_le _
        · split
          · simp
          · exact Nat.zero_le _
      · omega
    rw [List.length_cons]
    omega
theorem layG_len {l : List ByteArray} {ls : List LayV} {Z : List ByteArray} {c : Int} (h : layG l ls = (Z, c)) (h10 : ls.length ≤ 10) : Z.length ≤ 10 := by
  have := layStep_len l ls ([], 0)
  have e : ls.foldl (layStep l) ([], 0) = (Z, c) := h
  rw [e] at this
  have h2 : Z.length ≤ 0 + ls.length := this
  omega
theorem getC_big {l : List ByteArray} {t : ByteArray} (h : 20000 < t.size) : getC l t = 2 := by unfold getC; rw [if_pos h]
theorem getC_bad {l : List ByteArray} {t : ByteArray} (h : ¬ 20000 < t.size) (hs : ¬ StOk l) : getC l t = 1 := by unfold getC; rw [if_neg h, if_neg (by rw [boolP_no hs]; decide)]
theorem getC_none {l : List ByteArray} {t : ByteArray} (h : ¬ 20000 < t.size) (hs : StOk l) (hf : findO l t = none) : getC l t = 9 := by unfold getC; rw [if_neg h, if_pos (boolP_yes hs), hf]; rfl
theorem getC_yes {l : List ByteArray} {t X : ByteArray} (h : ¬ 20000 < t.size) (hs : StOk l) (hf : findO l t = some X) : getC l t = 0 ∧ getY l t = X := by
  unfold getC getY
  rw [if_neg h, if_neg h, if_pos (boolP_yes hs), if_pos (boolP_yes hs), hf]
  exact ⟨rfl, rfl⟩
def ImB (a1 a2 a3 : Option Addr) (lo hi : Nat) : Prop := (∀ ad, a1 = some ad → lo ≤ ad.block ∧ ad.block < hi) ∧ (∀ ad, a2 = some ad → lo ≤ ad.block ∧ ad.block < hi) ∧ (∀ ad, a3 = some ad → lo ≤ ad.block ∧ ad.block < hi) ∧ (∀ x y, a1 = some x → a2 = some y → x.block ≠ y.block) ∧ (∀ x y, a1 = some x → a3 = some y → x.block ≠ y.block) ∧ (∀ x y, a2 = some x → a3 = some y → x.block ≠ y.block)
theorem ImB.nil (a b : Nat) : ImB none none none a b := ⟨fun _ e => (by cases e), fun _ e => (by cases e), fun _ e => (by cases e), fun _ _ e => (by cases e), fun _ _ e => (by cases e), fun _ _ e => (by cases e)⟩
end Go.Proofs.YtchfpiadfmnphaaDoor
namespace Go.Proofs.YtchfpiadfmnphaaDoor
open Go.RowKit
set_option linter.unusedVariables false

set_option maxRecDepth 100000 in
set_option maxHeartbeats 16000000 in
theorem implLayers (B : Nat) (l : List ByteArray) (nm : ByteArray) (a1 : Option Addr) (c1 y1 : Nat) (ls : List LayV) (a2 : Option Addr) (c2 y2 : Nat) (w : World) (hM : MapK w B l) (hS : StOk l) (h1 : ls.length = y1) (h2 : LayAt w a1 ls) (h3 : y1 ≤ 10) (h4 : ∀ x ∈ ls, x.w) :
    Calls Tryd.prog 37 #[.map (some B), .agg #[.string nm, .slice a1 y1 c1, .slice a2 y2 c2]] w fun r w' => ∃ (a3 : Option Addr) (n3 c3 : Nat), r = .returned (.tuple #[.slice a3 n3 c3, .int .i64 (layG l ls).2]) ∧ n3 = (layG l ls).1.length ∧ (∀ ad, a3 = some ad → w.heap.size ≤ ad.block ∧ ad.block < w'.heap.size) ∧ Made w w' (fun w2 => VR w2 a3 (svl (layG l ls).1)) ∧ Below w.heap.size w w' := by
  have HSo := hidP hS
  have HN := hidP h1
  have HW := hidP h4
  have hC1 : ∀ w0 (x0 : ByteArray), (MapK w0 B l) → (StOk l) → (x0.size ≤ maxLen) → (findO l x0 = none) → Calls Tryd.prog 44 #[.map (some B), .string x0] w0 fun r w' => r = .returned (.tuple #[.string ⟨#[]⟩, .bool false]) ∧ Below w0.heap.size w0 w' := fun w0 x0 n0 n1 n2 n3 => by have := implGet B l x0 w0 n0 n1 n2; rw [n3] at this; exact this
  have hC2 : ∀ w0 (x0 : ByteArray) (y : ByteArray), (MapK w0 B l) → (StOk l) → (x0.size ≤ maxLen) → (findO l x0 = some y) → Calls Tryd.prog 44 #[.map (some B), .string x0] w0 fun r w' => r = .returned (.tuple #[.string y, .bool true]) ∧ Below w0.heap.size w0 w' := fun w0 x0 y n0 n1 n2 n3 => by have := implGet B l x0 w0 n0 n1 n2; rw [n3] at this; exact this
  have hC3 : ∀ w0 (y : ByteArray), Calls Tryd.prog 32 #[.string y] w0 fun r w' => r = .returned (.string y) ∧ Below w0.heap.size w0 w' := fun w0 y => ownText_any y w0
  have HS0 : Hid (Sta [] w [] [⟨fun k => k < w.heap.size, fun w' => MapK w' B l ∧ LayAt w' a1 ls⟩] w) := Sta.arg (fun w' => MapK w' B l ∧ LayAt w' a1 ls) (fun w' hb => ⟨hM.same (hb.block B hM.lt), h2.below hb⟩)
  clear hM hS h1 h2 h4
  go_enter Tryd.func37, Tryd.ntmps37
  go_wp2_with (first
    | ((with_reducible refine wpList_boxV (w := w) (by with_unfolding_all rfl) 41 (.tmp 1) (by with_unfolding_all rfl) [.string nm, .slice a1 y1 c1, .slice a2 y2 c2] (by with_unfolding_all rfl) ?_); intro w1 hA1 hB1 hS1; clear hS1; have HS1 := Sta.new HS0 hA1 hB1 (by simp); clear hA1 hB1; have cHS1_0_1 : w1.cell? ⟨w.heap.size, 1, none⟩ = some (.slice a1 y1 c1) := Sta.c (i := 0) HS1 rfl rfl))
  clear cHS1_0_1
  have HS2 : Hid (Sta [] w [(w.heap.size, [.string nm, .slice a1 y1 c1, .slice a2 y2 c2])] [⟨fun k => (Value.slice none 0 0).ownBlock = some k, fun w' => StrO w' w.heap.size (.slice none 0 0) ([])⟩, ⟨fun k => k < w.heap.size, fun w' => MapK w' B l ∧ LayAt w' a1 ls⟩] w1) := Sta.own0 w.heap.size 9 1 HS1
  go_wp2_with fail
  go_loopw [14, 6] (fun v0 v1 wr => ∃ (k : Nat) (aa : Option Addr) (na : Nat) (ca : Nat) (ys : List ByteArray), v0 = .int .i64 (k : Int) ∧ v1 = .slice aa na ca ∧ k ≤ y1 ∧ Hid (ys.length = k) ∧ Hid (layG l (ls.take k) = (ys, 0)) ∧ Hid (Sta [] w [(w.heap.size, [.string nm, .slice a1 y1 c1, .slice a2 y2 c2])] [⟨fun k => (Value.slice aa na ca).ownBlock = some k, fun w' => StrO w' w.heap.size (.slice aa na ca) ys⟩, ⟨fun k => k < w.heap.size, fun w' => MapK w' B l ∧ LayAt w' a1 ls⟩] wr)) (fun v0 v1 _ => y1 - (intOf v0).toNat)
  case atStart => exact ⟨0, none, 0, 0, [], rfl, rfl, Nat.zero_le _, rfl, rfl, HS2⟩
  case round =>
    rename Go.World => wl3
    clear HS2
    obtain ⟨k, aa, na, ca, ys, rfl, rfl, hk3, HLn, HG, HS3⟩ := hrel
    by_cases hlt3 : k < y1
    case neg =>
      obtain rfl : y1 = k := by omega
      have HF := hidP (layG_all HG.out HN.out)
      go_wp2_with fail
      go_ret2
      exact ⟨aa, na, ca, by rw [HF.out]; rfl, by rw [HF.out]; exact (StrO.row (Sta.t (i := 0) HS3 rfl : StrO _ _ (.slice aa na ca) ys)).2.2, (StrO.row (Sta.t (i := 0) HS3 rfl : StrO _ _ (.slice aa na ca) ys)).2.1, (Sta.made_of (i := 0) HS3 rfl (fun k hk => (own_ge (Sta.t (i := 0) HS3 rfl : StrO _ _ (.slice aa na ca) ys) hk).1)).imp (fun w2 h2 => by rw [HF.out]; exact (StrO.row h2).1), Sta.fin HS3⟩
    have lk3 : (k : Int) < y1 := by omega
    have l03 : (0 : Int) ≤ k := by omega
    have hkl : k < ls.length := by have := HN.out; omega
    obtain ⟨b, o, rfl, hz4⟩ := (Sta.t (i := 1) HS3 rfl :).2 k hkl
    clear hz4
    obtain ⟨x0, hx0⟩ : ∃ y, ls[k].bl = y := ⟨_, rfl⟩
    obtain ⟨x1, hx1⟩ : ∃ y, ls[k].sz = y := ⟨_, rfl⟩
    have HS5 := Sta.imp 1 (fun w' => (MapK w' B l ∧ LayAt w' (some ⟨b, o, none⟩) ls) ∧ w'.cell? ⟨b, o + k * 2, none⟩ = some (.string x0) ∧ w'.cell? ⟨b, o + k * 2 + 1, none⟩ = some (.int .i64 x1)) HS3 rfl (fun w' h => ⟨h, by rw [← hx0]; exact (LayAt.here h.2 k hkl).1, by rw [← hx1]; exact (LayAt.here h.2 k hkl).2⟩)
    have W0 : Hid (x0.size ≤ maxLen) := by have := (HW.out ls[k] (List.getElem_mem hkl)).1; rw [hx0] at this; exact this
    have hb3 : findO l x0 = none ∨ (∃ y, findO l x0 = some y ∧ ¬ (y.size : Int) = x1) ∨ (∃ y, findO l x0 = some y ∧ (y.size : Int) = x1) := by
      cases hf : findO l x0 with
      | none => exact Or.inl rfl
      | some y => by_cases g : (y.size : Int) = x1
                  · exact Or.inr (Or.inr ⟨y, rfl, g⟩)
                  · exact Or.inr (Or.inl ⟨y, rfl, g⟩)
    rcases hb3 with hf | ⟨y, hf, hz⟩ | ⟨y, hf, hz⟩
    · as_aux_lemma =>
      have HO := hidP hf
      have HF := hidP (layG_none hkl hx0 hx1 HG.out hf)
      clear hf
      have tcHS5_1_0 : wl3.cell? ⟨b, o + k * 2, none⟩ = some (.string x0) := (Sta.t (i := 1) HS5 rfl :).2.1
      have tcHS5_1_1 : wl3.cell? ⟨b, o + k * 2 + 1, none⟩ = some (.int .i64 x1) := (Sta.t (i := 1) HS5 rfl :).2.2
      go_wp2_with (first
        | ((with_reducible refine wpList_allocV (w := wl3) (by with_unfolding_all rfl) 85 (by with_unfolding_all rfl) [.string ⟨#[]⟩, .int .i64 0] Tryd.zT_implLayer ?_); intro w6 hA6 hB6 hS6; clear hS6; have HS6 := Sta.new HS5 hA6 hB6 (by simp); clear hA6 hB6; clear tcHS5_1_0 tcHS5_1_1)
        | ((with_reducible refine wpList_storeS (w := w6) (by with_unfolding_all rfl) 85 (.tmp 8) (.tmp 17) (by with_unfolding_all rfl) wl3.heap.size [.string ⟨#[]⟩, .int .i64 0] [.string x0, .int .i64 x1] (by with_unfolding_all rfl) (by with_unfolding_all rfl) (Sta.r (i := 0) HS6 (by with_unfolding_all rfl)) 2 Tryd.sT_implLayer (by with_unfolding_all rfl) (by with_unfolding_all rfl) (by with_unfolding_all rfl) ?_); intro w7 hA7 hO7; have HS7 := Sta.put 0 HS6 rfl hA7 (by simp) hO7; clear hA7 hO7; have cHS7_0_0 : w7.cell? ⟨wl3.heap.size, 0, none⟩ = some (.string x0) := Sta.c (i := 0) HS7 rfl rfl)
        | (go_at_call 44; have n8_0 : MapK w7 B l := (Sta.t (i := 1) HS7 rfl :).1.1; (with_reducible refine (hC1 w7 x0 n8_0 HSo.out W0.out HO.out).mono ?_); rintro r w8 ⟨rfl, hB8⟩; have HS8 := Sta.call HS7 hB8; clear hB8; clear cHS7_0_0))
      go_ret2
      exact ⟨none, 0, 0, by rw [HF.out]; rfl, by rw [HF.out]; rfl, fun _ e => (by cases e), fun w2 _ => by rw [HF.out]; exact fun hl => absurd rfl hl, Sta.fin HS8⟩
    · as_aux_lemma =>
      have HO := hidP hf
      have HF := hidP (layG_size hkl hx0 hx1 HG.out hf hz)
      have d9 : (((y.size : Int)) != x1) = true := by simp [hz]
      clear hf hz
      have tcHS5_1_0 : wl3.cell? ⟨b, o + k * 2, none⟩ = some (.string x0) := (Sta.t (i := 1) HS5 rfl :).2.1
      have tcHS5_1_1 : wl3.cell? ⟨b, o + k * 2 + 1, none⟩ = some (.int .i64 x1) := (Sta.t (i := 1) HS5 rfl :).2.2
      go_wp2_with (first
        | ((with_reducible refine wpList_allocV (w := wl3) (by with_unfolding_all rfl) 85 (by with_unfolding_all rfl) [.string ⟨#[]⟩, .int .i64 0] Tryd.zT_implLayer ?_); intro w9 hA9 hB9 hS9; clear hS9; have HS9 := Sta.new HS5 hA9 hB9 (by simp); clear hA9 hB9; clear tcHS5_1_0 tcHS5_1_1)
        | ((with_reducible refine wpList_storeS (w := w9) (by with_unfolding_all rfl) 85 (.tmp 8) (.tmp 17) (by with_unfolding_all rfl) wl3.heap.size [.string ⟨#[]⟩, .int .i64 0] [.string x0, .int .i64 x1] (by with_unfolding_all rfl) (by with_unfolding_all rfl) (Sta.r (i := 0) HS9 (by with_unfolding_all rfl)) 2 Tryd.sT_implLayer (by with_unfolding_all rfl) (by with_unfolding_all rfl) (by with_unfolding_all rfl) ?_); intro w10 hA10 hO10; have HS10 := Sta.put 0 HS9 rfl hA10 (by simp) hO10; clear hA10 hO10; have cHS10_0_0 : w10.cell? ⟨wl3.heap.size, 0, none⟩ = some (.string x0) := Sta.c (i := 0) HS10 rfl rfl)
        | (go_at_call 44; have n11_0 : MapK w10 B l := (Sta.t (i := 1) HS10 rfl :).1.1; (with_reducible refine (hC2 w10 x0 y n11_0 HSo.out W0.out HO.out).mono ?_); rintro r w11 ⟨rfl, hB11⟩; have HS11 := Sta.call HS10 hB11; clear hB11; clear cHS10_0_0; have cHS11_0_1 : w11.cell? ⟨wl3.heap.size, 1, none⟩ = some (.int .i64 x1) := Sta.c (i := 0) HS11 rfl rfl))
      go_ret2
      exact ⟨none, 0, 0, by rw [HF.out]; rfl, by rw [HF.out]; rfl, fun _ e => (by cases e), fun w2 _ => by rw [HF.out]; exact fun hl => absurd rfl hl, Sta.fin HS11⟩
    · as_aux_lemma =>
      have HO := hidP hf
      have HG2 := hidP (layG_next hkl hx0 hx1 HG.out hf hz)
      have d9 : (((y.size : Int)) != x1) = false := by simp [hz]
      clear hf hz
      have tcHS5_1_0 : wl3.cell? ⟨b, o + k * 2, none⟩ = some (.string x0) := (Sta.t (i := 1) HS5 rfl :).2.1
      have tcHS5_1_1 : wl3.cell? ⟨b, o + k * 2 + 1, none⟩ = some (.int .i64 x1) := (Sta.t (i := 1) HS5 rfl :).2.2
      go_wp2_with (first
        | ((with_reducible refine wpList_allocV (w := wl3) (by with_unfolding_all rfl) 85 (by with_unfolding_all rfl) [.string ⟨#[]⟩, .int .i64 0] Tryd.zT_implLayer ?_); intro w12 hA12 hB12 hS12; clear hS12; have HS12 := Sta.new HS5 hA12 hB12 (by simp); clear hA12 hB12; clear tcHS5_1_0 tcHS5_1_1)
        | ((with_reducible refine wpList_storeS (w := w12) (by with_unfolding_all rfl) 85 (.tmp 8) (.tmp 17) (by with_unfolding_all rfl) wl3.heap.size [.string ⟨#[]⟩, .int .i64 0] [.string x0, .int .i64 x1] (by with_unfolding_all rfl) (by with_unfolding_all rfl) (Sta.r (i := 0) HS12 (by with_unfolding_all rfl)) 2 Tryd.sT_implLayer (by with_unfolding_all rfl) (by with_unfolding_all rfl) (by with_unfolding_all rfl) ?_); intro w13 hA13 hO13; have HS13 := Sta.put 0 HS12 rfl hA13 (by simp) hO13; clear hA13 hO13; have cHS13_0_0 : w13.cell? ⟨wl3.heap.size, 0, none⟩ = some (.string x0) := Sta.c (i := 0) HS13 rfl rfl)
        | (go_at_call 44; have n14_0 : MapK w13 B l := (Sta.t (i := 1) HS13 rfl :).1.1; (with_reducible refine (hC2 w13 x0 y n14_0 HSo.out W0.out HO.out).mono ?_); rintro r w14 ⟨rfl, hB14⟩; have HS14 := Sta.call HS13 hB14; clear hB14; clear cHS13_0_0; have cHS14_0_1 : w14.cell? ⟨wl3.heap.size, 1, none⟩ = some (.int .i64 x1) := Sta.c (i := 0) HS14 rfl rfl)
        | (go_at_call 32; (with_reducible refine (hC3 w14 y).mono ?_); rintro r w15 ⟨rfl, hB15⟩; have HS15 := Sta.call HS14 hB15; clear hB15; clear cHS14_0_1)
        | ((with_reducible refine wpList_buildStr (w := w15) (by with_unfolding_all rfl) (.tmp 34) (by with_unfolding_all rfl) y (by with_unfolding_all rfl) ?_); intro w16 hA16 hB16; have HS16 := Sta.new HS15 hA16 hB16 (by simp); clear hA16 hB16)
        | ((with_reducible refine wpList_appendStr (W := w16) (by with_unfolding_all rfl) (.tmp 32) (.tmp 35) (by with_unfolding_all rfl) w.heap.size (.slice aa na ca) ys y (by with_unfolding_all rfl) (Sta.t (i := 0) HS16 rfl) w15.heap.size (by with_unfolding_all rfl) (Sta.r (i := 0) HS16 (by with_unfolding_all rfl)) (by have := HLn.out; omega) (Sta.size HS16) ?_); intro v17 w17 hO17 hG17 hb17; obtain ⟨a17, m17, c17, hm17, rfl⟩ := StrO.form hO17; have HS17 := Sta.app 0 HS16 rfl (Nat.le_refl _) hO17 hG17 hb17; have Hm17 := hidP hm17; clear hO17 hG17 hb17 hm17))
      have HS18 := Sta.imp 1 (fun w' => MapK w' B l ∧ LayAt w' (some ⟨b, o, none⟩) ls) HS17 rfl (fun w' h => h.1)
      go_roundw
      case rel => exact ⟨k + 1, a17, m17, c17, (ys ++ [y]), by go_num, by go_num, hlt3, by show _ = _; rw [List.length_append, HLn.out]; rfl, HG2.out, Sta.drop 2 0 HS18⟩
      case measure => simp [intOf]; omega
end Go.Proofs.YtchfpiadfmnphaaDoor
