/- Marks of roles that own their rows: what markRoleS, heldRoleS, markRoot, heldRoot do of them. Roles and roots turned to the program's own, each row in a block of its own. Targets turned to the program's, as a thing that was made. -/
import Derived.Test.YtdfglpbappeoaaaGreatDoorRlM
import Derived.Test.YtdfglpbappeoaaaGreatDoorJn16
import Derived.Test.YtdfglpbappeoaaaGreatDoorJn12
namespace Go.Proofs.YtdfglpbappeoaaaGreatDoor
open Go.RowKit
set_option linter.unusedVariables false

theorem flR_len (l : List RoleV) : (rlL l).flatten.length = l.length * 2 := by
  induction l with
  | nil => rfl
  | cons x xs ih =>
    show (rlv x.need x.ka x.ks.length x.kc ++ (rlL xs).flatten).length = _
    rw [List.length_append, ih, List.length_cons]
    show 2 + _ = _
    omega
theorem flR_get : ∀ (l : List RoleV) (i : Nat) (h : i < l.length), (rlL l).flatten[i * 2]? = some (.int .i64 l[i].need) ∧ (rlL l).flatten[i * 2 + 1]? = some (.slice l[i].ka l[i].ks.length l[i].kc)
  | x :: xs, 0, _ => ⟨rfl, rfl⟩
  | x :: xs, i + 1, h => by
    have := flR_get xs i (by simpa using h)
    rw [show (i + 1) * 2 = i * 2 + 1 + 1 by omega]
    exact this
theorem flR_set : ∀ (l : List RoleV) (i : Nat) (h : i < l.length) (x : RoleV), x.ka = l[i].ka → x.kc = l[i].kc → x.ks.length = l[i].ks.length → (rlL (l.set i x)).flatten = (rlL l).flatten.set (i * 2) (.int .i64 x.need)
  | y :: ys, 0, _, x, h1, h2, h3 => by
    have h1' : x.ka = y.ka := h1
    have h2' : x.kc = y.kc := h2
    have h3' : x.ks.length = y.ks.length := h3
    show rlv x.need x.ka x.ks.length x.kc ++ (rlL ys).flatten = (rlv y.need y.ka y.ks.length y.kc ++ (rlL ys).flatten).set 0 _
    rw [h1', h2', h3']
    rfl
  | y :: ys, i + 1, h, x, h1, h2, h3 => by
    have := flR_set ys i (by simpa using h) x h1 h2 h3
    rw [show (i + 1) * 2 = i * 2 + 1 + 1 by omega]
    show rlv y.need y.ka y.ks.length y.kc ++ (rlL (ys.set i x)).flatten = (rlv y.need y.ka y.ks.length y.kc ++ (rlL ys).flatten).set (i * 2 + 1 + 1) _
    rw [this]
    rfl
/- What marking makes of roles. -/
def mrk (k : Int) (r : RoleV) : RoleV := ⟨k, r.ka, r.kc, cnt (k + 1) r.ks.length⟩
def tot : List RoleV → Nat
  | [] => 0
  | r :: rs => 1 + r.ks.length + tot rs
def mrks : Int → List RoleV → List RoleV
  | _, [] => []
  | k, r :: rs => mrk k r :: mrks (k + ((1 + r.ks.length : Nat) : Int)) rs
theorem mrks_len : ∀ (k : Int) (l : List RoleV), (mrks k l).length = l.length
  | _, [] => rfl
  | k, r :: rs => by show (mrks _ rs).length + 1 = rs.length + 1; rw [mrks_len]
theorem tot_app (a b : List RoleV) : tot (a ++ b) = tot a + tot b := by
  induction a with
  | nil => simp [tot]
  | cons x xs ih => show 1 + x.ks.length + tot (xs ++ b) = 1 + x.ks.length + tot xs + tot b; rw [ih]; omega
theorem mrks_app : ∀ (k : Int) (a b : List RoleV), mrks k (a ++ b) = mrks k a ++ mrks (k + (tot a : Int)) b
  | k, [], b => by simp [mrks, tot]
  | k, x :: xs, b => by
    show mrk k x :: mrks _ (xs ++ b) = mrk k x :: (mrks _ xs ++ mrks _ b)
    rw [mrks_app]
    have : k + ((1 + x.ks.length : Nat) : Int) + (tot xs : Int) = k + (tot (x :: xs) : Int) := by
      show _ = k + ((1 + x.ks.length + tot xs : Nat) : Int)
      omega
    rw [this]
theorem tot_take_le (l : List RoleV) (i : Nat) : tot (l.take i) ≤ tot l := by
  have := tot_app (l.take i) (l.drop i)
  rw [List.take_append_drop] at this
  omega
theorem tot_mem : ∀ {l : List RoleV} {r : RoleV}, r ∈ l → r.ks.length < tot l
  | x :: xs, r, h => by
    rcases List.mem_cons.1 h with rfl | h
    · show _ < 1 + _ + _
      omega
    · have := tot_mem h
      show _ < 1 + _ + tot xs
      omega
theorem tot_len : ∀ (l : List RoleV), l.length ≤ tot l
  | [] => Nat.le_refl _
  | x :: xs => by
    have := tot_len xs
    show xs.length + 1 ≤ 1 + x.ks.length + tot xs
    omega
def mid (k : Int) (l : List RoleV) (i : Nat) : List RoleV := mrks k (l.take i) ++ l.drop i
theorem mid_len (k : Int) (l : List RoleV) (i : Nat) (h : i ≤ l.length) : (mid k l i).length = l.length := by
  unfold mid
  rw [List.length_append, mrks_len, List.length_take, List.length_drop]
  omega
theorem mid_zero (k : Int) (l : List RoleV) : mid k l 0 = l := by simp [mid, mrks]
theorem mid_all (k : Int) (l : List RoleV) : mid k l l.length = mrks k l := by simp [mid]
theorem tot_succ (l : List RoleV) {i : Nat} (h : i < l.length) : tot (l.take (i + 1)) = tot (l.take i) + (1 + l[i].ks.length) := by
  rw [List.take_succ_eq_append_getElem h, tot_app]
  show _ + (1 + l[i].ks.length + 0) = _
  omega
theorem mid_get (k : Int) (l : List RoleV) {i : Nat} (h : i < l.length) (h2 : i < (mid k l i).length) : (mid k l i)[i] = l[i] := by
  unfold mid at h2 ⊢
  have e : (mrks k (l.take i)).length = i := by rw [mrks_len, List.length_take]; omega
  rw [List.getElem_append_right (by omega)]
  simp only [e, Nat.sub_self, List.getElem_drop, Nat.add_zero]
theorem mid_set (k : Int) (l : List RoleV) {i : Nat} (h : i < l.length) : (mid k l i).set i (mrk (k + (tot (l.take i) : Int)) l[i]) = mid k l (i + 1) := by
  unfold mid
  have e : (mrks k (l.take i)).length = i := by rw [mrks_len, List.length_take]; omega
  rw [List.set_append_right _ _ (by omega), e, Nat.sub_self, List.drop_eq_getElem_cons h, List.set_cons_zero, List.take_succ_eq_append_getElem h, mrks_app, List.append_assoc]
  rfl
/- Roles whose row and keys lie each in a block of their own, and may be written. -/
structure RlsO (w : World) (g : Nat) (l : List RoleV) : Prop where
  row : RowV w g (rlL l).flatten
  ks : ∀ i (h : i < l.length), IAt w l[i].ka l[i].ks
  off : ∀ i (h : i < l.length) b, l[i].ks ≠ [] → l[i].ka = some b → b.block ≠ g
  dis : ∀ i j (hi : i < l.length) (hj : j < l.length) b c, i ≠ j → l[i].ks ≠ [] → l[j].ks ≠ [] → l[i].ka = some b → l[j].ka = some c → b.block ≠ c.block
theorem RlsO.below {w w' : World} {g : Nat} {l : List RoleV} (h : RlsO w g l) (hl : l ≠ []) (hb : Below w.heap.size w w') : RlsO w' g l :=
  ⟨h.row.below hb (h.row.lt (by intro e; have := congrArg List.length e; rw [flR_len] at this; cases l with | nil => exact hl rfl | cons x xs => simp at this)), fun i hi => (h.ks i hi).below hb, h.off, h.dis⟩
/- All but the row and the keys is as it was. -/
structure MrkO (g : Nat) (l : List RoleV) (w w' : World) : Prop where
  far : ∀ x : Addr, x.block ≠ g → (∀ i (h : i < l.length) b, l[i].ks ≠ [] → l[i].ka = some b → x.block ≠ b.block) → w'.cell? x = w.cell? x ∧ w'.frozen? x = w.frozen? x
  below : ∀ B, B ≤ w.heap.size → B ≤ g → (∀ i (h : i < l.length) b, l[i].ks ≠ [] → l[i].ka = some b → B ≤ b.block) → Below B w w'
  size : w'.heap.size = w.heap.size
theorem MrkO.refl (g : Nat) (l : List RoleV) (w : World) : MrkO g l w w := ⟨fun _ _ _ => ⟨rfl, rfl⟩, fun _ _ _ _ => Below.refl _ _, rfl⟩
theorem IAt.farW {w w' : World} {a : Option Addr} {l : List Int} (h : IAt w a l) (hF : ∀ x : Addr, (∀ b, a = some b → x.block = b.block) → w'.cell? x = w.cell? x ∧ w'.frozen? x = w.frozen? x) : IAt w' a l := fun hl => by
  obtain ⟨g, ha, hc⟩ := h hl
  refine ⟨g, ha, fun k hk => ?_⟩
  have hx := hF ⟨g, k, none⟩ (fun b hb => by rw [ha] at hb; injection hb with hb; subst hb; rfl)
  exact ⟨hx.1.trans (hc k hk).1, hx.2.trans (hc k hk).2⟩
theorem RlsO.step {w w1 w2 : World} {g i : Nat} {l : List RoleV} {k : Int} (h : RlsO w g l) (hi : i < l.length) (hr : RowV w1 g ((rlL l).flatten.set (i * 2) (.int .i64 k))) (hF1 : ∀ x : Addr, x.block ≠ g → w1.cell? x = w.cell? x ∧ w1.frozen? x = w.frozen? x)
    (hI : IAt w2 l[i].ka (cnt (k + 1) l[i].ks.length)) (hW : l[i].ks ≠ [] → Wrote l[i].ka w1 w2) (hE : l[i].ks = [] → w2 = w1) : RlsO w2 g (l.set i (mrk k l[i])) := by
  have hset : ∀ j (hj : j < (l.set i (mrk k l[i])).length), j ≠ i → (l.set i (mrk k l[i]))[j] = l[j]'(by rw [List.length_set] at hj; exact hj) := fun j hj hne => by
    rw [List.getElem_set, if_neg (fun e => hne e.symm)]
  have hseti : ∀ (hj : i < (l.set i (mrk k l[i])).length), (l.set i (mrk k l[i]))[i] = mrk k l[i] := fun hj => by rw [List.getElem_set, if_pos rfl]
  have hne : (mrk k l[i]).ks ≠ [] → l[i].ks ≠ [] := fun h e => h (by
    show cnt (k + 1) l[i].ks.length = []
    rw [e]
    rfl)
  have hka : (mrk k l[i]).ka = l[i].ka := rfl
  have hoff : ∀ b, l[i].ks ≠ [] → l[i].ka = some b → b.block ≠ g := fun b => h.off i hi b
  refine ⟨?_, fun j hj => ?_, fun j hj b h1 h2 => ?_, fun j1 j2 hj1 hj2 b c h0 h1 h2 h3 h4 => ?_⟩
  · rw [flR_set l i hi (mrk k l[i]) rfl rfl (cnt_length _ _)]
    by_cases he : l[i].ks = []
    · rw [hE he]; exact hr
    · refine hr.same fun q => ?_
      refine (hW he).far ⟨g, q, none⟩ fun ad had e => hoff ad he had e.symm
  · by_cases hji : j = i
    · subst hji
      rw [hseti hj]
      exact hI
    · rw [hset j hj hji]
      have hj' : j < l.length := by rw [List.length_set] at hj; exact hj
      intro hne2
      have hk0 := h.ks j hj'
      obtain ⟨gj, hgj, _⟩ := hk0 hne2
      have a1 : IAt w1 l[j].ka l[j].ks := hk0.farW fun x hx => hF1 x (by rw [hx _ hgj]; exact h.off j hj' _ hne2 hgj)
      by_cases he : l[i].ks = []
      · rw [hE he]; exact a1 hne2
      · refine (a1.farW fun x hx => (hW he).far x fun ad had => ?_) hne2
        rw [hx _ hgj]
        exact h.dis j i hj' hi _ _ hji hne2 he hgj had
  · by_cases hji : j = i
    · subst hji
      rw [hseti hj] at h1 h2
      exact hoff b (hne h1) h2
    · rw [hset j hj hji] at h1 h2
      exact h.off j _ b h1 h2
  · by_cases e1 : j1 = i
    · subst e1
      rw [hseti hj1] at h1 h3
      rw [hset j2 hj2 (fun e => h0 e.symm)] at h2 h4
      exact h.dis j1 j2 hi _ b c h0 (hne h1) h2 h3 h4
    · rw [hset j1 hj1 e1] at h1 h3
      by_cases e2 : j2 = i
      · subst e2
        rw [hseti hj2] at h2 h4
        exact h.dis j1 j2 _ hi b c h0 h1 (hne h2) h3 h4
      · rw [hset j2 hj2 e2] at h2 h4
        exact h.dis j1 j2 _ _ b c h0 h1 h2 h3 h4
theorem MrkO.step {w0 w w1 w2 : World} {g i : Nat} {l : List RoleV} (h : MrkO g l w0 w) (hi : i < l.length) (hF1 : ∀ x : Addr, x.block ≠ g → w1.cell? x = w.cell? x ∧ w1.frozen? x = w.frozen? x) (hB1 : ∀ B, B ≤ g → Below B w w1) (hS1 : w1.heap.size = w.heap.size)
    (hW : l[i].ks ≠ [] → Wrote l[i].ka w1 w2) (hE : l[i].ks = [] → w2 = w1) : MrkO g l w0 w2 := by
  refine ⟨fun x hx hk => ?_, fun B hB hg hk => ?_, ?_⟩
  · have a := h.far x hx hk
    have b := hF1 x hx
    by_cases he : l[i].ks = []
    · rw [hE he]; exact ⟨b.1.trans a.1, b.2.trans a.2⟩
    · have c := (hW he).far x (fun ad had => hk i hi ad he had)
      exact ⟨c.1.trans (b.1.trans a.1), c.2.trans (b.2.trans a.2)⟩
  · have a := (h.below B hB hg hk).trans (hB1 B hg)
    by_cases he : l[i].ks = []
    · rw [hE he]; exact a
    · exact a.trans ((hW he).below B (by rw [hS1, h.size]; exact hB) (fun ad had => hk i hi ad he had))
  · by_cases he : l[i].ks = []
    · rw [hE he, hS1]; exact h.size
    · rw [(hW he).size, hS1]; exact h.size
structure KpMk (g : Nat) (rs : List RoleV) (k0 : Int) (i : Nat) (w0 w : World) : Prop where
  ro : RlsO w g (mid k0 rs i)
  mo : MrkO g rs w0 w
theorem KpMk.cells {g i n : Nat} {rs : List RoleV} {k0 : Int} {w0 w : World} (h : Hid (KpMk g rs k0 i w0 w)) (hi : i < rs.length) : w.cell? ⟨g, i * 2, none⟩ = some (.int .i64 rs[i].need) ∧ w.cell? ⟨g, i * 2 + 1, none⟩ = some (.slice rs[i].ka rs[i].ks.length rs[i].kc) := by
  have hl : i < (mid k0 rs i).length := by rw [mid_len _ _ _ (by omega)]; exact hi
  have := flR_get (mid k0 rs i) i hl
  rw [mid_get k0 rs hi hl] at this
  exact ⟨h.out.ro.row.cell this.1, h.out.ro.row.cell this.2⟩
theorem KpMk.next {g i : Nat} {rs : List RoleV} {k0 k : Int} {w0 w w1 w2 : World} (h : Hid (KpMk g rs k0 i w0 w)) (hi : i < rs.length) (hk : k = k0 + (tot (rs.take i) : Int)) (hr : RowV w1 g ((rlL (mid k0 rs i)).flatten.set (i * 2) (.int .i64 k))) (hF1 : ∀ x : Addr, x.block ≠ g → w1.cell? x = w.cell? x ∧ w1.frozen? x = w.frozen? x) (hB1 : ∀ B, B ≤ g → Below B w w1) (hS1 : w1.heap.size = w.heap.size)
    (hI : IAt w2 rs[i].ka (cnt (k + 1) rs[i].ks.length)) (hW : rs[i].ks ≠ [] → Wrote rs[i].ka w1 w2) (hE : rs[i].ks = [] → w2 = w1) : Hid (KpMk g rs k0 (i + 1) w0 w2) := by
  have hl : i < (mid k0 rs i).length := by rw [mid_len _ _ _ (by omega)]; exact hi
  have e := mid_get k0 rs hi hl
  refine ⟨?_, h.out.mo.step hi hF1 hB1 hS1 hW hE⟩
  have := h.out.ro.step hl hr hF1 (by rw [e]; exact hI) (by rw [e]; exact hW) (by rw [e]; exact hE)
  rw [e, hk, mid_set k0 rs hi] at this
  exact this
end Go.Proofs.YtdfglpbappeoaaaGreatDoor
namespace Go.Proofs.YtdfglpbappeoaaaGreatDoor
open Go.RowKit
set_option linter.unusedVariables false

theorem IAt.other {w w' : World} {g b : Nat} {l : List Int} (h : IAt w (some ⟨b, 0, none⟩) l) (hF : ∀ x : Addr, x.block ≠ g → w'.cell? x = w.cell? x ∧ w'.frozen? x = w.frozen? x) (hne : b ≠ g) : IAt w' (some ⟨b, 0, none⟩) l := fun hl => by
  obtain ⟨b', h1, h2⟩ := h hl
  injection h1 with h1
  injection h1 with e1
  subst e1
  exact ⟨b, rfl, fun k hk => ⟨((hF ⟨b, k, none⟩ hne).1).trans (h2 k hk).1, ((hF ⟨b, k, none⟩ hne).2).trans (h2 k hk).2⟩⟩
theorem RlsO.other {w w' : World} {g gx : Nat} {l : List RoleV} (h : RlsO w g l) (hF : ∀ x : Addr, x.block ≠ gx → w'.cell? x = w.cell? x ∧ w'.frozen? x = w.frozen? x) (hne : g ≠ gx) (hk : ∀ r ∈ l, ∃ b, r.ka = some ⟨b, 0, none⟩ ∧ b ≠ gx) : RlsO w' g l :=
  ⟨h.row.same fun k => hF ⟨g, k, none⟩ hne, fun i hi => by
    obtain ⟨b, hb, hbx⟩ := hk _ (List.getElem_mem hi)
    have := h.ks i hi
    rw [hb] at this ⊢
    exact this.other hF hbx, h.off, h.dis⟩
theorem BldV.row {w : World} {g n : Nat} {l : List RoleV} (h : BldV w g 2 n (rlL l) n) (hn : l.length = n) : RowV w g (rlL l).flatten := by
  have hl := flR_len l
  refine ⟨fun j v hv => ?_, by rw [hl, hn]; exact h.ths⟩
  have hj : j < (rlL l).flatten.length := by
    rcases Nat.lt_or_ge j (rlL l).flatten.length with h1 | h1
    · exact h1
    · rw [List.getElem?_eq_none h1] at hv; cases hv
  have hi : j / 2 < l.length := by omega
  have hr := h.rng (j / 2) (by rw [rlL_len]; exact hi) (by omega)
  rw [rlL_get hi] at hr
  obtain ⟨q0, q1⟩ := flR_get l (j / 2) hi
  rw [Nat.zero_add]
  by_cases hm : j % 2 = 0
  · have e : j / 2 * 2 = j := by omega
    rw [e] at q0
    have := hr 0 _ rfl
    rw [Nat.add_zero, e] at this
    rw [this]
    exact q0.symm.trans hv
  · have e : j / 2 * 2 + 1 = j := by omega
    rw [e] at q1
    have := hr 1 _ rfl
    rw [e] at this
    rw [this]
    exact q1.symm.trans hv
set_option maxRecDepth 100000 in
set_option maxHeartbeats 1000000 in
theorem toRlO (nd : Int) (a : Option Addr) (c n : Nat) (ks : List Int) (w : World) (hn : ks.length = n) (h : AI w a ks) (hb : n ≤ 1048576) :
    Calls Tryz.prog 99 #[.agg #[.int .i64 nd, .slice a n c]] w fun e w' => ∃ g, e = .returned (.agg #[.int .i64 nd, .slice (some ⟨g, 0, none⟩) n n]) ∧ IAt w' (some ⟨g, 0, none⟩) ks ∧ w.heap.size ≤ g ∧ g < w'.heap.size ∧ Below w.heap.size w w' := by
  have HA : Hid (AI w a ks) := h
  have HTo : ∀ w0, AI w0 a ks → Calls Tryz.prog 120 #[.slice a n c] w0 fun e w' => e = .returned (.slice (some ⟨w0.heap.size, 0, none⟩) n n) ∧ IAt w' (some ⟨w0.heap.size, 0, none⟩) ks ∧ Below w0.heap.size w0 w' ∧ w0.heap.size < w'.heap.size := fun w0 h0 => toI_any a c n ks w0 hn h0 hb
  clear h hn
  go_enter Tryz.func99, Tryz.ntmps99
  go_wp2_with (first
    | (with_reducible refine wpList_boxV (w := w) (by with_unfolding_all rfl) 126 (.tmp 0) (by with_unfolding_all rfl) (rlv nd a n c) (by with_unfolding_all rfl) ?_; intro w1 hA1 hB1 hS1; have z1 : w.heap.size < w1.heap.size := (by omega); clear hS1)
    | (with_reducible refine wpList_allocV (w := w1) (by with_unfolding_all rfl) 122 (by with_unfolding_all rfl) (rlv 0 none 0 0) Tryz.infoRlz ?_; intro w2 hA2 hB2 hS2; have z2 : w1.heap.size < w2.heap.size := (by omega); clear hS2)
    | (with_reducible refine wpList_allocV (w := w2) (by with_unfolding_all rfl) 122 (by with_unfolding_all rfl) (rlv 0 none 0 0) Tryz.infoRlz ?_; intro w3 hA3 hB3 hS3; have z3 : w2.heap.size < w3.heap.size := (by omega); clear hS3; have V3 := (hA1.below hB2 z1).below hB3 (by omega); have R3 := hA2.below hB3 z2; have b03 : Below w.heap.size w w3 := (hB1.trans (hB2.mono (by omega))).trans (hB3.mono (by omega)); obtain ⟨q0, q1⟩ := V3.rl)
    | (with_reducible refine wpList_cellV (w := w3) (by with_unfolding_all rfl) 2 (.tmp 6) (.tmp 5) (by with_unfolding_all rfl) w2.heap.size 0 (rlv 0 none 0 0) (rlv nd none 0 0) (.int .i64 nd) (by with_unfolding_all rfl) (by with_unfolding_all rfl) rfl Tryz.size1Int hA3 (by decide) (by with_unfolding_all rfl) ?_; intro w4 hA4 hB4 hF4 hS4; have z4 : w2.heap.size < w4.heap.size := (by omega); clear hS4; have V4 := V3.below (hB4 _ (Nat.le_refl _)) (by omega); have R4 := R3.below (hB4 _ (Nat.le_refl _)) (by omega); have b04 : Below w.heap.size w w4 := b03.trans (hB4 _ (by omega)); obtain ⟨r0, r1⟩ := V4.rl)
    | (go_at_call 120; refine (HTo w4 (HA.out.below b04)).mono ?_; rintro e w5 ⟨rfl, hI5, hB5, hL5⟩; have y5 : w4.heap.size < w5.heap.size := hL5; have V5 := V4.below hB5 (by omega); have A5 := hA4.below hB5 z4; have R5 := R4.below hB5 (by omega); have b05 : Below w.heap.size w w5 := b04.trans (hB5.mono (by omega)))
    | (with_reducible refine wpList_cellV (w := w5) (by with_unfolding_all rfl) 97 (.tmp 10) (.tmp 9) (by with_unfolding_all rfl) w2.heap.size 1 (rlv nd none 0 0) (rlv nd (some ⟨w4.heap.size, 0, none⟩) n n) (.slice (some ⟨w4.heap.size, 0, none⟩) n n) (by with_unfolding_all rfl) (by with_unfolding_all rfl) rfl Tryz.size1Is A5 (by simp [rlv]) (by with_unfolding_all rfl) ?_; intro w6 hA6 hB6 hF6 hS6; have z6 : w2.heap.size < w6.heap.size := (by omega); have y6 : w5.heap.size = w6.heap.size := (by omega); clear hS6; have R6 := R5.below (hB6 _ (Nat.le_refl _)) (by omega); have b06 : Below w.heap.size w w6 := b05.trans (hB6 _ (by omega)); have I6 := IAt.other hI5 hF6 (by omega))
    | (with_reducible refine wpList_loadV (w := w6) (by with_unfolding_all rfl) 122 (.tmp 3) (by with_unfolding_all rfl) w2.heap.size (rlv nd (some ⟨w4.heap.size, 0, none⟩) n n) (by with_unfolding_all rfl) hA6 Tryz.undRl 2 Tryz.sizeRl (by with_unfolding_all rfl) ?_)
    | (with_reducible refine wpList_storeV (w := w6) (by with_unfolding_all rfl) 122 (.tmp 2) (.tmp 11) (by with_unfolding_all rfl) w1.heap.size (rlv 0 none 0 0) (rlv nd (some ⟨w4.heap.size, 0, none⟩) n n) (by with_unfolding_all rfl) (by with_unfolding_all rfl) R6 2 Tryz.sizeRl (by with_unfolding_all rfl) (by with_unfolding_all rfl) (rlv_one _ _ _ _) ?_; intro w7 hA7 hB7 hF7 hS7; have y7 : w6.heap.size = w7.heap.size := (by omega); have I7 := IAt.other I6 hF7 (by omega); have b07 : Below w.heap.size w w7 := b06.trans (hB7 _ (by omega))))
  exact bodyPost_ret (results_V (t := 122) rfl _ w1.heap.size _ rfl hA7 Tryz.undRl 2 Tryz.sizeRl rfl) rfl ⟨w4.heap.size, rfl, I7, by omega, by omega, b07⟩
structure KpTO (w : World) (a : Option Addr) (rs : List RoleV) (g n : Nat) (rs' : List RoleV) (w' : World) : Prop where
  below : Below w.heap.size w w'
  rl : RlsAt w' a rs
  bld : BldV w' g 2 n (rlL rs') rs'.length
  ks : ∀ r ∈ rs', ∃ b, r.ka = some ⟨b, 0, none⟩ ∧ g < b ∧ b < w'.heap.size ∧ IAt w' (some ⟨b, 0, none⟩) r.ks
  up : ∀ i j (hi : i < rs'.length) (hj : j < rs'.length) b c, i < j → rs'[i].ka = some b → rs'[j].ka = some c → b.block < c.block
  lt : g < w'.heap.size
  ge : w.heap.size ≤ g
theorem KpTO.call {w w' w2 : World} {a : Option Addr} {rs rs' : List RoleV} {g n : Nat} (h : Hid (KpTO w a rs g n rs' w')) (hb : Below w'.heap.size w' w2) : Hid (KpTO w a rs g n rs' w2) :=
  ⟨h.out.below.trans (hb.mono h.out.below.size), h.out.rl.below hb, h.out.bld.below hb h.out.lt, fun r hr => by
    obtain ⟨b, h1, h2, h3, h4⟩ := h.out.ks r hr
    exact ⟨b, h1, h2, Nat.lt_of_lt_of_le h3 hb.size, h4.below hb⟩, h.out.up, Nat.lt_of_lt_of_le h.out.lt hb.size, h.out.ge⟩
theorem KpTO.there {w w' : World} {a : Option Addr} {rs rs' : List RoleV} {g n k : Nat} (h : Hid (KpTO w a rs g n rs' w')) (hl : rs'.length = k) (hk : k < n) : w'.there g (k * 2) 2 := there_part h.out.bld.ths hk
theorem KpTO.step {w w' w2 : World} {a : Option Addr} {rs rs' : List RoleV} {g n k g8 m : Nat} {nd : Int} {ks : List Int} (h : Hid (KpTO w a rs g n rs' w')) (h0 : Hid (RlsAt w a rs)) (hk : k < n) (hl : rs'.length = k) (hm : ks.length = m) (hb : Below w'.heap.size w' w2) (hai : IAt w2 (some ⟨g8, 0, none⟩) ks) (hge : w'.heap.size ≤ g8) (hlt8 : g8 < w2.heap.size) :
    Hid (KpTO w a rs g n (rs' ++ [⟨nd, some ⟨g8, 0, none⟩, m, ks⟩]) (w2.setCells g (k * 2) (rlv nd (some ⟨g8, 0, none⟩) m m))) := by
  subst hm
  have h2 := (KpTO.call h hb).out
  have hgl := h.out.lt
  have hne : g8 ≠ g := by omega
  have hbw : Below w.heap.size w (w2.setCells g (k * 2) (rlv nd (some ⟨g8, 0, none⟩) ks.length ks.length)) := h2.below.trans (below_set h2.ge)
  refine ⟨hbw, h0.out.below hbw, ?_, ?_, ?_, by rw [setCells_size]; exact h2.lt, h2.ge⟩
  · have := (hl ▸ h2.bld).push (x := rlv nd (some ⟨g8, 0, none⟩) ks.length ks.length) (by rw [rlL_len, hl]) hk rfl (rlL_all _)
    have e : rlL (rs' ++ [⟨nd, some ⟨g8, 0, none⟩, ks.length, ks⟩]) = rlL rs' ++ [rlv nd (some ⟨g8, 0, none⟩) ks.length ks.length] := by unfold rlL; rw [List.map_append]; rfl
    rw [e, List.length_append, hl]
    exact this
  · intro r hr
    rw [setCells_size]
    rcases List.mem_append.1 hr with hr | hr
    · obtain ⟨b, hb1, hb2, hb3, hb4⟩ := h2.ks r hr
      exact ⟨b, hb1, hb2, hb3, hb4.other set_other (by omega)⟩
    · obtain rfl := List.mem_singleton.1 hr
      exact ⟨g8, rfl, by omega, hlt8, hai.other set_other hne⟩
  · intro i j hi hj b c hij h1 h3
    rw [List.length_append, List.length_singleton] at hi hj
    by_cases hj2 : j < rs'.length
    · rw [List.getElem_append_left hj2] at h3
      rw [List.getElem_append_left (by omega)] at h1
      exact h.out.up i j _ _ b c hij h1 h3
    · have hi2 : i < rs'.length := by omega
      rw [List.getElem_append_left hi2] at h1
      rw [List.getElem_append_right (by omega)] at h3
      simp only [List.getElem_singleton] at h3
      obtain ⟨b', e1, e2, e3, _⟩ := h.out.ks _ (List.getElem_mem hi2)
      rw [e1] at h1
      injection h1 with h1
      injection h3 with h3
      subst h1 h3
      show b' < g8
      omega
theorem KpTO.done {w w' : World} {a : Option Addr} {rs rs' : List RoleV} {g n : Nat} (h : Hid (KpTO w a rs g n rs' w')) (hn : rs'.length = n) : RlsO w' g rs' := by
  refine ⟨BldV.row (hn ▸ h.out.bld) hn, fun i hi => ?_, fun i hi b _ hb => ?_, fun i j hi hj b c hij _ _ hb hc => ?_⟩
  · obtain ⟨b, hb, _, _, h4⟩ := h.out.ks _ (List.getElem_mem hi)
    rw [hb]
    exact h4
  · obtain ⟨b', hb', h2, _⟩ := h.out.ks _ (List.getElem_mem hi)
    rw [hb'] at hb
    injection hb with hb
    subst hb
    show b' ≠ g
    omega
  · rcases Nat.lt_or_gt_of_ne hij with h1 | h1
    · exact Nat.ne_of_lt (h.out.up i j hi hj b c h1 hb hc)
    · exact Nat.ne_of_gt (h.out.up j i hj hi c b h1 hc hb)
set_option maxRecDepth 100000 in
set_option maxHeartbeats 1000000 in
theorem toRlsO (a : Option Addr) (c n : Nat) (rs : List RoleV) (w : World) (hn : rs.length = n) (h : RlsAt w a rs) (hb : n ≤ 1048576) (hks : ∀ r ∈ rs, r.ks.length ≤ 1048576) :
    Calls Tryz.prog 65 #[.slice a n c] w fun e w' => ∃ rs', e = .returned (.slice (some ⟨w.heap.size, 0, none⟩) n n) ∧ rkeys rs' = rkeys rs ∧ RlsO w' w.heap.size rs' ∧ (∀ r ∈ rs', ∃ b, r.ka = some ⟨b, 0, none⟩ ∧ w.heap.size < b) ∧ Below w.heap.size w w' ∧ w.heap.size < w'.heap.size := by
  have HA : Hid (RlsAt w a rs) := h
  have HN : Hid (rs.length = n) := hn
  have HK : Hid (∀ r ∈ rs, r.ks.length ≤ 1048576) := hks
  clear h hn hks
  obtain ⟨i0, hi, hz0, hz1, hz2⟩ := info_parts Tryz.infoRl
  go_enter Tryz.func65, Tryz.ntmps65
  go_wp2_with (first
    | (at_make; refine wpList_make_full _ rfl _ _ 38 rfl w.heap.size 122 i0 _ 2 Tryz.underlying38 hi hz0 hz1 _ _ _ _ n rfl rfl (by omega) (by omega) (by rw [hz2]; omega) (by unfold maxLen; omega) (Nat.le_refl _) ?_))
  intro w1 hown1 hgr1
  have hb1 : Below w.heap.size w w1 := (Below.refl _ _).grown hgr1 (Nat.le_refl _) (fun _ h => by cases h)
  have HS1 : Hid (KpTO w a rs w.heap.size n [] w1) := ⟨hb1, HA.out.below hb1, BldV.made hown1, fun r hr => (by cases hr), fun i j hi => absurd hi (Nat.not_lt_zero _), (hown1.lt w.heap.size rfl).2, Nat.le_refl _⟩
  clear hown1 hgr1 hi hz0 hz1 hz2 hb1
  go_wp2_with fail
  go_loopw [4] (fun i wr => ∃ (k : Nat) (rs' : List RoleV), i = .int .i64 (k : Int) ∧ k ≤ n ∧ Hid (rs'.length = k ∧ rkeys rs' = rkeys (rs.take k)) ∧ Hid (∀ r ∈ rs', ∃ b, r.ka = some ⟨b, 0, none⟩ ∧ w.heap.size < b) ∧ Hid (KpTO w a rs w.heap.size n rs' wr)) (fun i _ => n - (intOf i).toNat)
  case atStart => exact ⟨0, [], rfl, Nat.zero_le _, ⟨rfl, rfl⟩, fun r hr => (by cases hr), HS1⟩
  case round =>
    clear HS1
    obtain ⟨k, rs', rfl, hk, HL, HG, HS⟩ := hrel
    by_cases hlt : k < n
    case neg =>
      obtain rfl : k = n := by omega
      have HF : Hid (rkeys rs' = rkeys rs) := by show _ = _; rw [HL.out.2, List.take_of_length_le (by have := HN.out; omega)]
      go_wp2
      go_ret
      exact ⟨rs', rfl, HF.out, KpTO.done HS HL.out.1, HG.out, HS.out.below, HS.out.lt⟩
    have hkl : k < rs.length := by have := HN.out; omega
    obtain ⟨b, o, rfl, c0, c1, hai⟩ := HS.out.rl k hkl
    have HKn : Hid (∀ r : RoleV, r.need = rs[k].need → r.ks = rs[k].ks → (rs' ++ [r]).length = k + 1 ∧ rkeys (rs' ++ [r]) = rkeys (rs.take (k + 1))) := fun r h1 h2 => ⟨by rw [List.length_append, HL.out.1]; rfl, rkeys_snoc HL.out.2 hkl h1 h2⟩
    have x2 := HK.out rs[k] (List.getElem_mem hkl)
    have hT : ∀ w0, AI w0 rs[k].ka rs[k].ks → Calls Tryz.prog 99 #[.agg #[.int .i64 rs[k].need, .slice rs[k].ka rs[k].ks.length rs[k].kc]] w0 fun e w' => ∃ g, e = .returned (.agg #[.int .i64 rs[k].need, .slice (some ⟨g, 0, none⟩) rs[k].ks.length rs[k].ks.length]) ∧ IAt w' (some ⟨g, 0, none⟩) rs[k].ks ∧ w0.heap.size ≤ g ∧ g < w'.heap.size ∧ Below w0.heap.size w0 w' := fun w0 h0 => toRlO rs[k].need rs[k].ka rs[k].kc _ rs[k].ks w0 rfl h0 x2
    have HAi : Hid (AI wr rs[k].ka rs[k].ks) := hai
    generalize rs[k].need = nd at *
    generalize rs[k].ka = ka at *
    generalize rs[k].kc = kc at *
    generalize rs[k].ks = ks at *
    obtain ⟨m, hm⟩ : ∃ m, ks.length = m := ⟨_, rfl⟩
    rw [hm] at c1 hT
    have HM : Hid (ks.length = m) := hm
    have HL1 : Hid (rs'.length = k) := HL.out.1
    have lk : (k : Int) < n := by omega
    have l0 : (0 : Int) ≤ k := by omega
    clear hm hai HL hkl x2
    go_wp2_with (first
      | (go_at_call 99; with_reducible refine (hT _ HAi.out).mono ?_; rintro r w5 ⟨g8, rfl, hI5, hg5, hl5, hB5⟩; have HS5 := KpTO.call HS hB5; have HS6 := KpTO.step (nd := nd) HS HA hlt HL1.out HM.out hB5 hI5 hg5 hl5)
      | (with_reducible refine wpList_storeAt (w := w5) (by with_unfolding_all rfl) 122 (.tmp 21) (.tmp 20) (by with_unfolding_all rfl) w.heap.size (k * 2) 2 (rlv nd (some ⟨g8, 0, none⟩) m m) (by with_unfolding_all rfl) (by with_unfolding_all rfl) (KpTO.there HS5 HL1.out hlt) Tryz.sizeRl rfl (rlv_one _ _ _ _) ?_))
    have HG2 : Hid (∀ r ∈ rs' ++ [⟨nd, some ⟨g8, 0, none⟩, m, ks⟩], ∃ b, r.ka = some ⟨b, 0, none⟩ ∧ w.heap.size < b) := fun r hr => by
      rcases List.mem_append.1 hr with hr | hr
      · exact HG.out r hr
      · obtain rfl := List.mem_singleton.1 hr
        exact ⟨g8, rfl, by have := HS.out.lt; omega⟩
    go_roundw
    case rel => exact ⟨k + 1, rs' ++ [⟨nd, some ⟨g8, 0, none⟩, m, ks⟩], by go_num, hlt, HKn.out _ rfl rfl, HG2, HS6⟩
    case measure => simp [intOf]; omega
set_option maxRecDepth 100000 in
set_option maxHeartbeats 1000000 in
theorem toRtO (v e : Int) (a : Option Addr) (c n : Nat) (rs : List RoleV) (w : World) (hn : rs.length = n) (h : RlsAt w a rs) (hb : n ≤ 1048576) (hks : ∀ r ∈ rs, r.ks.length ≤ 1048576) :
    Calls Tryz.prog 26 #[.agg #[.int .i64 v, .int .i64 e, .slice a n c]] w fun r w' => ∃ g rs', r = .returned (.agg #[.int .i64 v, .int .i64 e, .slice (some ⟨g, 0, none⟩) n n]) ∧ rkeys rs' = rkeys rs ∧ RlsO w' g rs' ∧ w.heap.size < g ∧ (∀ r ∈ rs', ∃ b, r.ka = some ⟨b, 0, none⟩ ∧ w.heap.size < b) ∧ Below w.heap.size w w' := by
  have HA : Hid (RlsAt w a rs) := h
  have HTo : ∀ w0, RlsAt w0 a rs → Calls Tryz.prog 65 #[.slice a n c] w0 fun e w' => ∃ rs', e = .returned (.slice (some ⟨w0.heap.size, 0, none⟩) n n) ∧ rkeys rs' = rkeys rs ∧ RlsO w' w0.heap.size rs' ∧ (∀ r ∈ rs', ∃ b, r.ka = some ⟨b, 0, none⟩ ∧ w0.heap.size < b) ∧ Below w0.heap.size w0 w' ∧ w0.heap.size < w'.heap.size := fun w0 h0 => toRlsO a c n rs w0 hn h0 hb hks
  clear h hn hks
  go_enter Tryz.func26, Tryz.ntmps26
  go_wp2_with (first
    | (with_reducible refine wpList_boxV (w := w) (by with_unfolding_all rfl) 24 (.tmp 0) (by with_unfolding_all rfl) (rtv v e a n c) (by with_unfolding_all rfl) ?_; intro w1 hA1 hB1 hS1; have z1 : w.heap.size < w1.heap.size := (by omega); clear hS1)
    | (with_reducible refine wpList_allocV (w := w1) (by with_unfolding_all rfl) 40 (by with_unfolding_all rfl) (rtv 0 0 none 0 0) Tryz.infoRtz ?_; intro w2 hA2 hB2 hS2; have z2 : w1.heap.size < w2.heap.size := (by omega); clear hS2)
    | (with_reducible refine wpList_allocV (w := w2) (by with_unfolding_all rfl) 40 (by with_unfolding_all rfl) (rtv 0 0 none 0 0) Tryz.infoRtz ?_; intro w3 hA3 hB3 hS3; have z3 : w2.heap.size < w3.heap.size := (by omega); clear hS3; have V3 := (hA1.below hB2 z1).below hB3 (by omega); have R3 := hA2.below hB3 z2; have b03 : Below w.heap.size w w3 := (hB1.trans (hB2.mono (by omega))).trans (hB3.mono (by omega)); obtain ⟨q0, q1, q2⟩ := V3.rt3)
    | (with_reducible refine wpList_cellV (w := w3) (by with_unfolding_all rfl) 2 (.tmp 6) (.tmp 5) (by with_unfolding_all rfl) w2.heap.size 0 (rtv 0 0 none 0 0) (rtv v 0 none 0 0) (.int .i64 v) (by with_unfolding_all rfl) (by with_unfolding_all rfl) rfl Tryz.size1Int hA3 (by decide) (by with_unfolding_all rfl) ?_; intro wa hAa hBa hFa hSa; have za : w2.heap.size < wa.heap.size := (by omega); clear hSa; have Va := V3.below (hBa _ (Nat.le_refl _)) (by omega); have Ra := R3.below (hBa _ (Nat.le_refl _)) (by omega); have b0a : Below w.heap.size w wa := b03.trans (hBa _ (by omega)); obtain ⟨s0, s1, s2⟩ := Va.rt3)
    | (with_reducible refine wpList_cellV (w := wa) (by with_unfolding_all rfl) 2 (.tmp 9) (.tmp 8) (by with_unfolding_all rfl) w2.heap.size 1 (rtv v 0 none 0 0) (rtv v e none 0 0) (.int .i64 e) (by with_unfolding_all rfl) (by with_unfolding_all rfl) rfl Tryz.size1Int hAa (by simp [rtv]) (by with_unfolding_all rfl) ?_; intro w4 hA4 hB4 hF4 hS4; have z4 : w2.heap.size < w4.heap.size := (by omega); clear hS4; have V4 := Va.below (hB4 _ (Nat.le_refl _)) (by omega); have R4 := Ra.below (hB4 _ (Nat.le_refl _)) (by omega); have b04 : Below w.heap.size w w4 := b0a.trans (hB4 _ (by omega)); obtain ⟨r0, r1, r2⟩ := V4.rt3)
    | (go_at_call 65; refine (HTo w4 (HA.out.below b04)).mono ?_; rintro e w5 ⟨rs', rfl, hK5, hI5, hG5, hB5, hL5⟩; have V5 := V4.below hB5 (by omega); have A5 := hA4.below hB5 z4; have R5 := R4.below hB5 (by omega); have b05 : Below w.heap.size w w5 := b04.trans (hB5.mono (by omega)); have HK5 : Hid (rkeys rs' = rkeys rs) := hK5; have HG5 : Hid (∀ r ∈ rs', ∃ b, r.ka = some ⟨b, 0, none⟩ ∧ w4.heap.size < b) := hG5; clear hK5 hG5)
    | (with_reducible refine wpList_cellV (w := w5) (by with_unfolding_all rfl) 38 (.tmp 13) (.tmp 12) (by with_unfolding_all rfl) w2.heap.size 2 (rtv v e none 0 0) (rtv v e (some ⟨w4.heap.size, 0, none⟩) n n) (.slice (some ⟨w4.heap.size, 0, none⟩) n n) (by with_unfolding_all rfl) (by with_unfolding_all rfl) rfl Tryz.size1Rls A5 (by simp [rtv]) (by with_unfolding_all rfl) ?_; intro w6 hA6 hB6 hF6 hS6; have z6 : w2.heap.size < w6.heap.size := (by omega); clear hS6; have R6 := R5.below (hB6 _ (Nat.le_refl _)) (by omega); have b06 : Below w.heap.size w w6 := b05.trans (hB6 _ (by omega)); have I6 := RlsO.other hI5 hF6 (by omega) (fun r hr => (Exists.elim (HG5.out r hr) (fun b hb => ⟨b, hb.1, (by omega)⟩))))
    | (with_reducible refine wpList_loadV (w := w6) (by with_unfolding_all rfl) 40 (.tmp 3) (by with_unfolding_all rfl) w2.heap.size (rtv v e (some ⟨w4.heap.size, 0, none⟩) n n) (by with_unfolding_all rfl) hA6 Tryz.undRt 3 Tryz.sizeRt (by with_unfolding_all rfl) ?_)
    | (with_reducible refine wpList_storeV (w := w6) (by with_unfolding_all rfl) 40 (.tmp 2) (.tmp 14) (by with_unfolding_all rfl) w1.heap.size (rtv 0 0 none 0 0) (rtv v e (some ⟨w4.heap.size, 0, none⟩) n n) (by with_unfolding_all rfl) (by with_unfolding_all rfl) R6 3 Tryz.sizeRt (by with_unfolding_all rfl) (by with_unfolding_all rfl) (rtv_one _ _ _ _ _) ?_; intro w7 hA7 hB7 hF7 hS7; have I7 := RlsO.other I6 hF7 (by omega) (fun r hr => (Exists.elim (HG5.out r hr) (fun b hb => ⟨b, hb.1, (by omega)⟩))); have b07 : Below w.heap.size w w7 := b06.trans (hB7 _ (by omega))))
  exact bodyPost_ret (results_V (t := 40) rfl _ w1.heap.size _ rfl hA7 Tryz.undRt 3 Tryz.sizeRt rfl) rfl ⟨w4.heap.size, rs', rfl, HK5.out, I7, by omega, fun r hr => (Exists.elim (HG5.out r hr) (fun b hb => ⟨b, hb.1, by omega⟩)), b07⟩
end Go.Proofs.YtdfglpbappeoaaaGreatDoor
namespace Go.Proofs.YtdfglpbappeoaaaGreatDoor
open Go.RowKit
set_option linter.unusedVariables false

theorem flT_len (l : List TarV) : (tgL l).flatten.length = l.length * 3 := by
  induction l with
  | nil => rfl
  | cons x xs ih =>
    show (tgv x.nm x.im x.sz ++ (tgL xs).flatten).length = _
    rw [List.length_append, ih, List.length_cons]
    show 3 + _ = _
    omega
theorem flT_get : ∀ (l : List TarV) (i : Nat) (h : i < l.length), (tgL l).flatten[i * 3]? = some (.string l[i].nm) ∧ (tgL l).flatten[i * 3 + 1]? = some (.string l[i].im) ∧ (tgL l).flatten[i * 3 + 2]? = some (.int .i64 l[i].sz)
  | x :: xs, 0, _ => ⟨rfl, rfl, rfl⟩
  | x :: xs, i + 1, h => by
    have := flT_get xs i (by simpa using h)
    rw [show (i + 1) * 3 = i * 3 + 1 + 1 + 1 by omega]
    exact this
theorem row_tgs {w : World} {g : Nat} {l : List TarV} (h : RowV w g (tgL l).flatten) : TgsAt w (some ⟨g, 0, none⟩) l := fun i hi => by
  obtain ⟨h1, h2, h3⟩ := flT_get l i hi
  refine ⟨g, 0, rfl, ?_, ?_, ?_⟩
  · rw [Nat.zero_add]; exact h.cell h1
  · rw [Nat.zero_add]; exact h.cell h2
  · rw [Nat.zero_add]; exact h.cell h3
theorem BldV.tgrow {w : World} {g n : Nat} {l : List TarV} (h : BldV w g 3 n (tgL l) n) (hn : l.length = n) : RowV w g (tgL l).flatten := by
  have hl := flT_len l
  refine ⟨fun j v hv => ?_, by rw [hl, hn]; exact h.ths⟩
  have hj : j < (tgL l).flatten.length := by
    rcases Nat.lt_or_ge j (tgL l).flatten.length with h1 | h1
    · exact h1
    · rw [List.getElem?_eq_none h1] at hv; cases hv
  have hi : j / 3 < l.length := by omega
  have hi2 : j / 3 < (tgL l).length := by unfold tgL; rw [List.length_map]; exact hi
  have hr := h.rng (j / 3) hi2 (by omega)
  rw [tgL_get hi] at hr
  obtain ⟨q0, q1, q2⟩ := flT_get l (j / 3) hi
  rw [Nat.zero_add]
  rcases (show j % 3 = 0 ∨ j % 3 = 1 ∨ j % 3 = 2 by omega) with hm | hm | hm
  · have e : j / 3 * 3 = j := by omega
    rw [e] at q0
    have := hr 0 _ rfl
    rw [Nat.add_zero, e] at this
    rw [this]
    exact q0.symm.trans hv
  · have e : j / 3 * 3 + 1 = j := by omega
    rw [e] at q1
    have := hr 1 _ rfl
    rw [e] at this
    rw [this]
    exact q1.symm.trans hv
  · have e : j / 3 * 3 + 2 = j := by omega
    rw [e] at q2
    have := hr 2 _ rfl
    rw [e] at this
    rw [this]
    exact q2.symm.trans hv
set_option maxRecDepth 100000 in
set_option maxHeartbeats 1000000 in
theorem toTgS_row (a : Option Addr) (c n : Nat) (l : List TarV) (w : World) (hn : l.length = n) (h : TgsAt w a l) (hb : n ≤ 1048576) :
    Calls Tryz.prog 66 #[.slice a n c] w fun e w' => e = .returned (.slice (some ⟨w.heap.size, 0, none⟩) n n) ∧ RowV w' w.heap.size (tgL l).flatten ∧ Below w.heap.size w w' ∧ w.heap.size < w'.heap.size := by
  have HA : Hid (TgsAt w a l) := h
  have HN : Hid (l.length = n) := hn
  clear h hn
  obtain ⟨i0, hi, hz0, hz1, hz2⟩ := info_parts Tryz.infoTg3
  go_enter Tryz.func66, Tryz.ntmps66
  go_wp2_with (first
    | (at_make; refine wpList_make_full _ rfl _ _ 42 rfl w.heap.size 124 i0 _ 3 Tryz.underlying42 hi hz0 hz1 _ _ _ _ n rfl rfl (by omega) (by omega) (by rw [hz2]; omega) (by unfold maxLen; omega) (Nat.le_refl _) ?_))
  intro w1 hown1 hgr1
  have hb1 : Below w.heap.size w w1 := (Below.refl _ _).grown hgr1 (Nat.le_refl _) (fun _ h => by cases h)
  have HS1 : Hid (KpTt w a l w.heap.size n 0 w1) := ⟨hb1, HA.out.below hb1, BldV.made hown1, (hown1.lt w.heap.size rfl).2, Nat.le_refl _⟩
  clear hown1 hgr1 hi hz0 hz1 hz2 hb1
  go_wp2_with fail
  go_loopw [4] (fun i wr => ∃ k : Nat, i = .int .i64 (k : Int) ∧ k ≤ n ∧ Hid (KpTt w a l w.heap.size n k wr)) (fun i _ => n - (intOf i).toNat)
  case atStart => exact ⟨0, rfl, Nat.zero_le _, HS1⟩
  case round =>
    clear HS1
    obtain ⟨k, rfl, hk, HS⟩ := hrel
    by_cases hlt : k < n
    case neg =>
      obtain rfl : k = n := by omega
      go_wp2
      go_ret
      exact ⟨rfl, BldV.tgrow HS.out.bld HN.out, HS.out.below, HS.out.lt⟩
    have hkl : k < l.length := by have := HN.out; omega
    obtain ⟨b, o, rfl, c0, c1, c2⟩ := HS.out.tg k hkl
    obtain ⟨x, hx⟩ : ∃ x, l[k].nm = x := ⟨_, rfl⟩
    obtain ⟨y, hy⟩ : ∃ y, l[k].im = y := ⟨_, rfl⟩
    obtain ⟨z, hz⟩ : ∃ z, l[k].sz = z := ⟨_, rfl⟩
    have HE : Hid (True → ∃ h : k < l.length, tgv l[k].nm l[k].im l[k].sz = tgv x y z) := fun _ => ⟨hkl, by rw [hx, hy, hz]⟩
    rw [hx] at c0
    rw [hy] at c1
    rw [hz] at c2
    clear hx hy hz hkl
    have hT : ∀ w0, Calls Tryz.prog 100 #[.agg #[.string x, .string y, .int .i64 z]] w0 fun r w' => r = .returned (.agg #[.string x, .string y, .int .i64 z]) ∧ Below w0.heap.size w0 w' := fun w0 => toT_any x y z w0
    have lk : (k : Int) < n := by omega
    have l0 : (0 : Int) ≤ k := by omega
    go_wp2_with (first
      | (go_at_call 100; with_reducible refine (hT _).mono ?_; rintro r w5 ⟨rfl, hB5⟩; have HS5 := KpTt.call HS hB5)
      | (with_reducible refine wpList_storeAt (w := w5) (by with_unfolding_all rfl) 124 (.tmp 21) (.tmp 20) (by with_unfolding_all rfl) w.heap.size (k * 3) 3 (tgv x y z) (by with_unfolding_all rfl) (by with_unfolding_all rfl) (KpTt.there HS5 hlt) Tryz.sizeTg rfl (tgv_one x y z) ?_))
    go_roundw
    case rel => exact ⟨k + 1, by go_num, hlt, KpTt.step HS5 HA hlt HN.out HE⟩
    case measure => simp [intOf]; omega
theorem row_made {w0 w : World} {g : Nat} {L : List Value} (h : RowV w g L) (h1 : w0.heap.size ≤ g) (h2 : g < w.heap.size) : Made w0 w (fun w2 => RowV w2 g L) := fun w2 hw => h.same fun k => hw.far ⟨g, k, none⟩ h2 (fun hn => hn ⟨h1, h2⟩)
theorem toTgSM (a : Option Addr) (c n : Nat) (l : List TarV) (w : World) (hn : l.length = n) (h : TgsAt w a l) (hb : n ≤ 1048576) :
    Calls Tryz.prog 66 #[.slice a n c] w fun r w' => ∃ (g : Nat), r = .returned (.slice (some ⟨g, 0, none⟩) n n) ∧ (w.heap.size ≤ g ∧ g < w'.heap.size) ∧ Made w w' (fun w2 => RowV w2 g (tgL l).flatten) ∧ Below w.heap.size w w' :=
  (toTgS_row a c n l w hn h hb).mono fun r w' ⟨h1, h2, h3, h4⟩ => ⟨w.heap.size, h1, ⟨Nat.le_refl _, h4⟩, row_made h2 (Nat.le_refl _) h4, h3⟩
set_option maxRecDepth 100000 in
set_option maxHeartbeats 2000000 in
theorem toTsM (v e : Int) (a : Option Addr) (c n : Nat) (l : List TarV) (w : World) (hn : l.length = n) (h : TgsAt w a l) (hb : n ≤ 1048576) :
    Calls Tryz.prog 28 #[.agg #[.int .i64 v, .int .i64 e, .slice a n c]] w fun r w' => ∃ (g : Nat), r = .returned (.agg #[.int .i64 v, .int .i64 e, .slice (some ⟨g, 0, none⟩) n n]) ∧ (w.heap.size ≤ g ∧ g < w'.heap.size) ∧ Made w w' (fun w2 => RowV w2 g (tgL l).flatten) ∧ Below w.heap.size w w' := by
  have hC1 : ∀ w0, (TgsAt w0 a l) → Calls Tryz.prog 66 #[.slice a n c] w0 fun r w' => ∃ (g : Nat), r = .returned (.slice (some ⟨g, 0, none⟩) n n) ∧ (w0.heap.size ≤ g ∧ g < w'.heap.size) ∧ Made w0 w' (fun w2 => RowV w2 g (tgL l).flatten) ∧ Below w0.heap.size w0 w' := fun w0 n0 => toTgSM a c n l w0 hn n0 hb
  have HS0 : Hid (Sta [] w [] [⟨fun k => k < w.heap.size, fun w' => TgsAt w' a l⟩] w) := Sta.arg (fun w' => TgsAt w' a l) (fun w' hb => h.below hb)
  clear hn h hb
  go_enter Tryz.func28, Tryz.ntmps28
  go_wp2_with (first
    | ((with_reducible refine wpList_boxV (w := w) (by with_unfolding_all rfl) 29 (.tmp 0) (by with_unfolding_all rfl) [.int .i64 v, .int .i64 e, .slice a n c] (by with_unfolding_all rfl) ?_); intro w1 hA1 hB1 hS1; clear hS1; have HS1 := Sta.new HS0 hA1 hB1 (by simp); clear hA1 hB1)
    | ((with_reducible refine wpList_allocV (w := w1) (by with_unfolding_all rfl) 44 (by with_unfolding_all rfl) [.int .i64 0, .int .i64 0, .slice none 0 0] Tryz.zT_implTargets ?_); intro w2 hA2 hB2 hS2; clear hS2; have HS2 := Sta.new HS1 hA2 hB2 (by simp); clear hA2 hB2)
    | ((with_reducible refine wpList_allocV (w := w2) (by with_unfolding_all rfl) 44 (by with_unfolding_all rfl) [.int .i64 0, .int .i64 0, .slice none 0 0] Tryz.zT_implTargets ?_); intro w3 hA3 hB3 hS3; clear hS3; have HS3 := Sta.new HS2 hA3 hB3 (by simp); clear hA3 hB3; have cHS3_2_0 : w3.cell? ⟨w.heap.size, 0, none⟩ = some (.int .i64 v) := Sta.c (i := 2) HS3 rfl rfl)
    | ((with_reducible refine wpList_cellS (w := w3) (by with_unfolding_all rfl) 2 (.tmp 6) (.tmp 5) (by with_unfolding_all rfl) w2.heap.size 0 [.int .i64 0, .int .i64 0, .slice none 0 0] [.int .i64 v, .int .i64 0, .slice none 0 0] (.int .i64 v) (by with_unfolding_all rfl) (by with_unfolding_all rfl) (by with_unfolding_all rfl) Tryz.s1_int64 (Sta.r (i := 0) HS3 (by with_unfolding_all rfl)) (by simp) (by with_unfolding_all rfl) ?_); intro w4 hA4 hO4; have HS4 := Sta.put 0 HS3 rfl hA4 (by simp) hO4; clear hA4 hO4; clear cHS3_2_0; have cHS4_2_1 : w4.cell? ⟨w.heap.size, 1, none⟩ = some (.int .i64 e) := Sta.c (i := 2) HS4 rfl rfl)
    | ((with_reducible refine wpList_cellS (w := w4) (by with_unfolding_all rfl) 2 (.tmp 9) (.tmp 8) (by with_unfolding_all rfl) w2.heap.size 1 [.int .i64 v, .int .i64 0, .slice none 0 0] [.int .i64 v, .int .i64 e, .slice none 0 0] (.int .i64 e) (by with_unfolding_all rfl) (by with_unfolding_all rfl) (by with_unfolding_all rfl) Tryz.s1_int64 (Sta.r (i := 0) HS4 (by with_unfolding_all rfl)) (by simp) (by with_unfolding_all rfl) ?_); intro w5 hA5 hO5; have HS5 := Sta.put 0 HS4 rfl hA5 (by simp) hO5; clear hA5 hO5; clear cHS4_2_1; have cHS5_2_2 : w5.cell? ⟨w.heap.size, 2, none⟩ = some (.slice a n c) := Sta.c (i := 2) HS5 rfl rfl)
    | (go_at_call 66; have n6_0 : TgsAt w5 a l := (Sta.t (i := 0) HS5 rfl :); (with_reducible refine (hC1 w5 n6_0).mono ?_); rintro r w6 ⟨g, rfl, hq, hP6, hB6⟩; have Hhq := hidP hq; clear hq; have HS6 := Sta.made HS5 hB6 hP6; clear hB6 hP6; clear cHS5_2_2)
    | ((with_reducible refine wpList_cellS (w := w6) (by with_unfolding_all rfl) 42 (.tmp 13) (.tmp 12) (by with_unfolding_all rfl) w2.heap.size 2 [.int .i64 v, .int .i64 e, .slice none 0 0] [.int .i64 v, .int .i64 e, .slice (some ⟨g, 0, none⟩) n n] (.slice (some ⟨g, 0, none⟩) n n) (by with_unfolding_all rfl) (by with_unfolding_all rfl) (by with_unfolding_all rfl) Tryz.s1_slimplTarget (Sta.r (i := 0) HS6 (by with_unfolding_all rfl)) (by simp) (by with_unfolding_all rfl) ?_); intro w7 hA7 hO7; have HS7 := Sta.put 0 HS6 rfl hA7 (by simp) hO7; clear hA7 hO7)
    | ((with_reducible refine wpList_loadV (w := w7) (by with_unfolding_all rfl) 44 (.tmp 3) (by with_unfolding_all rfl) w2.heap.size [.int .i64 v, .int .i64 e, .slice (some ⟨g, 0, none⟩) n n] (by with_unfolding_all rfl) (Sta.r (i := 0) HS7 (by with_unfolding_all rfl)) Tryz.uT_implTargets 3 Tryz.sT_implTargets (by with_unfolding_all rfl) ?_))
    | ((with_reducible refine wpList_storeS (w := w7) (by with_unfolding_all rfl) 44 (.tmp 2) (.tmp 14) (by with_unfolding_all rfl) w1.heap.size [.int .i64 0, .int .i64 0, .slice none 0 0] [.int .i64 v, .int .i64 e, .slice (some ⟨g, 0, none⟩) n n] (by with_unfolding_all rfl) (by with_unfolding_all rfl) (Sta.r (i := 1) HS7 (by with_unfolding_all rfl)) 3 Tryz.sT_implTargets (by with_unfolding_all rfl) (by with_unfolding_all rfl) (by with_unfolding_all rfl) ?_); intro w8 hA8 hO8; have HS8 := Sta.put 1 HS7 rfl hA8 (by simp) hO8; clear hA8 hO8))
  exact bodyPost_ret (results_V (t := 44) rfl _ w1.heap.size [.int .i64 v, .int .i64 e, .slice (some ⟨g, 0, none⟩) n n] rfl (Sta.r (i := 1) HS8 (by with_unfolding_all rfl)) Tryz.uT_implTargets 3 Tryz.sT_implTargets rfl) rfl ⟨g, rfl, ⟨Nat.le_trans (Sta.size HS5) Hhq.out.1, Sta.lt (i := 0) HS8 rfl g Hhq.out⟩, Sta.made_of (i := 0) HS8 rfl (fun k hk => Nat.le_trans (Sta.size HS5) hk.1), Sta.fin HS8⟩
end Go.Proofs.YtdfglpbappeoaaaGreatDoor
