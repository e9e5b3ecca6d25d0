/- Marks of roles that own their rows: what markRoleS, heldRoleS, markRoot, heldRoot do of them. -/
import Derived.Test.YtdfglpbappeoaaaRlM
namespace Go.Proofs.Ytdfglpbappeoaaa
open Go.RowKit
set_option linter.unusedVariables false

theorem flR_len (l : List RoleV) : (rlL l).flatten.length = l.length * 2 := by
  induction l with
  | nil => rfl
  | cons x xs ih =>
    show (rlv x.need x.ka x.ks.length x.kc ++ (rlL xs).flatten).length = _
    rw [List.length_append, ih, List.length_cons]
    show 2 + _ = _
    omega
theorem flR_get : ∀ (l : List RoleV) (i : Nat) (h : i < l.length), (rlL l).flatten[i * 2]? = some (.int .i64 l[i].need) ∧ (rlL l).flatten[i * 2 + 1]? = some (.slice l[i].ka l[i].ks.length l[i].kc)
  | x :: xs, 0, _ => ⟨rfl, rfl⟩
  | x :: xs, i + 1, h => by
    have := flR_get xs i (by simpa using h)
    rw [show (i + 1) * 2 = i * 2 + 1 + 1 by omega]
    exact this
theorem flR_set : ∀ (l : List RoleV) (i : Nat) (h : i < l.length) (x : RoleV), x.ka = l[i].ka → x.kc = l[i].kc → x.ks.length = l[i].ks.length → (rlL (l.set i x)).flatten = (rlL l).flatten.set (i * 2) (.int .i64 x.need)
  | y :: ys, 0, _, x, h1, h2, h3 => by
    have h1' : x.ka = y.ka := h1
    have h2' : x.kc = y.kc := h2
    have h3' : x.ks.length = y.ks.length := h3
    show rlv x.need x.ka x.ks.length x.kc ++ (rlL ys).flatten = (rlv y.need y.ka y.ks.length y.kc ++ (rlL ys).flatten).set 0 _
    rw [h1', h2', h3']
    rfl
  | y :: ys, i + 1, h, x, h1, h2, h3 => by
    have := flR_set ys i (by simpa using h) x h1 h2 h3
    rw [show (i + 1) * 2 = i * 2 + 1 + 1 by omega]
    show rlv y.need y.ka y.ks.length y.kc ++ (rlL (ys.set i x)).flatten = (rlv y.need y.ka y.ks.length y.kc ++ (rlL ys).flatten).set (i * 2 + 1 + 1) _
    rw [this]
    rfl
/- What marking makes of roles. -/
def mrk (k : Int) (r : RoleV) : RoleV := ⟨k, r.ka, r.kc, cnt (k + 1) r.ks.length⟩
def tot : List RoleV → Nat
  | [] => 0
  | r :: rs => 1 + r.ks.length + tot rs
def mrks : Int → List RoleV → List RoleV
  | _, [] => []
  | k, r :: rs => mrk k r :: mrks (k + ((1 + r.ks.length : Nat) : Int)) rs
theorem mrks_len : ∀ (k : Int) (l : List RoleV), (mrks k l).length = l.length
  | _, [] => rfl
  | k, r :: rs => by show (mrks _ rs).length + 1 = rs.length + 1; rw [mrks_len]
theorem tot_app (a b : List RoleV) : tot (a ++ b) = tot a + tot b := by
  induction a with
  | nil => simp [tot]
  | cons x xs ih => show 1 + x.ks.length + tot (xs ++ b) = 1 + x.ks.length + tot xs + tot b; rw [ih]; omega
theorem mrks_app : ∀ (k : Int) (a b : List RoleV), mrks k (a ++ b) = mrks k a ++ mrks (k + (tot a : Int)) b
  | k, [], b => by simp [mrks, tot]
  | k, x :: xs, b => by
    show mrk k x :: mrks _ (xs ++ b) = mrk k x :: (mrks _ xs ++ mrks _ b)
    rw [mrks_app]
    have : k + ((1 + x.ks.length : Nat) : Int) + (tot xs : Int) = k + (tot (x :: xs) : Int) := by
      show _ = k + ((1 + x.ks.length + tot xs : Nat) : Int)
      omega
    rw [this]
theorem tot_take_le (l : List RoleV) (i : Nat) : tot (l.take i) ≤ tot l := by
  have := tot_app (l.take i) (l.drop i)
  rw [List.take_append_drop] at this
  omega
theorem tot_mem : ∀ {l : List RoleV} {r : RoleV}, r ∈ l → r.ks.length < tot l
  | x :: xs, r, h => by
    rcases List.mem_cons.1 h with rfl | h
    · show _ < 1 + _ + _
      omega
    · have := tot_mem h
      show _ < 1 + _ + tot xs
      omega
theorem tot_len : ∀ (l : List RoleV), l.length ≤ tot l
  | [] => Nat.le_refl _
  | x :: xs => by
    have := tot_len xs
    show xs.length + 1 ≤ 1 + x.ks.length + tot xs
    omega
def mid (k : Int) (l : List RoleV) (i : Nat) : List RoleV := mrks k (l.take i) ++ l.drop i
theorem mid_len (k : Int) (l : List RoleV) (i : Nat) (h : i ≤ l.length) : (mid k l i).length = l.length := by
  unfold mid
  rw [List.length_append, mrks_len, List.length_take, List.length_drop]
  omega
theorem mid_zero (k : Int) (l : List RoleV) : mid k l 0 = l := by simp [mid, mrks]
theorem mid_all (k : Int) (l : List RoleV) : mid k l l.length = mrks k l := by simp [mid]
theorem tot_succ (l : List RoleV) {i : Nat} (h : i < l.length) : tot (l.take (i + 1)) = tot (l.take i) + (1 + l[i].ks.length) := by
  rw [List.take_succ_eq_append_getElem h, tot_app]
  show _ + (1 + l[i].ks.length + 0) = _
  omega
theorem mid_get (k : Int) (l : List RoleV) {i : Nat} (h : i < l.length) (h2 : i < (mid k l i).length) : (mid k l i)[i] = l[i] := by
  unfold mid at h2 ⊢
  have e : (mrks k (l.take i)).length = i := by rw [mrks_len, List.length_take]; omega
  rw [List.getElem_append_right (by omega)]
  simp only [e, Nat.sub_self, List.getElem_drop, Nat.add_zero]
theorem mid_set (k : Int) (l : List RoleV) {i : Nat} (h : i < l.length) : (mid k l i).set i (mrk (k + (tot (l.take i) : Int)) l[i]) = mid k l (i + 1) := by
  unfold mid
  have e : (mrks k (l.take i)).length = i := by rw [mrks_len, List.length_take]; omega
  rw [List.set_append_right _ _ (by omega), e, Nat.sub_self, List.drop_eq_getElem_cons h, List.set_cons_zero, List.take_succ_eq_append_getElem h, mrks_app, List.append_assoc]
  rfl
/- Roles whose row and keys lie each in a block of their own, and may be written. -/
structure RlsO (w : World) (g : Nat) (l : List RoleV) : Prop where
  row : RowV w g (rlL l).flatten
  ks : ∀ i (h : i < l.length), IAt w l[i].ka l[i].ks
  off : ∀ i (h : i < l.length) b, l[i].ks ≠ [] → l[i].ka = some b → b.block ≠ g
  dis : ∀ i j (hi : i < l.length) (hj : j < l.length) b c, i ≠ j → l[i].ks ≠ [] → l[j].ks ≠ [] → l[i].ka = some b → l[j].ka = some c → b.block ≠ c.block
theorem RlsO.below {w w' : World} {g : Nat} {l : List RoleV} (h : RlsO w g l) (hl : l ≠ []) (hb : Below w.heap.size w w') : RlsO w' g l :=
  ⟨h.row.below hb (h.row.lt (by intro e; have := congrArg List.length e; rw [flR_len] at this; cases l with | nil => exact hl rfl | cons x xs => simp at this)), fun i hi => (h.ks i hi).below hb, h.off, h.dis⟩
/- All but the row and the keys is as it was. -/
structure MrkO (g : Nat) (l : List RoleV) (w w' : World) : Prop where
  far : ∀ x : Addr, x.block ≠ g → (∀ i (h : i < l.length) b, l[i].ks ≠ [] → l[i].ka = some b → x.block ≠ b.block) → w'.cell? x = w.cell? x ∧ w'.frozen? x = w.frozen? x
  below : ∀ B, B ≤ w.heap.size → B ≤ g → (∀ i (h : i < l.length) b, l[i].ks ≠ [] → l[i].ka = some b → B ≤ b.block) → Below B w w'
  size : w'.heap.size = w.heap.size
theorem MrkO.refl (g : Nat) (l : List RoleV) (w : World) : MrkO g l w w := ⟨fun _ _ _ => ⟨rfl, rfl⟩, fun _ _ _ _ => Below.refl _ _, rfl⟩
theorem IAt.far {w w' : World} {a : Option Addr} {l : List Int} (h : IAt w a l) (hF : ∀ x : Addr, (∀ b, a = some b → x.block = b.block) → w'.cell? x = w.cell? x ∧ w'.frozen? x = w.frozen? x) : IAt w' a l := fun hl => by
  obtain ⟨g, ha, hc⟩ := h hl
  refine ⟨g, ha, fun k hk => ?_⟩
  have hx := hF ⟨g, k, none⟩ (fun b hb => by rw [ha] at hb; injection hb with hb; subst hb; rfl)
  exact ⟨hx.1.trans (hc k hk).1, hx.2.trans (hc k hk).2⟩
theorem RlsO.step {w w1 w2 : World} {g i : Nat} {l : List RoleV} {k : Int} (h : RlsO w g l) (hi : i < l.length) (hr : RowV w1 g ((rlL l).flatten.set (i * 2) (.int .i64 k))) (hF1 : ∀ x : Addr, x.block ≠ g → w1.cell? x = w.cell? x ∧ w1.frozen? x = w.frozen? x)
    (hI : IAt w2 l[i].ka (cnt (k + 1) l[i].ks.length)) (hW : l[i].ks ≠ [] → Wrote l[i].ka w1 w2) (hE : l[i].ks = [] → w2 = w1) : RlsO w2 g (l.set i (mrk k l[i])) := by
  have hset : ∀ j (hj : j < (l.set i (mrk k l[i])).length), j ≠ i → (l.set i (mrk k l[i]))[j] = l[j]'(by rw [List.length_set] at hj; exact hj) := fun j hj hne => by
    rw [List.getElem_set, if_neg (fun e => hne e.symm)]
  have hseti : ∀ (hj : i < (l.set i (mrk k l[i])).length), (l.set i (mrk k l[i]))[i] = mrk k l[i] := fun hj => by rw [List.getElem_set, if_pos rfl]
  have hne : (mrk k l[i]).ks ≠ [] → l[i].ks ≠ [] := fun h e => h (by
    show cnt (k + 1) l[i].ks.length = []
    rw [e]
    rfl)
  have hka : (mrk k l[i]).ka = l[i].ka := rfl
  have hoff : ∀ b, l[i].ks ≠ [] → l[i].ka = some b → b.block ≠ g := fun b => h.off i hi b
  refine ⟨?_, fun j hj => ?_, fun j hj b h1 h2 => ?_, fun j1 j2 hj1 hj2 b c h0 h1 h2 h3 h4 => ?_⟩
  · rw [flR_set l i hi (mrk k l[i]) rfl rfl (cnt_length _ _)]
    by_cases he : l[i].ks = []
    · rw [hE he]; exact hr
    · refine hr.same fun q => ?_
      refine (hW he).far ⟨g, q, none⟩ fun ad had e => hoff ad he had e.symm
  · by_cases hji : j = i
    · subst hji
      rw [hseti hj]
      exact hI
    · rw [hset j hj hji]
      have hj' : j < l.length := by rw [List.length_set] at hj; exact hj
      intro hne2
      have hk0 := h.ks j hj'
      obtain ⟨gj, hgj, _⟩ := hk0 hne2
      have a1 : IAt w1 l[j].ka l[j].ks := hk0.far fun x hx => hF1 x (by rw [hx _ hgj]; exact h.off j hj' _ hne2 hgj)
      by_cases he : l[i].ks = []
      · rw [hE he]; exact a1 hne2
      · refine (a1.far fun x hx => (hW he).far x fun ad had => ?_) hne2
        rw [hx _ hgj]
        exact h.dis j i hj' hi _ _ hji hne2 he hgj had
  · by_cases hji : j = i
    · subst hji
      rw [hseti hj] at h1 h2
      exact hoff b (hne h1) h2
    · rw [hset j hj hji] at h1 h2
      exact h.off j _ b h1 h2
  · by_cases e1 : j1 = i
    · subst e1
      rw [hseti hj1] at h1 h3
      rw [hset j2 hj2 (fun e => h0 e.symm)] at h2 h4
      exact h.dis j1 j2 hi _ b c h0 (hne h1) h2 h3 h4
    · rw [hset j1 hj1 e1] at h1 h3
      by_cases e2 : j2 = i
      · subst e2
        rw [hseti hj2] at h2 h4
        exact h.dis j1 j2 _ hi b c h0 h1 (hne h2) h3 h4
      · rw [hset j2 hj2 e2] at h2 h4
        exact h.dis j1 j2 _ _ b c h0 h1 h2 h3 h4
theorem MrkO.step {w0 w w1 w2 : World} {g i : Nat} {l : List RoleV} (h : MrkO g l w0 w) (hi : i < l.length) (hF1 : ∀ x : Addr, x.block ≠ g → w1.cell? x = w.cell? x ∧ w1.frozen? x = w.frozen? x) (hB1 : ∀ B, B ≤ g → Below B w w1) (hS1 : w1.heap.size = w.heap.size)
    (hW : l[i].ks ≠ [] → Wrote l[i].ka w1 w2) (hE : l[i].ks = [] → w2 = w1) : MrkO g l w0 w2 := by
  refine ⟨fun x hx hk => ?_, fun B hB hg hk => ?_, ?_⟩
  · have a := h.far x hx hk
    have b := hF1 x hx
    by_cases he : l[i].ks = []
    · rw [hE he]; exact ⟨b.1.trans a.1, b.2.trans a.2⟩
    · have c := (hW he).far x (fun ad had => hk i hi ad he had)
      exact ⟨c.1.trans (b.1.trans a.1), c.2.trans (b.2.trans a.2)⟩
  · have a := (h.below B hB hg hk).trans (hB1 B hg)
    by_cases he : l[i].ks = []
    · rw [hE he]; exact a
    · exact a.trans ((hW he).below B (by rw [hS1, h.size]; exact hB) (fun ad had => hk i hi ad he had))
  · by_cases he : l[i].ks = []
    · rw [hE he, hS1]; exact h.size
    · rw [(hW he).size, hS1]; exact h.size
set_option maxRecDepth 100000 in
theorem markI_nil (a : Option Addr) (c : Nat) (k0 : Int) (w : World) (h0 : 0 ≤ k0) (h1 : k0 ≤ 1000000000) :
    Calls Try.prog 101 #[.slice a ([] : List Int).length c, .int .i64 k0] w fun e w' => e = .returned (.int .i64 k0) ∧ w' = w := by
  show Calls Try.prog 101 #[.slice a 0 c, .int .i64 k0] w _
  go_enter Try.func101, Try.ntmps101
  go_wp2_with fail
  go_loopw [1, 5] (fun q i wr => q = .int .i64 k0 ∧ i = .int .i64 0 ∧ wr = w) (fun _ _ _ => 0)
  case atStart => exact ⟨rfl, rfl, rfl⟩
  case round =>
    obtain ⟨rfl, rfl, rfl⟩ := hrel
    go_wp2
    go_ret
    exact ⟨rfl, rfl⟩
structure KpMk (g : Nat) (rs : List RoleV) (k0 : Int) (i : Nat) (w0 w : World) : Prop where
  ro : RlsO w g (mid k0 rs i)
  mo : MrkO g rs w0 w
theorem KpMk.cells {g i n : Nat} {rs : List RoleV} {k0 : Int} {w0 w : World} (h : Hid (KpMk g rs k0 i w0 w)) (hi : i < rs.length) : w.cell? ⟨g, i * 2, none⟩ = some (.int .i64 rs[i].need) ∧ w.cell? ⟨g, i * 2 + 1, none⟩ = some (.slice rs[i].ka rs[i].ks.length rs[i].kc) := by
  have hl : i < (mid k0 rs i).length := by rw [mid_len _ _ _ (by omega)]; exact hi
  have := flR_get (mid k0 rs i) i hl
  rw [mid_get k0 rs hi hl] at this
  exact ⟨h.out.ro.row.cell this.1, h.out.ro.row.cell this.2⟩
theorem KpMk.next {g i : Nat} {rs : List RoleV} {k0 k : Int} {w0 w w1 w2 : World} (h : Hid (KpMk g rs k0 i w0 w)) (hi : i < rs.length) (hk : k = k0 + (tot (rs.take i) : Int)) (hr : RowV w1 g ((rlL (mid k0 rs i)).flatten.set (i * 2) (.int .i64 k))) (hF1 : ∀ x : Addr, x.block ≠ g → w1.cell? x = w.cell? x ∧ w1.frozen? x = w.frozen? x) (hB1 : ∀ B, B ≤ g → Below B w w1) (hS1 : w1.heap.size = w.heap.size)
    (hI : IAt w2 rs[i].ka (cnt (k + 1) rs[i].ks.length)) (hW : rs[i].ks ≠ [] → Wrote rs[i].ka w1 w2) (hE : rs[i].ks = [] → w2 = w1) : Hid (KpMk g rs k0 (i + 1) w0 w2) := by
  have hl : i < (mid k0 rs i).length := by rw [mid_len _ _ _ (by omega)]; exact hi
  have e := mid_get k0 rs hi hl
  refine ⟨?_, h.out.mo.step hi hF1 hB1 hS1 hW hE⟩
  have := h.out.ro.step hl hr hF1 (by rw [e]; exact hI) (by rw [e]; exact hW) (by rw [e]; exact hE)
  rw [e, hk, mid_set k0 rs hi] at this
  exact this
set_option maxRecDepth 100000 in
set_option maxHeartbeats 4000000 in
theorem markRls_some (g c n : Nat) (rs : List RoleV) (k0 : Int) (w : World) (hn : rs.length = n) (h : RlsO w g rs) (h0 : 0 ≤ k0) (hT : k0 + (tot rs : Int) ≤ 900000000) :
    Calls Try.prog 52 #[.slice (some ⟨g, 0, none⟩) n c, .int .i64 k0] w fun e w' => e = .returned (.int .i64 (k0 + (tot rs : Int))) ∧ RlsO w' g (mrks k0 rs) ∧ MrkO g rs w w' := by
  have HN : Hid (rs.length = n) := hn
  have HK : Hid (∀ r ∈ rs, r.ks.length ≤ 900000000) := fun r hr => by have := tot_mem hr; omega
  have hm : n ≤ 900000000 := by have := tot_len rs; omega
  have HTT : Hid (k0 + (tot rs : Int) ≤ 900000000) := hT
  have HS0 : Hid (KpMk g rs k0 0 w w) := ⟨by rw [mid_zero]; exact h, MrkO.refl _ _ _⟩
  have h1 : k0 ≤ 900000000 := by omega
  clear h hn hT
  go_enter Try.func52, Try.ntmps52
  go_wp2_with fail
  go_loopw [1, 5] (fun vk vi wr => ∃ (i : Nat) (k : Int), vi = .int .i64 (i : Int) ∧ vk = .int .i64 k ∧ i ≤ n ∧ 0 ≤ k ∧ k ≤ 900000000 ∧ Hid (k = k0 + (tot (rs.take i) : Int)) ∧ Hid (KpMk g rs k0 i w wr)) (fun _ vi _ => n - (intOf vi).toNat)
  case atStart => exact ⟨0, k0, rfl, rfl, Nat.zero_le _, h0, by omega, by show k0 = k0 + ((tot [] : Nat) : Int); simp [tot], HS0⟩
  case round =>
    clear HS0
    obtain ⟨i, k, rfl, rfl, hi, hk0, hk1, HT, HS⟩ := hrel
    by_cases hlt : i < n
    case neg =>
      obtain rfl : i = n := by omega
      have HF : Hid (k = k0 + (tot rs : Int)) := by show _ = _; rw [HT.out, List.take_of_length_le (by have := HN.out; omega)]
      have HR : Hid (RlsO wr g (mrks k0 rs)) := by
        have := HS.out.ro
        rw [← HN.out, mid_all] at this
        exact this
      go_wp2
      go_ret
      exact ⟨congrArg (fun z => Ending.returned (Value.int IntKind.i64 z)) HF.out, HR.out, HS.out.mo⟩
    have hil : i < rs.length := by have := HN.out; omega
    obtain ⟨p0, p1⟩ := KpMk.cells (n := 0) HS hil
    have HLn : Hid (((rlL (mid k0 rs i)).flatten).length = rs.length * 2) := by show _ = _; rw [flR_len, mid_len _ _ _ (by omega)]
    have hks := HK.out rs[i] (List.getElem_mem hil)
    have HT2 : Hid (k + 1 + (rs[i].ks.length : Int) = k0 + (tot (rs.take (i + 1)) : Int)) := by
      show _ = _
      rw [tot_succ rs hil, HT.out]
      omega
    have HQ : Hid (∀ w1 w2, RowV w1 g ((rlL (mid k0 rs i)).flatten.set (i * 2) (.int .i64 k)) → (∀ x : Addr, x.block ≠ g → w1.cell? x = wr.cell? x ∧ w1.frozen? x = wr.frozen? x) → (∀ B, B ≤ g → Below B wr w1) → w1.heap.size = wr.heap.size → IAt w2 rs[i].ka (cnt (k + 1) rs[i].ks.length) → Wrote rs[i].ka w1 w2 → (rs[i].ks = [] → w2 = w1) → Hid (KpMk g rs k0 (i + 1) w w2)) := fun w1 w2 a b c d e f g' => KpMk.next HS hil HT.out a b c d e (fun _ => f) g'
    have HRow : Hid (RowV wr g (rlL (mid k0 rs i)).flatten) := HS.out.ro.row
    have HCell : Hid (∀ w1, RowV w1 g ((rlL (mid k0 rs i)).flatten.set (i * 2) (.int .i64 k)) → w1.cell? ⟨g, i * 2 + 1, none⟩ = some (.slice rs[i].ka rs[i].ks.length rs[i].kc)) := fun w1 hr => by
      have hl : i < (mid k0 rs i).length := by rw [mid_len _ _ _ (by omega)]; exact hil
      have := (flR_get (mid k0 rs i) i hl).2
      rw [mid_get k0 rs hil hl] at this
      refine hr.cell ?_
      rw [List.getElem?_set_ne (by omega)]
      exact this
    have HMk : Hid (∀ w1, (∀ x : Addr, x.block ≠ g → w1.cell? x = wr.cell? x ∧ w1.frozen? x = wr.frozen? x) → Calls Try.prog 101 #[.slice rs[i].ka rs[i].ks.length rs[i].kc, .int .i64 (k + 1)] w1 fun e w' => e = .returned (.int .i64 (k + 1 + (rs[i].ks.length : Int))) ∧ IAt w' rs[i].ka (cnt (k + 1) rs[i].ks.length) ∧ Wrote rs[i].ka w1 w' ∧ (rs[i].ks = [] → w' = w1)) := fun w1 hF => by
      have hl : i < (mid k0 rs i).length := by rw [mid_len _ _ _ (by omega)]; exact hil
      have a0 := HS.out.ro.ks i hl
      rw [mid_get k0 rs hil hl] at a0
      have a1 : IAt w1 rs[i].ka rs[i].ks := fun hne => by
        obtain ⟨b, hb, _⟩ := a0 hne
        refine a0.far (fun x hx => hF x ?_) hne
        rw [hx _ hb]
        have := HS.out.ro.off i hl ⟨b, 0, none⟩
        rw [mid_get k0 rs hil hl] at this
        exact this hne hb
      by_cases he : rs[i].ks = []
      · rw [he]
        refine (markI_nil rs[i].ka rs[i].kc (k + 1) w1 (by omega) (by omega)).mono fun e w' ⟨h1, h2⟩ => ?_
        subst h2
        refine ⟨by rw [h1]; simp, fun hne => absurd rfl hne, ⟨fun _ _ => ⟨rfl, rfl⟩, fun _ _ _ => Below.refl _ _, rfl⟩, fun _ => rfl⟩
      · exact (markI_any rs[i].ka rs[i].kc rs[i].ks (k + 1) w1 a1 (by omega) (by omega) (by omega)).mono fun e w' ⟨h1, h2, h3⟩ => ⟨h1, h2, h3, fun h => absurd h he⟩
    generalize (rlL (mid k0 rs i)).flatten = L at *
    generalize rs[i].need = nd at *
    generalize rs[i].ka = ka at *
    generalize rs[i].kc = kc at *
    generalize rs[i].ks = ks at *
    obtain ⟨m, hm⟩ : ∃ m, ks.length = m := ⟨_, rfl⟩
    rw [hm] at p1 hks HT2 HQ HCell HMk
    obtain ⟨k2, hk2⟩ : ∃ k2, k + 1 + (m : Int) = k2 := ⟨_, rfl⟩
    obtain ⟨k1, hk1'⟩ : ∃ k1, k + 1 = k1 := ⟨_, rfl⟩
    rw [hk2] at HT2 HMk
    rw [hk1'] at HMk HQ
    have b1 : k1 ≤ 1000000000 := by omega
    have b2 : 0 ≤ k2 := by omega
    have b3 : k2 ≤ 900000000 := by have := HT2.out; have := tot_take_le rs (i + 1); have := HTT.out; omega
    have HLi : Hid (i * 2 < L.length) := by have := HLn.out; show _ < _; omega
    have lk : (i : Int) < n := by omega
    have l0 : (0 : Int) ≤ i := by omega
    clear hil HT hm hk2 HLn
    go_wp2_with (first
      | (with_reducible refine wpList_cellV (w := wr) (by with_unfolding_all rfl) 2 (.tmp 16) (.tmp 14) (by with_unfolding_all rfl) g (i * 2) L (L.set (i * 2) (.int .i64 k)) (.int .i64 k) (by with_unfolding_all rfl) (by with_unfolding_all rfl) rfl Try.siz1I HRow.out HLi.out rfl ?_; intro w1 hA1 hB1 hF1 hS1; have c1 := HCell.out w1 hA1; clear p0 p1)
      | (go_at_call 101; with_reducible refine (HMk.out w1 hF1).mono ?_; rintro e w2 ⟨rfl, hI2, hW2, hE2⟩; have HS2 := HQ.out w1 w2 hA1 hF1 hB1 hS1 hI2 hW2 hE2))
    go_roundw
    case rel => exact ⟨i + 1, k2, by go_num, rfl, by omega, b2, b3, HT2, HS2⟩
    case measure => simp [intOf]; omega
end Go.Proofs.Ytdfglpbappeoaaa
