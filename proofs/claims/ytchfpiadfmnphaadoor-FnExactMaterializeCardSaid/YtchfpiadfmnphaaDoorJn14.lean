/- What stands: things told anew, rows and things let go; rows of structs that lie flat. A digest as a key of a map: its bytes laid into an array; a map of the call's own that is keyed so. Rows of texts that a call owns, and appends to. -/
import Derived.Test.YtchfpiadfmnphaaDoorJn11
import Derived.Test.YtchfpiadfmnphaaDoorJn13
import Derived.Test.YtchfpiadfmnphaaDoorJn4
import Derived.Laws.IdiomCopy
import Derived.Maps.Own
import Derived.Maps.Views
import Derived.DeepKeys4
import Derived.Test.YtchfpiadfmnphaaDoorJn10
import Derived.Maps.AppendAt
import Derived.Great.BuildSlice
import Derived.Great.FillDense
namespace Go.Proofs.YtchfpiadfmnphaaDoor
open Go.RowKit
set_option linter.unusedVariables false

section
variable {G : List Nat} {w0 w w2 : World} {R R' : List (Nat × List Value)} {T T' : List Thing}
theorem Sta.sub (h : Hid (Sta G w0 R T w)) (hR : R'.Sublist R) (hT : T'.Sublist T) : Hid (Sta G w0 R' T' w) :=
  ⟨h.out.bel, fun x hx => h.out.row x (hR.subset hx), fun t ht => h.out.thg t (hT.subset ht), h.out.dif.sublist hR, h.out.dis.sublist hT, fun x hx t ht => h.out.off x (hR.subset hx) t (hT.subset ht)⟩
theorem Sta.drop (a b : Nat) (h : Hid (Sta G w0 R T w)) : Hid (Sta G w0 (R.drop a) (T.drop b) w) := Sta.sub h (List.drop_sublist _ _) (List.drop_sublist _ _)
theorem Sta.imp {t : Thing} (i : Nat) (P' : World → Prop) (h : Hid (Sta G w0 R T w)) (hi : T[i]? = some t) (hp : ∀ w, t.P w → P' w) : Hid (Sta G w0 R (T.set i ⟨t.dom, P'⟩) w) := by
  obtain ⟨hlt, he⟩ := List.getElem?_eq_some_iff.1 hi
  have hmem : t ∈ T := he ▸ List.getElem_mem hlt
  have hset : ∀ s ∈ T.set i ⟨t.dom, P'⟩, s = ⟨t.dom, P'⟩ ∨ s ∈ T := fun s hs => by
    obtain ⟨j, hj, rfl⟩ := List.mem_iff_getElem.1 hs
    rw [List.getElem_set]
    rw [List.length_set] at hj
    by_cases e : i = j
    · rw [if_pos e]; exact Or.inl rfl
    · rw [if_neg e]; exact Or.inr (List.getElem_mem hj)
  refine ⟨h.out.bel, h.out.row, fun s hs => ?_, h.out.dif, ?_, fun x hx s hs => ?_⟩
  · rcases hset s hs with rfl | hs
    · exact ⟨(h.out.thg t hmem).lt, fun w' hw => hp _ ((h.out.thg t hmem).st w' hw)⟩
    · exact h.out.thg s hs
  · rw [List.pairwise_iff_getElem]
    intro a b ha hb hab
    rw [List.length_set] at ha hb
    have h1 := List.pairwise_iff_getElem.1 h.out.dis a b ha hb hab
    rw [List.getElem_set, List.getElem_set]
    by_cases e1 : i = a
    · subst e1
      rw [if_pos rfl, if_neg (by omega)]
      rw [he] at h1
      exact h1
    · rw [if_neg e1]
      by_cases e2 : i = b
      · subst e2
        rw [if_pos rfl]
        rw [he] at h1
        exact h1
      · rw [if_neg e2]
        exact h1
  · rcases hset s hs with rfl | hs
    · exact h.out.off x hx t hmem
    · exact h.out.off x hx s hs
/- A row of the call's own, that grows: none so far; an append. -/
theorem Sta.own0 (base e s : Nat) (h : Hid (Sta G w0 R T w)) : Hid (Sta G w0 R (⟨fun k => (Value.slice none 0 0).ownBlock = some k, fun w' => w'.ownsRow base e s (.slice none 0 0) 0 []⟩ :: T) w) := by
  refine ⟨h.out.bel, h.out.row, fun t ht => ?_, h.out.dif, List.pairwise_cons.2 ⟨fun t _ k hk => (by cases hk), h.out.dis⟩, fun x hx t ht => ?_⟩
  · rcases List.mem_cons.1 ht with rfl | ht
    · exact ⟨fun k hk => (by cases hk), fun w' _ => World.ownsRow_nil w' base e s⟩
    · exact h.out.thg t ht
  · rcases List.mem_cons.1 ht with rfl | ht
    · exact fun hk => by cases hk
    · exact h.out.off x hx t ht
theorem grown_mrk {v : Value} (hg : w.grownBy w2 v.ownBlock) : Mrk (fun k => v.ownBlock = some k) w w2 :=
  ⟨fun k hk hn => hg.block k hk (fun e => hn e.symm), fun B hB hb => ⟨hg.os, hg.tape, hg.output, hg.size, fun k hk => hg.block k (Nat.lt_of_lt_of_le hk hB) (fun e => by have := hb k e.symm; omega)⟩, hg.size⟩
theorem Sta.app {base e s n n' : Nat} {v v' : Value} {xs xs' : List Value} (i : Nat) (h : Hid (Sta G w0 R T w)) (hi : T[i]? = some ⟨fun k => v.ownBlock = some k, fun w' => w'.ownsRow base e s v n xs⟩) (hb0 : w0.heap.size ≤ base) (ho : w2.ownsRow base e s v' n' xs') (hg : w.grownBy w2 v.ownBlock) (hb : v'.ownBlock = v.ownBlock ∨ v'.ownBlock = some w.heap.size) : Hid (Sta G w0 R (T.set i ⟨fun k => v'.ownBlock = some k, fun w' => w'.ownsRow base e s v' n' xs'⟩) w2) := by
  obtain ⟨hlt, he⟩ := List.getElem?_eq_some_iff.1 hi
  have hmem : (⟨fun k => v.ownBlock = some k, fun w' => w'.ownsRow base e s v n xs⟩ : Thing) ∈ T := he ▸ List.getElem_mem hlt
  have hm := grown_mrk hg
  have hown : ∀ k, v.ownBlock = some k → base ≤ k ∧ k < w.heap.size := fun k hk => own_ge (h.out.thg _ hmem).now hk
  have hset : ∀ t ∈ T.set i ⟨fun k => v'.ownBlock = some k, fun w' => w'.ownsRow base e s v' n' xs'⟩, t = ⟨fun k => v'.ownBlock = some k, fun w' => w'.ownsRow base e s v' n' xs'⟩ ∨ (t ∈ T ∧ ∀ k, v.ownBlock = some k → ¬ t.dom k) := fun t ht => by
    obtain ⟨j, hj, rfl⟩ := List.mem_iff_getElem.1 ht
    rw [List.getElem_set]
    rw [List.length_set] at hj
    by_cases e : i = j
    · rw [if_pos e]; exact Or.inl rfl
    · rw [if_neg e]
      refine Or.inr ⟨List.getElem_mem hj, fun k hk hd => ?_⟩
      rcases Nat.lt_or_gt_of_ne e with h1 | h1
      · have := List.pairwise_iff_getElem.1 h.out.dis i j hlt hj h1 k
        rw [he] at this
        exact this hk hd
      · have := List.pairwise_iff_getElem.1 h.out.dis j i hj hlt h1 k hd
        rw [he] at this
        exact this hk
  have hnew : ∀ t ∈ T, (∀ k, v.ownBlock = some k → ¬ t.dom k) → ∀ k, v'.ownBlock = some k → ¬ t.dom k := fun t ht hd k hk hkd => by
    rcases hb with hb | hb
    · exact hd k (hb ▸ hk) hkd
    · rw [hb] at hk
      injection hk with hk
      have := (h.out.thg t ht).lt k hkd
      omega
  refine ⟨h.out.bel.step ⟨hg.os, hg.tape, hg.output, hg.size, fun k hk => absurd hk (Nat.not_lt_zero _)⟩ fun k hk _ => hg.block k (Nat.lt_of_lt_of_le hk h.out.bel.size) (fun e => by have := hown k e.symm; omega), fun x hx => ⟨(h.out.row x hx).1, (h.out.row x hx).2.1, hm.row (h.out.row x hx).2.2 (h.out.row x hx).2.1 (h.out.off x hx _ hmem)⟩, fun t ht => ?_, h.out.dif, ?_, fun x hx t ht => ?_⟩
  · rcases hset t ht with rfl | ⟨ht, hd⟩
    · exact ⟨fun k hk => (own_ge ho hk).2, fun w' hw => own_same ho fun k hk hl => hw.blk k hl (fun hn => hn hk)⟩
    · exact (h.out.thg t ht).chg hm fun k hk => hd k hk
  · rw [List.pairwise_iff_getElem]
    intro a b ha hb2 hab
    rw [List.length_set] at ha hb2
    have h1 := List.pairwise_iff_getElem.1 h.out.dis a b ha hb2 hab
    rw [List.getElem_set, List.getElem_set]
    by_cases e1 : i = a
    · subst e1
      rw [if_pos rfl, if_neg (by omega)]
      rw [he] at h1
      exact fun k hk => hnew _ (List.getElem_mem hb2) h1 k hk
    · rw [if_neg e1]
      by_cases e2 : i = b
      · subst e2
        rw [if_pos rfl]
        rw [he] at h1
        exact fun k hk hd => hnew _ (List.getElem_mem ha) (fun k hk hd => h1 k hd hk) k hd hk
      · rw [if_neg e2]
        exact h1
  · rcases hset t ht with rfl | ⟨ht, _⟩
    · intro hk
      have h1 := h.out.off x hx _ hmem
      rcases hb with hb | hb
      · exact h1 (hb ▸ hk)
      · have hk2 : v'.ownBlock = some x.1 := hk
        rw [hb] at hk2
        injection hk2 with hk2
        have := (h.out.row x hx).2.2.lt (h.out.row x hx).2.1
        omega
    · exact h.out.off x hx t ht
end
theorem flatS_len {s : Nat} : ∀ L : List (List Value), (∀ l ∈ L, l.length = s) → L.flatten.length = L.length * s
  | [], _ => by simp
  | x :: L, h => by
    rw [List.flatten_cons, List.length_append, flatS_len L (fun l hl => h l (List.mem_cons_of_mem _ hl)), h x (List.mem_cons_self ..), List.length_cons, Nat.add_mul, Nat.one_mul, Nat.add_comm]
theorem flatS_get {s : Nat} : ∀ (L : List (List Value)), (∀ l ∈ L, l.length = s) → ∀ (i j : Nat) (hi : i < L.length), j < s → L.flatten[i * s + j]? = L[i][j]?
  | [], _, i, j, hi, _ => absurd hi (Nat.not_lt_zero _)
  | x :: L, h, 0, j, hi, hj => by
    rw [List.flatten_cons, Nat.zero_mul, Nat.zero_add, List.getElem?_append_left (by rw [h x (List.mem_cons_self ..)]; exact hj)]
    rfl
  | x :: L, h, i + 1, j, hi, hj => by
    have hx := h x (List.mem_cons_self ..)
    rw [List.flatten_cons, List.getElem?_append_right (by rw [hx, Nat.add_mul, Nat.one_mul]; omega), hx, show (i + 1) * s + j - s = i * s + j by rw [Nat.add_mul, Nat.one_mul]; omega]
    rw [flatS_get L (fun l hl => h l (List.mem_cons_of_mem _ hl)) i j (by simpa using hi) hj]
    rfl
theorem BldV.flat {w : World} {g s n : Nat} {L : List (List Value)} (h : BldV w g s n L n) (hn : L.length = n) (hs : ∀ l ∈ L, l.length = s) (h0 : 0 < s) : RowV w g L.flatten := by
  have hl := flatS_len L hs
  refine ⟨fun j v hv => ?_, by rw [hl, hn]; exact h.ths⟩
  have hj : j < L.flatten.length := by
    rcases Nat.lt_or_ge j L.flatten.length with h1 | h1
    · exact h1
    · rw [List.getElem?_eq_none h1] at hv; cases hv
  have hi : j / s < L.length := by rw [hl] at hj; exact Nat.div_lt_of_lt_mul (by rw [Nat.mul_comm]; exact hj)
  have hm : j % s < s := Nat.mod_lt _ h0
  have e : j / s * s + j % s = j := by rw [Nat.mul_comm]; exact Nat.div_add_mod j s
  have hr := h.rng (j / s) hi (by omega) (j % s) v (by rw [← flatS_get L hs _ _ hi hm, e]; exact hv)
  rw [Nat.zero_add]
  rw [e] at hr
  exact hr
/- What holds while nothing is written between b and n. -/
def Kee (b n : Nat) (w : World) (P : World → Prop) : Prop := ∀ w2, Mrk (fun k => ¬ (b ≤ k ∧ k < n)) w w2 → P w2
theorem Kee.of {w0 w : World} {P : World → Prop} (h : Made w0 w P) : Kee w0.heap.size w.heap.size w P := h
theorem Kee.step {b n G : Nat} {w w' : World} {P : World → Prop} (h : Kee b n w P) (m : Only G w w') (hG : G < b) : Kee b n w' P := fun w2 hw => h w2 ((m.mrk.mono fun k e hc => by subst e; omega).trans hw)
theorem Kee.drew {b n : Nat} {w : World} {P : World → Prop} (h : Kee b n w P) : Kee b n w.drew P := fun w2 hw => h w2 ((Mrk.refl _ _).drew.trans hw)
theorem Kee.made {b n : Nat} {w0 w : World} {P : World → Prop} (h : Kee b n w P) (hb : w0.heap.size ≤ b) (hn : n ≤ w.heap.size) : Made w0 w P := fun w2 hw => h w2 (hw.mono fun k hk hc => hk ⟨by omega, by omega⟩)
theorem rowv_made {w0 w : World} {g : Nat} {L : List Value} (h : RowV w g L) (h1 : w0.heap.size ≤ g) (h2 : g < w.heap.size) : Made w0 w (fun w2 => RowV w2 g L) := fun w2 hw => h.same fun k => hw.far ⟨g, k, none⟩ h2 (fun hn => hn ⟨h1, h2⟩)
end Go.Proofs.YtchfpiadfmnphaaDoor
namespace Go.Proofs.YtchfpiadfmnphaaDoor
open Go.RowKit Go.Maps
set_option linter.unusedVariables false

def kyv (t : ByteArray) : List Value := bvs t.data.toList
theorem kyv_len (t : ByteArray) : (kyv t).length = t.size := by unfold kyv; rw [bvs_length]; rfl
theorem kyv_one (t : ByteArray) : ∀ v ∈ kyv t, v.oneCell' = true := fun v hv => by
  unfold kyv bvs at hv
  obtain ⟨b, _, rfl⟩ := List.mem_map.1 hv
  rfl
set_option maxRecDepth 100000 in
theorem run_copyStr (g : Nat) (l : List Value) (t : ByteArray) (w : World) (ty : TypeId) (hl : RowV w g l) (ht : t.size = l.length) :
    (Builtin.copy_ #[80, 9] ty #[.slice (some ⟨g, 0, none⟩) l.length l.length, .string t]).run Tryd.prog w = .ok (goInt l.length) (w.setCells g 0 (kyv t)) := by
  have hst := run_storeCells_cells (P := Tryd.prog) g 0 (kyv t) 0 w (fun j hj => by
      have := (hl.ths j (by rw [kyv_len, ht] at hj; exact hj)).1
      simpa using this) (fun j hj => by
      have := (hl.ths j (by rw [kyv_len, ht] at hj; exact hj)).2
      simpa using this) (kyv_one t)
  have hk : List.take l.length (List.map (fun b : UInt8 => Value.int .u8 b.toNat) t.data.toList) = kyv t := by
    rw [List.take_of_length_le (by rw [List.length_map, ← ht]; exact Nat.le_refl _)]
    rfl
  obtain ⟨i, hi, _, hz, _⟩ := info_parts Tryd.infoU8
  simp [Builtin.copy_, run_underlying Tryd.underlying80, Builtin.lenOf, Builtin.firstCells, sizeOf, typeInfo, hi, ht]
  rw [hk, hst]
  simp
theorem wpList_copyStr {ops : Array Oper} {rest : List Oper} {o : Oper} {a : Act} {w : World} {Q : Exit → Act → World → Prop} (hg : o.guard = none) (d s : Operand) (ho : o.op = .call { callee := .builtin .copy, args := #[d, s], argTypes := #[80, 9] })
    (g : Nat) (l : List Value) (n : Nat) (t : ByteArray) (hn : l.length = n) (hd : a.eval d = .slice (some ⟨g, 0, none⟩) n n) (hs : a.eval s = .string t) (hl : RowV w g l) (ht : t.size = n)
    (h : ∀ w', RowV w' g (kyv t) → Only g w w' → wpList Tryd.prog ops Q rest (a.put o.dst (goInt n)) w') : wpList Tryd.prog ops Q (o :: rest) a w := by
  subst hn
  refine wpList_plain hg fun K hK => ?_
  have hr := run_copyStr g l t w o.type hl ht
  unfold Oper.wp execOp
  simp only [ho, resolve, invoke, builtin, Sem.run_bind, Sem.run_pure, Result.andThen_ok, List.map_toArray, List.map_cons, List.map_nil, hd, hs, hr]
  refine hK _ _ (h _ ?_ (Only.set (fun B hB => below_set hB) (fun k hk => setCells_blk g _ _ _ k hk) (setCells_size g _ 0 w)))
  have hl2 : (kyv t).length = l.length := by rw [kyv_len, ht]
  have := hl.midS (p := 0) (l2 := kyv t) (l' := kyv t) (by rw [hl2]; omega) (by rw [hl2, Nat.zero_add, List.drop_length, List.append_nil]; rfl)
  exact this
theorem slcK (g : Nat) (w : World) : (Instr.sliceAt 71 (.pointer (some ⟨g, 0, none⟩)) none none none).run Tryd.prog w = .ok (.slice (some ⟨g, 0, none⟩) 32 32) w := by
  have hl : Tryd.prog.arrayLen 71 = 32 := by kernel_rfl
  have he : Tryd.prog.elem 71 = 5 := by kernel_rfl
  have ht : Tryd.prog.underlying 71 = some (.array (Tryd.prog.arrayLen 71) (Tryd.prog.elem 71)) := by rw [hl, he]; exact Tryd.underlying71
  obtain ⟨i, hi, _, hz, _⟩ := info_parts Tryd.infoU8
  rw [run_sliceAt_array_all w 71 ⟨g, 0, none⟩ ht, hl, he]
  simp [sizeOf, typeInfo, hi, slicedAt, Addr.add, go_sem]
theorem wpList_slcK {ops : Array Oper} {rest : List Oper} {o : Oper} {a : Act} {w : World} {Q : Exit → Act → World → Prop} (hg : o.guard = none) (d : Operand) (ho : o.op = .slice 71 d none none none)
    (g : Nat) (hd : a.eval d = .pointer (some ⟨g, 0, none⟩)) (h : wpList Tryd.prog ops Q rest (a.put o.dst (.slice (some ⟨g, 0, none⟩) 32 32)) w) : wpList Tryd.prog ops Q (o :: rest) a w := by
  refine wpList_plain hg fun K hK => ?_
  have hr := slcK g w
  unfold Oper.wp execOp
  simp only [ho, Option.map_none, hd, hr, Sem.run_bind, Sem.run_pure, Result.andThen_ok]
  exact hK _ _ h
set_option maxRecDepth 100000 in
set_option maxHeartbeats 2000000 in
theorem keyOfI (t : ByteArray) (w : World) (h : t.size = 32) :
    Calls Tryd.prog 45 #[.string t] w fun r w' => r = .returned (.agg (kyv t).toArray) ∧ Below w.heap.size w w' := by
  have hk32 : (kyv t).length = 32 := (kyv_len t).trans h
  have hone := List.all_eq_true.2 (kyv_one t)
  have zK : (Tryd.prog.info? 71).map (fun i => i.zero) = some (some (.agg (List.replicate 32 (.int .u8 0)).toArray)) := Tryd.zT_implblobKey
  go_enter Tryd.func45, Tryd.ntmps45
  go_wp2_with (first
    | ((with_reducible refine wpList_allocV (w := w) (by with_unfolding_all rfl) 71 (by with_unfolding_all rfl) (List.replicate 32 (.int .u8 0)) zK ?_); intro w1 hA1 hB1 hS1; have z1 : w.heap.size < w1.heap.size := (by omega); clear hS1)
    | ((with_reducible refine wpList_allocV (w := w1) (by with_unfolding_all rfl) 71 (by with_unfolding_all rfl) (List.replicate 32 (.int .u8 0)) zK ?_); intro w2 hA2 hB2 hS2; clear hS2; have R2 := hA1.below hB2 z1)
    | (with_reducible refine wpList_slcK (w := w2) (by with_unfolding_all rfl) (.tmp 3) (by with_unfolding_all rfl) w1.heap.size (by with_unfolding_all rfl) ?_)
    | ((with_reducible refine wpList_copyStr (w := w2) (by with_unfolding_all rfl) (.tmp 4) (.tmp 5) (by with_unfolding_all rfl) w1.heap.size (List.replicate 32 (.int .u8 0)) 32 t (by with_unfolding_all rfl) (by with_unfolding_all rfl) (by with_unfolding_all rfl) hA2 h ?_); intro w3 hA3 hO3; have R3 := hO3.row R2 (by simp) (Nat.ne_of_lt z1))
    | ((with_reducible refine wpList_loadV (w := w3) (by with_unfolding_all rfl) 71 (.tmp 3) (by with_unfolding_all rfl) w1.heap.size (kyv t) (by with_unfolding_all rfl) hA3 Tryd.uT_implblobKey 32 Tryd.sT_implblobKey hk32 ?_))
    | ((with_reducible refine wpList_storeS (w := w3) (by with_unfolding_all rfl) 71 (.tmp 2) (.tmp 7) (by with_unfolding_all rfl) w.heap.size (List.replicate 32 (.int .u8 0)) (kyv t) (by with_unfolding_all rfl) (by with_unfolding_all rfl) R3 32 Tryd.sT_implblobKey rfl hk32 hone ?_); intro w4 hA4 hO4; have B4 : Below w.heap.size w w4 := (((hB1.trans (hB2.mono (Nat.le_of_lt z1))).trans (hO3.bel (Nat.le_of_lt z1))).trans (hO4.bel (Nat.le_refl _)))))
  exact bodyPost_ret (results_V (t := 71) rfl _ w.heap.size (kyv t) rfl hA4 Tryd.uT_implblobKey 32 Tryd.sT_implblobKey hk32) rfl ⟨rfl, B4⟩
/- The key's law. -/
theorem laidK : laidOutB Tryd.prog = true := by kernel_rfl
theorem keyedK : Keyed Tryd.prog 71 := Keyed.of_law (deep_law_laid laidK (m := 2) (by omega) (of_decide_eq_true (by kernel_rfl)) (by kernel_rfl) (by kernel_rfl))
theorem mapM_yes {α β : Type} {f : α → Option β} {g : α → β} : ∀ L : List α, (∀ x ∈ L, f x = some (g x)) → L.mapM f = some (L.map g)
  | [], _ => rfl
  | x :: L, h => by
    rw [List.mapM_cons, h x (List.mem_cons_self ..), mapM_yes L (fun y hy => h y (List.mem_cons_of_mem _ hy))]
    rfl
/- What a digest reads as, as a key. -/
def kyl (t : ByteArray) : Lit := .string (keyBytes (((List.range 32).map fun i => [Lit.int .u8 (t.data.toList.getD i 0).toNat]).flatten))
theorem key_of (t : ByteArray) (h : t.size = 32) : keyOf Tryd.prog 71 (.agg (kyv t).toArray) = some (kyl t) := by
  have hu := Tryd.underlying71
  have hc : Tryd.prog.cellsOf 71 = 32 := by kernel_rfl
  have hc1 : Tryd.prog.cellsOf 5 = 1 := by kernel_rfl
  have hkt : Tryd.prog.keyType 71 = true := by kernel_rfl
  have hl : (kyv t).length = 32 := (kyv_len t).trans h
  obtain ⟨D, hD⟩ : ∃ D, Tryd.prog.types.size + 1 = D + 2 := ⟨Tryd.prog.types.size - 1, by have : 0 < Tryd.prog.types.size := of_decide_eq_true (by kernel_rfl); omega⟩
  have hlit : ∀ i, i < 32 → Tryd.prog.keyLits (D + 1) 5 (((kyv t).drop (i * 1)).take 1) = some [.int .u8 (t.data.toList.getD i 0).toNat] := fun i hi => by
    have hi2 : i < t.data.toList.length := by have : t.data.toList.length = 32 := h; omega
    have e : ((kyv t).drop (i * 1)).take 1 = [.int .u8 (t.data.toList.getD i 0).toNat] := by
      unfold kyv bvs
      rw [Nat.mul_one, ← List.map_drop, ← List.map_take, List.drop_eq_getElem_cons hi2]
      simp [BV, List.getD_eq_getElem?_getD, List.getElem?_eq_getElem hi2]
    rw [e]
    generalize t.data.toList.getD i 0 = b
    have hb := b.toNat_lt
    rw [Program.keyLits]
    case heq => exact Tryd.underlying5
    rw [if_pos ⟨rfl, by simp [Lit.wf, IntKind.min, IntKind.max, IntKind.signed, IntKind.bits]; omega⟩]
  unfold keyOf
  rw [hu]
  simp only
  rw [hkt, show (Value.agg (kyv t).toArray).formed Tryd.prog 71 = true by simp [Value.formed, hu, hc, hl], hD]
  simp only [Bool.and_self, if_true]
  rw [show (Value.agg (kyv t).toArray).cells.toList = kyv t by simp [Value.cells]]
  have hk : Tryd.prog.keyLits (D + 2) 71 (kyv t) = (((List.range 32).mapM fun i => Tryd.prog.keyLits (D + 1) 5 (((kyv t).drop (i * 1)).take 1)).map List.flatten) := by
    rw [Program.keyLits]
    case heq => exact hu
    rw [if_pos (by rw [hl, hc]), hc1]
  rw [hk, mapM_yes (g := fun i => [Lit.int .u8 (t.data.toList.getD i 0).toNat]) (List.range 32) (fun i hi => hlit i (List.mem_range.1 hi))]
  rfl
/- What is held of an element: itself. -/
def valK (v : Value) : Option (DataW Value × List MemPlace) := some (.held v, [])
end Go.Proofs.YtchfpiadfmnphaaDoor
namespace Go.Proofs.YtchfpiadfmnphaaDoor
open Go.RowKit
set_option linter.unusedVariables false

def StrO (w : World) (base : Nat) (v : Value) (l : List ByteArray) : Prop := w.ownsRow base 9 1 v l.length (svl l)
theorem StrO.row {w : World} {base n c : Nat} {a : Option Addr} {l : List ByteArray} (h : StrO w base (.slice a n c) l) : VR w a (svl l) ∧ (∀ ad, a = some ad → base ≤ ad.block ∧ ad.block < w.heap.size) ∧ n = l.length := by
  rcases h.2 with ⟨h0, hn⟩ | ⟨g, cap, cur, hv, hbg, hg, h1, h2, h3, h4⟩
  · injection h0 with e1 e2 e3
    subst e1
    have : l = [] := List.eq_nil_of_length_eq_zero hn
    subst this
    exact ⟨fun hl => absurd rfl hl, fun ad e => (by cases e), e2⟩
  · injection hv with e1 e2 e3
    subst e1 e2
    have h' : w.ownsRow base 9 1 (.slice (some ⟨g, 0, none⟩) l.length c) l.length (svl l) := h
    have hlen : (svl l).length = l.length * 1 := by rw [svl_length, Nat.mul_one]
    refine ⟨fun _ => ⟨g, rfl, ⟨fun j v hv => ?_, fun j hj => ?_⟩⟩, fun ad e => (by injection e with e; rw [← e]; exact ⟨hbg, (Array.getElem?_eq_some_iff.1 hg).1⟩), rfl⟩
    · have hj : j < l.length * 1 := by have := (List.getElem?_eq_some_iff.1 hv).1; rw [hlen] at this; exact this
      rw [Nat.zero_add, World.ownsRow.cellAt h' j hj, hv]
    · have hj2 : j < l.length * 1 := by rw [hlen] at hj; exact hj
      rw [Nat.zero_add, World.ownsRow.cellAt h' j hj2]
      have hjl : j < (svl l).length := by rw [hlen]; exact hj2
      rw [List.getElem?_eq_getElem hjl]
      exact ⟨rfl, h'.frozenAt j⟩
theorem VR.sa {w : World} {a : Option Addr} {l : List ByteArray} (h : VR w a (svl l)) : SA w a l := fun i hi => by
  obtain ⟨g, rfl, hr⟩ := h (fun e => by have h2 := congrArg List.length e; rw [svl_length] at h2; have h3 : l.length = 0 := h2; omega)
  exact hr.sa i hi
theorem StrO.form {w : World} {base : Nat} {v : Value} {l : List ByteArray} (h : StrO w base v l) : ∃ a n c, l.length = n ∧ v = .slice a n c := by
  rcases h.2 with ⟨h0, hn⟩ | ⟨g, cap, cur, hv, hbg, hg, h1, h2, h3, h4⟩
  · exact ⟨none, 0, 0, hn, h0⟩
  · exact ⟨some ⟨g, 0, none⟩, _, cap, rfl, hv⟩
theorem wp_buildStr {o : Oper} {a : Act} {w : World} {K : Act → World → Prop} {Q : Exit → Act → World → Prop} (x : Operand) (ho : o.op = .buildSlice 22 1 #[(0, x)]) (x0 : ByteArray) (e0 : a.eval x = .string x0)
    (h : ∀ w', RowV w' w.heap.size [.string x0] → Below w.heap.size w w' → K (a.put o.dst (.slice (some ⟨w.heap.size, 0, none⟩) 1 1)) w') : o.wp Tryd.prog a w K Q := by
  obtain ⟨i0, hi, hz0, hz1, hz2⟩ := info_parts Tryd.infoStr
  refine wp_buildSlice 22 9 1 _ ho #[.string x0] i0 _ Tryd.underlying22 hi hz0 (by rw [hz1]; omega) (by rw [hz1]; omega) ?_ (h _ (RowV.new w [.string x0] 9) (below_alloc _ _))
  rw [hz1]
  simp only [List.map_toArray, List.map, e0]
  kernel_rfl
theorem wp_appendStr {W : World} {o : Oper} {a : Act} {K : Act → World → Prop} {Q : Exit → Act → World → Prop} (s x : Operand) (ho : o.op = .call { callee := .builtin .append, args := #[s, x], argTypes := #[22, 22] })
    (base : Nat) (v : Value) (l : List ByteArray) (y : ByteArray) (hs : a.eval s = v) (hown : StrO W base v l) (B : Nat) (hx : a.eval x = .slice (some ⟨B, 0, none⟩) 1 1) (hB : RowV W B [.string y]) (hn : l.length ≤ 1000) (hbase : base ≤ W.heap.size)
    (h : ∀ v' w', StrO w' base v' (l ++ [y]) → W.grownBy w' v.ownBlock → (v'.ownBlock = v.ownBlock ∨ v'.ownBlock = some W.heap.size) → K (a.put o.dst v') w') : Oper.wp Tryd.prog o a W K Q := by
  obtain ⟨i0, hi, hz0, hz1, hz2⟩ := info_parts Tryd.infoStr
  obtain ⟨v', w', hr, h2, h3, h4, h5⟩ := run_append_own_at (P := Tryd.prog) W base 22 o.type 9 i0 _ 1 16 Tryd.underlying22 hi hz0 hz1 hz2 rfl (by decide) v l.length (svl l) hown ⟨B, 0, none⟩ 1 1 [.string y] rfl
    (fun j u hj => by rw [Addr.add_lit]; have := hB.rng j u hj; exact this) (fun u hu => by cases List.mem_singleton.1 hu; rfl) (by unfold maxLen; omega) (by omega) hbase
  unfold Oper.wp execOp
  simp only [ho, resolve, invoke, builtin, Sem.run_bind, Sem.run_pure, Result.andThen_ok, List.map_toArray, List.map_cons, List.map_nil, hs, hx, hr]
  refine h v' w' ?_ h3 h5
  unfold StrO
  have ea : svl (l ++ [y]) = svl l ++ [.string y] := by unfold svl; rw [List.map_append]; rfl
  rw [ea, List.length_append]
  exact h2
theorem wpList_buildStr {ops : Array Oper} {rest : List Oper} {o : Oper} {a : Act} {w : World} {Q : Exit → Act → World → Prop} (hg : o.guard = none) (x : Operand) (ho : o.op = .buildSlice 22 1 #[(0, x)]) (x0 : ByteArray) (e0 : a.eval x = .string x0)
    (h : ∀ w', RowV w' w.heap.size [.string x0] → Below w.heap.size w w' → wpList Tryd.prog ops Q rest (a.put o.dst (.slice (some ⟨w.heap.size, 0, none⟩) 1 1)) w') : wpList Tryd.prog ops Q (o :: rest) a w :=
  wpList_plain hg fun _ hK => wp_buildStr x ho x0 e0 (fun w' h1 h2 => hK _ _ (h w' h1 h2))
theorem wpList_appendStr {ops : Array Oper} {rest : List Oper} {W : World} {o : Oper} {a : Act} {Q : Exit → Act → World → Prop} (hg : o.guard = none) (s x : Operand) (ho : o.op = .call { callee := .builtin .append, args := #[s, x], argTypes := #[22, 22] })
    (base : Nat) (v : Value) (l : List ByteArray) (y : ByteArray) (hs : a.eval s = v) (hown : StrO W base v l) (B : Nat) (hx : a.eval x = .slice (some ⟨B, 0, none⟩) 1 1) (hB : RowV W B [.string y]) (hn : l.length ≤ 1000) (hbase : base ≤ W.heap.size)
    (h : ∀ v' w', StrO w' base v' (l ++ [y]) → W.grownBy w' v.ownBlock → (v'.ownBlock = v.ownBlock ∨ v'.ownBlock = some W.heap.size) → wpList Tryd.prog ops Q rest (a.put o.dst v') w') : wpList Tryd.prog ops Q (o :: rest) a W :=
  wpList_plain hg fun _ hK => wp_appendStr s x ho base v l y hs hown B hx hB hn hbase (fun v' w' h1 h2 h3 => hK _ _ (h v' w' h1 h2 h3))
end Go.Proofs.YtchfpiadfmnphaaDoor
