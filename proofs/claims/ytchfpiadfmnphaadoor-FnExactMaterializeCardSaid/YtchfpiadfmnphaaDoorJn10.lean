/- A map of the call's own, keyed by digests: made, put into, kept among what stands. What a store is asked for: the text of a digest. The map tells what the list tells. -/
import Derived.Test.YtchfpiadfmnphaaDoorStK
import Derived.Test.YtchfpiadfmnphaaDoorJn20
import Derived.Test.YtchfpiadfmnphaaDoorTy
namespace Go.Proofs.YtchfpiadfmnphaaDoor
open Go.RowKit Go.Maps
set_option linter.unusedVariables false

def mapD (L : List ByteArray) : DataW Value := L.foldl (fun D x => D.put (kyl (digA x)) (.held (.agg #[.string x]))) (.map [])
theorem mapD_snoc (L : List ByteArray) (x : ByteArray) : mapD (L ++ [x]) = (mapD L).put (kyl (digA x)) (.held (.agg #[.string x])) := by
  unfold mapD
  rw [List.foldl_append]
  rfl
/- The map at block B: each text by its digest. -/
def MapK (w : World) (B : Nat) (L : List ByteArray) : Prop := w.ownsMap Tryd.prog 71 valK B L.length (mapD L)
theorem MapK.lt {w : World} {B : Nat} {L : List ByteArray} (h : MapK w B L) : B < w.heap.size := World.ownsMap.lt h
theorem MapK.same {w w' : World} {B : Nat} {L : List ByteArray} (h : MapK w B L) (hb : w'.heap[B]? = w.heap[B]?) : MapK w' B L := by
  obtain ⟨es, clock, h1, h2⟩ := h
  exact ⟨es, clock, hb.trans h1, h2⟩
theorem MapK.snoc {w : World} {B k : Nat} {l : List ByteArray} {x : ByteArray} (h : MapK w B (l.take k ++ [x])) (hk : k < l.length) (hx : l[k] = x) : MapK w B (l.take (k + 1)) := by
  rw [← hx, List.take_append_getElem] at h
  exact h
theorem wpList_makeMapK {ops : Array Oper} {rest : List Oper} {o : Oper} {a : Act} {w : World} {Q : Exit → Act → World → Prop} (hg : o.guard = none) (t : TypeId) (ho : o.op = .makeMap t none)
    (h : ∀ B w', w.heap.size = B → B < w'.heap.size → Below w.heap.size w w' → MapK w' B [] → wpList Tryd.prog ops Q rest (a.put o.dst (.map (some B))) w') : wpList Tryd.prog ops Q (o :: rest) a w := by
  refine wpList_plain hg fun K hK => ?_
  have hr := run_makeMap (P := Tryd.prog) t w
  unfold Oper.wp execOp
  simp only [ho, Option.map_none, hr, Sem.run_bind, Sem.run_pure, Result.andThen_ok]
  have hm := World.ownsMap_made w Tryd.prog 71 valK
  exact hK _ _ (h _ _ rfl hm.lt ((Below.refl _ w).alloc (Nat.le_refl _) _) hm)
theorem upon_makeMapK {o : Oper} {a : Act} {w : World} {K : Act → World → Prop} {Q : Exit → Act → World → Prop} (t : TypeId)
    (h : ∀ B w', w.heap.size = B → B < w'.heap.size → Below w.heap.size w w' → MapK w' B [] → K (a.put o.dst (.map (some B))) w') : Oper.upon Tryd.prog o a K Q ((Sem.run Tryd.prog (Instr.makeMap t none) w).andThen fun a w' => Result.ok (Next.value a) w') := by
  rw [run_makeMap]
  have hm := World.ownsMap_made w Tryd.prog 71 valK
  exact h _ _ rfl hm.lt ((Below.refl _ w).alloc (Nat.le_refl _) _) hm
theorem wpList_putK {ops : Array Oper} {rest : List Oper} {o : Oper} {a : Act} {w : World} {Q : Exit → Act → World → Prop} (hg : o.guard = none) (m x v : Operand) (ho : o.op = .mapUpdate 51 m x v)
    (B : Nat) (L : List ByteArray) (t X : ByteArray) (hm : a.eval m = .map (some B)) (hx : a.eval x = .agg (kyv t).toArray) (hv : a.eval v = .agg #[.string X]) (hM : MapK w B L) (ht : digA X = t) (h32 : t.size = 32) (hn : L.length < maxLen)
    (h : ∀ w', MapK w' B (L ++ [X]) → w.grownBy w' (some B) → wpList Tryd.prog ops Q rest (a.put o.dst undef) w') : wpList Tryd.prog ops Q (o :: rest) a w := by
  refine wpList_mapUpdate_own w hg m x v 51 ho 71 69 keyedK Tryd.underlying51 valK B L.length (mapD L) hm hM hn _ _ (kyl t) hx hv (key_of t h32) (.held (.agg #[.string X])) [] rfl fun w' h1 h2 => h w' ?_ h2
  unfold MapK
  rw [mapD_snoc, List.length_append, ht]
  exact h1
section
variable {G : List Nat} {w0 w w2 : World} {R : List (Nat × List Value)} {T : List Thing}
theorem Sta.map0 {B : Nat} (h : Hid (Sta G w0 R T w)) (hb : w.heap.size = B) (hlt : B < w2.heap.size) (hB : Below w.heap.size w w2) (hM : MapK w2 B []) : Hid (Sta G w0 R (⟨fun k => k = B, fun w' => MapK w' B []⟩ :: T) w2) := by
  have h2 := (Sta.call h hB).out
  refine ⟨h2.bel, h2.row, fun t ht => ?_, h2.dif, List.pairwise_cons.2 ⟨fun t ht k hk hd => ?_, h2.dis⟩, fun x hx t ht hd => ?_⟩
  · rcases List.mem_cons.1 ht with rfl | ht
    · exact ⟨fun k hk => hk ▸ hlt, fun w' hw => hM.same (hw.blk B hlt (fun hn => hn rfl))⟩
    · exact h2.thg t ht
  · have := (h.out.thg t ht).lt k hd
    have hk' : k = B := hk
    omega
  · rcases List.mem_cons.1 ht with rfl | ht
    · have := (h.out.row x hx).2.2.lt (h.out.row x hx).2.1
      have : x.1 = B := hd
      omega
    · exact h2.off x hx t ht hd
theorem Sta.upd {B : Nat} {P : World → Prop} {L : List ByteArray} (i : Nat) (h : Hid (Sta G w0 R T w)) (hi : T[i]? = some ⟨fun k => k = B, P⟩) (hb0 : w0.heap.size ≤ B) (hM : MapK w2 B L) (hg : w.grownBy w2 (some B)) : Hid (Sta G w0 R (T.set i ⟨fun k => k = B, fun w' => MapK w' B L⟩) w2) := by
  obtain ⟨hlt, he⟩ := List.getElem?_eq_some_iff.1 hi
  have hmem : (⟨fun k => k = B, P⟩ : Thing) ∈ T := he ▸ List.getElem_mem hlt
  have hm : Mrk (fun k => k = B) w w2 := ⟨fun k hk hn => hg.block k hk (fun e => hn (by injection e)), fun B' hB hb => ⟨hg.os, hg.tape, hg.output, hg.size, fun k hk => hg.block k (Nat.lt_of_lt_of_le hk hB) (fun e => by injection e with e; have := hb B rfl; omega)⟩, hg.size⟩
  have hset : ∀ t ∈ T.set i ⟨fun k => k = B, fun w' => MapK w' B L⟩, t = ⟨fun k => k = B, fun w' => MapK w' B L⟩ ∨ (t ∈ T ∧ ∀ k, k = B → ¬ t.dom k) := fun t ht => by
    obtain ⟨j, hj, rfl⟩ := List.mem_iff_getElem.1 ht
    rw [List.getElem_set]
    rw [List.length_set] at hj
    by_cases e : i = j
    · rw [if_pos e]; exact Or.inl rfl
    · rw [if_neg e]
      refine Or.inr ⟨List.getElem_mem hj, fun k hk hd => ?_⟩
      rcases Nat.lt_or_gt_of_ne e with h1 | h1
      · have := List.pairwise_iff_getElem.1 h.out.dis i j hlt hj h1 k
        rw [he] at this
        exact this hk hd
      · have := List.pairwise_iff_getElem.1 h.out.dis j i hj hlt h1 k hd
        rw [he] at this
        exact this hk
  refine ⟨h.out.bel.step ⟨hg.os, hg.tape, hg.output, hg.size, fun k hk => absurd hk (Nat.not_lt_zero _)⟩ fun k hk _ => hg.block k (Nat.lt_of_lt_of_le hk h.out.bel.size) (fun e => by injection e with e; omega), fun x hx => ⟨(h.out.row x hx).1, (h.out.row x hx).2.1, hm.row (h.out.row x hx).2.2 (h.out.row x hx).2.1 (h.out.off x hx _ hmem)⟩, fun t ht => ?_, h.out.dif, ?_, fun x hx t ht => ?_⟩
  · rcases hset t ht with rfl | ⟨ht, hd⟩
    · exact ⟨fun k hk => by have hk' : k = B := hk; rw [hk']; exact hM.lt, fun w' hw => hM.same (hw.blk B hM.lt (fun hn => hn rfl))⟩
    · exact (h.out.thg t ht).chg hm hd
  · rw [List.pairwise_iff_getElem]
    intro a b ha hb2 hab
    rw [List.length_set] at ha hb2
    have h1 := List.pairwise_iff_getElem.1 h.out.dis a b ha hb2 hab
    rw [List.getElem_set, List.getElem_set]
    by_cases e1 : i = a
    · subst e1
      rw [if_pos rfl, if_neg (by omega)]
      rw [he] at h1
      exact h1
    · rw [if_neg e1]
      by_cases e2 : i = b
      · subst e2
        rw [if_pos rfl]
        rw [he] at h1
        exact h1
      · rw [if_neg e2]
        exact h1
  · rcases hset t ht with rfl | ⟨ht, _⟩
    · exact (h.out.off x hx ⟨fun k => k = B, P⟩ hmem : ¬ x.1 = B)
    · exact h.out.off x hx t ht
end
end Go.Proofs.YtchfpiadfmnphaaDoor
namespace Go.Proofs.YtchfpiadfmnphaaDoor
open Go.RowKit Go.Maps
set_option linter.unusedVariables false

def findO (l : List ByteArray) (t : ByteArray) : Option ByteArray := l.find? (fun x => decide (digA x = t))
theorem takeS {l : List ByteArray} {k : Nat} {x : ByteArray} (hk : k < l.length) (hx : l[k] = x) : l.take (k + 1) = l.take k ++ [x] := by rw [← hx, List.take_append_getElem]
theorem findO_snoc (L : List ByteArray) (x t : ByteArray) : findO (L ++ [x]) t = (findO L t).or (if digA x = t then some x else none) := by
  unfold findO
  rw [List.find?_append]
  by_cases h : digA x = t <;> simp [h]
theorem findO_step {l : List ByteArray} {k : Nat} {x t : ByteArray} (hk : k < l.length) (hx : l[k] = x) (h : findO (l.take k) t = none) (he : ¬ digA x = t) : findO (l.take (k + 1)) t = none := by
  rw [takeS hk hx, findO_snoc, h, if_neg he]; rfl
theorem findO_hit {l : List ByteArray} {k : Nat} {x t : ByteArray} (hk : k < l.length) (hx : l[k] = x) (h : findO (l.take k) t = none) (he : digA x = t) : findO l t = some x := by
  have h2 : findO (l.take (k + 1)) t = some x := by rw [takeS hk hx, findO_snoc, h, if_pos he]; rfl
  rw [← List.take_append_drop (k + 1) l]
  unfold findO at h2 ⊢
  rw [List.find?_append, h2]
  rfl
theorem findO_all {l : List ByteArray} {n : Nat} {t : ByteArray} (h : findO (l.take n) t = none) (hn : l.length = n) : findO l t = none := by
  rw [List.take_of_length_le (Nat.le_of_eq hn)] at h; exact h
theorem findO_le {l : List ByteArray} {t x : ByteArray} (h : findO l t = some x) : x ∈ l ∧ digA x = t := by
  unfold findO at h
  exact ⟨List.mem_of_find?_eq_some h, by have := List.find?_some h; simpa using this⟩
theorem nmLt_trans {a b c : ByteArray} (h : nmLt a b = true) (k : nmLt b c = true) : nmLt a c = true := by
  unfold nmLt at *
  rw [blt_eq] at *
  exact decide_eq_true (List.lt_trans (of_decide_eq_true h) (of_decide_eq_true k))
theorem nmLt_irr (a : ByteArray) : nmLt a a = false := by
  unfold nmLt
  rw [blt_eq]
  exact decide_eq_false (List.lt_irrefl _)
theorem StOk.lt {l : List ByteArray} (h : StOk l) (i : Nat) : ∀ d (hj : i + d + 1 < l.length), nmLt (digA (l[i]'(by omega))) (digA l[i + d + 1]) = true
  | 0, hj => h.2.2 i hj hj
  | d + 1, hj => nmLt_trans (StOk.lt h i d (by omega)) (h.2.2 (i + d + 1) hj hj)
theorem StOk.ne {l : List ByteArray} (h : StOk l) {i j : Nat} (hij : i < j) (hj : j < l.length) : ¬ digA (l[i]'(by omega)) = digA l[j] := fun e => by
  obtain ⟨d, rfl⟩ : ∃ d, j = i + d + 1 := ⟨j - i - 1, by omega⟩
  have := StOk.lt h i d hj
  rw [e, nmLt_irr] at this
  cases this
theorem kyl_inj {a b : ByteArray} (ha : a.size = 32) (hb : b.size = 32) (h : kyl a = kyl b) : a = b := by
  have h1 := keyedK.inj (key_of a ha) (h ▸ key_of b hb)
  injection h1 with h1
  have h2 : kyv a = kyv b := by simpa using congrArg Array.toList h1
  unfold kyv bvs at h2
  have h3 := (List.map_inj_right (fun x y e => by
    injection e with _ e
    exact UInt8.toNat_inj.1 (by omega))).1 h2
  obtain ⟨⟨x⟩⟩ := a
  obtain ⟨⟨y⟩⟩ := b
  simp at h3
  rw [h3]
theorem isMap_mapD (L : List ByteArray) : IsMap (mapD L) := by
  unfold mapD
  suffices h : ∀ (L : List ByteArray) (D : DataW Value), IsMap D → IsMap (L.foldl (fun D x => D.put (kyl (digA x)) (.held (.agg #[.string x]))) D) from h L _ isMap_empty
  intro L
  induction L with
  | nil => exact fun D h => h
  | cons x L ih =>
    intro D ⟨es, hD⟩
    exact ih _ (by subst hD; exact ⟨_, rfl⟩)
theorem mapD_at {l : List ByteArray} {t : ByteArray} (h : StOk l) (ht : t.size = 32) (zd : DataW Value) : ∀ k, k ≤ l.length → (mapD (l.take k)).atKey (kyl t) zd = ((findO (l.take k) t).map fun x => DataW.held (.agg #[.string x])).getD zd
  | 0, _ => by simp [mapD, findO, DataW.atKey]
  | k + 1, hk => by
    have hkl : k < l.length := by omega
    have ih := mapD_at h ht zd k (by omega)
    rw [takeS hkl rfl, mapD_snoc, findO_snoc]
    by_cases e : digA l[k] = t
    · have hno : findO (l.take k) t = none := by
        unfold findO
        rw [List.find?_eq_none]
        intro x hx
        obtain ⟨i, hi, rfl⟩ := List.mem_iff_getElem.1 hx
        have hi2 : i < k := by rw [List.length_take] at hi; omega
        rw [List.getElem_take]
        simp only [decide_eq_true_eq]
        intro e2
        exact StOk.ne h hi2 hkl (e2.trans e.symm)
      rw [hno, if_pos e, e, atKey_put_same (k := kyl t) (isMap_mapD _) (by unfold kyl; trivial)]
      rfl
    · have hne : ¬ kyl t = kyl (digA l[k]) := fun q => e (kyl_inj ht (digA_32 (h.2.1 k hkl hkl)) q).symm
      rw [atKey_put_other hne, ih, if_neg e, Option.or_none]
theorem findO_size {l : List ByteArray} {t x : ByteArray} (h : StOk l) (hf : findO l t = some x) : t.size = 32 := by
  obtain ⟨h1, h2⟩ := findO_le hf
  obtain ⟨i, hi, rfl⟩ := List.mem_iff_getElem.1 h1
  rw [← h2]
  exact digA_32 (h.2.1 i hi hi)
/- What StoreGet answers. -/
noncomputable def getC (l : List ByteArray) (t : ByteArray) : Int := if 20000 < t.size then 2 else if boolP (StOk l) = true then (if (findO l t).isSome = true then 0 else 9) else 1
noncomputable def getY (l : List ByteArray) (t : ByteArray) : ByteArray := if 20000 < t.size then ⟨#[]⟩ else if boolP (StOk l) = true then (findO l t).getD ⟨#[]⟩ else ⟨#[]⟩
theorem get_cases (l : List ByteArray) (t : ByteArray) : (20000 < t.size ∧ getC l t = 2 ∧ getY l t = ⟨#[]⟩) ∨ (¬ 20000 < t.size ∧ ¬ StOk l ∧ getC l t = 1 ∧ getY l t = ⟨#[]⟩) ∨ (¬ 20000 < t.size ∧ StOk l ∧ findO l t = none ∧ getC l t = 9 ∧ getY l t = ⟨#[]⟩) ∨ ∃ X, ¬ 20000 < t.size ∧ StOk l ∧ findO l t = some X ∧ getC l t = 0 ∧ getY l t = X := by
  unfold getC getY
  by_cases h1 : 20000 < t.size
  · exact Or.inl ⟨h1, if_pos h1, if_pos h1⟩
  · rw [if_neg h1, if_neg h1]
    by_cases h2 : StOk l
    · have h3 := boolP_yes h2
      rw [if_pos h3, if_pos h3]
      cases hf : findO l t with
      | none => exact Or.inr (Or.inr (Or.inl ⟨h1, h2, rfl, rfl, rfl⟩))
      | some X => exact Or.inr (Or.inr (Or.inr ⟨X, h1, h2, rfl, rfl, rfl⟩))
    · have h3 := boolP_no h2
      rw [if_neg (by rw [h3]; decide), if_neg (by rw [h3]; decide)]
      exact Or.inr (Or.inl ⟨h1, h2, rfl, rfl⟩)
def getV (o : Option ByteArray) : Value := match o with
  | some x => .tuple #[.string x, .bool true]
  | none => .tuple #[.string ⟨#[]⟩, .bool false]
theorem zeroSt (w : World) : (zeroValue 69).run Tryd.prog w = .ok (.agg #[.string ⟨#[]⟩]) w := by
  have hz := Tryd.zT_implstored
  cases hq : Tryd.prog.info? 69 with
  | none => rw [hq] at hz; cases hz
  | some i =>
    rw [hq] at hz
    simp only [Option.map_some, Option.some.injEq] at hz
    simp [zeroValue, typeInfo, hq, hz]
set_option maxRecDepth 100000 in
theorem lookK {w : World} {B : Nat} {l : List ByteArray} {t : ByteArray} (hM : MapK w B l) (ht : t.size = 32) (h : StOk l) (hz : (zeroValue 69).run Tryd.prog w = .ok (.agg #[.string ⟨#[]⟩]) w) :
    (Instr.lookup 51 (.map (some B)) (.agg (kyv t).toArray) true).run Tryd.prog w = .ok (match findO l t with | some x => .tuple #[.agg #[.string x], .bool true] | none => .tuple #[.agg #[.string ⟨#[]⟩], .bool false]) w := by
  obtain ⟨es, clock, hb, F, _, hD⟩ := hM
  have hat := fun zd => mapD_at h ht zd l.length (Nat.le_refl _)
  rw [List.take_length, hD] at hat
  rcases Maps.fit_look true keyedK Tryd.underlying51 hz hb F (key_of t ht) with ⟨hrun, _, h2⟩ | ⟨e0, y, _, _, hrun, hR, h2, _⟩
  · cases hf : findO l t with
    | none => simpa using hrun
    | some x =>
      have h3 := (h2 .nil).symm.trans (hat .nil)
      rw [hf] at h3
      cases h3
  · have hy : y.1 = .held e0.val := by
      unfold valK at hR
      injection hR with hR
      rw [← hR]
    cases hf : findO l t with
    | none =>
      have h3 := (h2 .nil).symm.trans (hat .nil)
      rw [hf, hy] at h3
      cases h3
    | some x =>
      have h3 := (h2 .nil).symm.trans (hat .nil)
      rw [hf, hy] at h3
      have h4 : e0.val = .agg #[.string x] := by
        have h5 : (DataW.held e0.val : DataW Value) = .held (.agg #[.string x]) := h3
        injection h5
      rw [h4] at hrun
      simpa using hrun
theorem wpList_lookK {ops : Array Oper} {rest : List Oper} {o : Oper} {a : Act} {w : World} {Q : Exit → Act → World → Prop} (hg : o.guard = none) (m x : Operand) (ho : o.op = .lookup 51 m x true)
    (B : Nat) (l : List ByteArray) (t : ByteArray) (v : Value) (hm : a.eval m = .map (some B)) (hx : a.eval x = .agg (kyv t).toArray) (hM : MapK w B l) (ht : t.size = 32) (hS : StOk l) (hv : (match findO l t with | some x => .tuple #[.agg #[.string x], .bool true] | none => .tuple #[.agg #[.string ⟨#[]⟩], .bool false]) = v)
    (h : wpList Tryd.prog ops Q rest (a.put o.dst v) w) : wpList Tryd.prog ops Q (o :: rest) a w := by
  refine wpList_plain hg fun K hK => ?_
  have hr := lookK hM ht hS (zeroSt w)
  rw [hv] at hr
  unfold Oper.wp
  simp [execOp, ho, hm, hx, hr, Result.andThen]
  exact hK _ _ h
end Go.Proofs.YtchfpiadfmnphaaDoor
